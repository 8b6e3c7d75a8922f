/- How many bytes sectors take, a Commit that was done, what waits; a Commit as the laws meet it. -/
import Derived.Test.YtkhknfohcebicaaTyi
import Derived.Test.YtkhknfohcebicaaJrp
import Derived.Test.YtkhknfohcebicaaJfm
import Derived.Lib.SlBytesConst
import Derived.Test.YtkhknfohcebicaaOpen
import Derived.Test.YtkhknfohcebicaaCrs
import Derived.Lib.SmallJoins
import Derived.Deep.Slices
import Derived.Handy
namespace Go.Proofs.Ytkhknfohcebicaa.Oct
open Go.RowKit Go.Deep Go.Sort

set_option maxRecDepth 100000 in
theorem ahead_nil (w : World) (t : Value) : Calls Try.prog 37 #[t, .slice none 0 0] w fun e w' => e = .returned (.int .i64 0) ∧ w' = w := by
  go_enter Try.func37, Try.ntmps37
  go_wp2_with fail
  go_ret
  exact ⟨rfl, rfl⟩

/-- The records of changes. -/
def recsM (S : List Int) (B M : Int → List Int) : List RD := (runsM M).map (recD S B M)

theorem recD_len (S : List Int) (B M : Int → List Int) (r : Int × Int) : (recD S B M r).2.length = (r.2 - r.1).toNat := by simp [recD]

theorem recs_len (S : List Int) (B M : Int → List Int) : ∀ (R : List (Int × Int)), BdE R → (lenD (R.map (recD S B M)) : Int) = sizeR R
  | [], _ => by simp [lenD, sizeR]
  | r :: R, h => by
    have ih := recs_len S B M R (fun x hx => h x (List.mem_cons_of_mem _ hx))
    have hr := h r (List.mem_cons_self ..)
    unfold lenD sizeR at *
    simp only [List.map_cons, List.sum_cons, recD_len]
    omega

/-- A commit's operations behind the reads. -/
def txO (p : Nat) (nu : Int) (D : List RD) : List AO := if D = [] then [] else comO p nu D ++ appO p D

set_option maxRecDepth 100000 in
set_option maxHeartbeats 8000000 in
theorem commit_q (w : World) (T J F : Nat) (X : Nat → Prop) (f : Fs) (A : A3) (k n : Nat) (vb vm : Value) (B M : Int → List Int) (p q : Nat) (nu : Int) (h : Txq w T J F X f A k n vb vm (.slice none 0 0) B M p q nu) (hn : n ≤ 200000) (hp : p + 1024 ≤ q) (hq : q ≤ 4194304) (hqp : q - p ≤ 90000) (hM : ∀ s : Int, ¬ (0 ≤ s ∧ s < 8192) → ¬ 2 ∈ M s) (hno : ∀ r ∈ runsM M, ¬ (r.1 < q ∧ (p : Int) < r.2)) (hsee : ∀ i, 0 ≤ seeT A.S B M i ∧ seeT A.S B M i < 256) :
    Calls Try.prog 17 #[.pointer (some ⟨T, 0, none⟩)] w fun e w' =>
      ((q : Int) - ((p : Int) + 512) < sizeR (runsM M) ∧ e = .returned (.int .i64 15) ∧ Below w.heap.size w w') ∨
      (sizeR (runsM M) ≤ (q : Int) - ((p : Int) + 512) ∧ ¬ rdR A.S (runsM M) ≤ k ∧ e = .returned (.int .i64 5) ∧ (∃ f' n', Fl w' X F f' A 0 n' ∧ n' ≤ n + 8192 ∧ Jrn w' J F p q nu) ∧ Chg X w w') ∨
      (sizeR (runsM M) ≤ (q : Int) - ((p : Int) + 512) ∧ rdR A.S (runsM M) ≤ k ∧ e = .returned (.int .i64 (cod (txO p nu (recsM A.S B M)).length (k - rdR A.S (runsM M)))) ∧ Txs w' T J (.map none) (.map none) (.slice none 0 0) true ∧
        ∃ nu' n', n' ≤ n + 8192 ∧ ∃ X' f', Fl w' X' F f' (doAll ((txO p nu (recsM A.S B M)).take (k - rdR A.S (runsM M))) A) (k - rdR A.S (runsM M) - (txO p nu (recsM A.S B M)).length) (n' + costs (txO p nu (recsM A.S B M))) ∧ (∀ q, X' q → X q ∨ w.heap.size ≤ q) ∧ Chg (fun i => X i ∨ i = J ∨ i = T) w w' ∧ Jrn w' J F p q nu' ∧ ¬ X' J) := by
  have HH := hide h
  have HOp := hide (open_tx w T J vb vm _ h.tx)
  have HSz := fun u (hu : Below w.heap.size w u) => hide (size_q u T J vb vm _ false B M (h.below hu).tx (h.below hu).ov h.mm hM)
  have HRo := fun u (hu : Below w.heap.size w u) => hide (room_j u J F p q nu (h.below hu).jr hp hq)
  have HRe := fun u (hu : Below w.heap.size w u) => hide (records_q u T J F X f A k n vb vm _ B M p q nu (h.below hu) (by omega) hp hM hno)
  have HBd := hide (runsM_bd M)
  have hRl := runsM_len M
  have HNo := hide hno
  have HSee := hide hsee
  have HLn := hide (recs_len A.S B M (runsM M) (runsM_bd M))
  have HXl := hide h.fl.x
  have hTl := h.tx.lt
  have hS0 : (fun u : World => u.cell? ⟨T, 0, none⟩ = some (.pointer (some ⟨J, 0, none⟩))) w.drew := h.tx.cell.1
  have hd0 : Below w.heap.size w w.drew := (Below.refl _ _).drew
  have hsb := (sizeR_bd _ (runsM_bd M))
  clear hno h hM hsee
  unfold recsM at *
  generalize runsM M = R at *
  go_enter Try.func17, Try.ntmps17
  go_wp2_with fail
  refine HOp.out.mono ?_
  rintro e9 w9 ⟨rfl, h9⟩
  subst h9
  go_wp2_with fail
  refine wp_region_held_drew (S := (fun u : World => u.cell? ⟨T, 0, none⟩ = some (.pointer (some ⟨J, 0, none⟩)))) (by kernel_rfl) hS0 (fun _ => ?_)
  refine any_take 0 (some 14) (.pointer (some ⟨T, 0, none⟩)) rfl rfl (by kernel_rfl) (by kernel_rfl) (by kernel_rfl) (fun _ _ _ h => h) (by rfl) hS0 ?_ ?_
  · intro u hSu
    go_simp
  simp only [Act.put, List.setIfInBounds_toArray, List.set_cons_zero, List.set_cons_succ]
  refine any_take 2 (some 16) (.pointer (some ⟨T, 0, none⟩)) rfl rfl (by kernel_rfl) (by kernel_rfl) (by kernel_rfl) (fun _ _ _ h => h) (by rfl) hS0 ?_ ?_
  · intro u hSu
    go_simp
  simp only [Act.put, List.setIfInBounds_toArray, List.set_cons_zero, List.set_cons_succ]
  refine any_take 3 (some 17) (.pointer (some ⟨T, 0, none⟩)) rfl rfl (by kernel_rfl) (by kernel_rfl) (by kernel_rfl) (fun _ _ _ h => h) (by rfl) hS0 ?_ ?_
  · intro u hSu
    go_simp
  simp only [Act.put, List.setIfInBounds_toArray, List.set_cons_zero, List.set_cons_succ]
  refine any_take 4 (some 18) (.pointer (some ⟨T, 0, none⟩)) rfl rfl (by kernel_rfl) (by kernel_rfl) (by kernel_rfl) (fun _ _ _ h => h) (by rfl) hS0 ?_ ?_
  · intro u hSu
    go_simp
  simp only [Act.put, List.setIfInBounds_toArray, List.set_cons_zero, List.set_cons_succ]
  refine any_take 5 (some 19) (.pointer (some ⟨J, 0, none⟩)) rfl rfl (by kernel_rfl) (by kernel_rfl) (by kernel_rfl) (fun _ _ _ h => h) (by rfl) hS0 ?_ ?_
  · intro u hSu
    go_simp
  simp only [Act.put, List.setIfInBounds_toArray, List.set_cons_zero, List.set_cons_succ]
  refine wpAnyH_ready (rs := [1]) (by kernel_rfl) (by simp) ?_
  refine AllReadyH.cons (i := 1) rfl (fun K hK => ?_) AllReadyH.nil
  go_simp
  refine ((HSz _ hd0).out).mono ?_
  rintro e9 wA ⟨rfl, hbA⟩
  have hbwA := hd0.trans (hbA.mono hd0.size)
  go_simp
  refine hK.out _ _ (show (fun u : World => u.cell? ⟨T, 0, none⟩ = some (.pointer (some ⟨J, 0, none⟩))) wA from (hbwA.cell (p := ⟨T, 0, none⟩) hTl).trans hS0) (fun _ => ?_)
  clear hK K
  try simp only [Act.put, List.setIfInBounds_toArray, List.set_cons_zero, List.set_cons_succ]
  refine wpAnyH_ready (rs := [6]) (by kernel_rfl) (by simp) ?_
  refine AllReadyH.cons (i := 6) rfl (fun K hK => ?_) AllReadyH.nil
  go_simp
  refine ((HRo wA hbwA).out).mono ?_
  rintro e9 wB ⟨rfl, hbB⟩
  have hbwB := hbwA.trans (hbB.mono hbwA.size)
  go_simp
  refine hK.out _ _ (show (fun u : World => u.cell? ⟨T, 0, none⟩ = some (.pointer (some ⟨J, 0, none⟩))) wB from (hbwB.cell (p := ⟨T, 0, none⟩) hTl).trans hS0) (fun _ => ?_)
  clear hK K
  try simp only [Act.put, List.setIfInBounds_toArray, List.set_cons_zero, List.set_cons_succ]
  obtain ⟨z, hz⟩ : ∃ z, z = sizeR R := ⟨_, rfl⟩
  rw [← hz] at hsb HLn ⊢
  have HzE := hide hz
  clear hz
  refine any_take 7 (some 21) (.bool (decide ((q : Int) - ((p : Int) + 512) < z))) rfl rfl (by kernel_rfl) (by kernel_rfl) (by kernel_rfl) (fun _ _ _ h => h) (by rfl) (show (fun u : World => u.cell? ⟨T, 0, none⟩ = some (.pointer (some ⟨J, 0, none⟩))) wB from (hbwB.cell (p := ⟨T, 0, none⟩) hTl).trans hS0) ?_ ?_
  · intro u hSu
    go_simp
  simp only [Act.put, List.setIfInBounds_toArray, List.set_cons_zero, List.set_cons_succ]
  refine wpAnyH_done (by kernel_rfl) ?_ _
  have HbwB := hide hbwB
  clear hbA hbB hbwA hbwB HSz HRo HOp hS0 hd0
  apply_assumption
  by_cases hfull : (q : Int) - ((p : Int) + 512) < z
  · rw [decide_eq_true hfull]
    have HFu := hide hfull
    clear hfull
    go_wp2_with fail
    go_ret
    exact Or.inl ⟨by rw [← HzE.out]; exact HFu.out, rfl, HbwB.out⟩
  · rw [decide_eq_false hfull]
    have HFu : Hid (z ≤ (q : Int) - ((p : Int) + 512)) := hide (by omega)
    have HRe1 := HRe wB HbwB.out
    clear hfull HRe
    go_wp2_with fail
    refine HRe1.out.mono ?_
    rintro e9 w2 ⟨⟨f2, k2, n2, ht2, hk2, hk2', hn2⟩, hc2, ⟨hrk, v2, L, rfl, ho2, hd2⟩ | ⟨hrk, rfl⟩⟩
    · have hk2e := hk2 hrk
      have HRk := hide hrk
      have HDe := hide hd2
      have hLl : L.length = R.length := by have := congrArg List.length hd2; rw [List.length_map, List.length_map] at this; exact this
      have hLb : L.length ≤ 8192 := by omega
      clear hLl
      have HMem : Hid (∀ r ∈ L, ∃ x ∈ R, r.at_ = x.1 ∧ r.b = (List.range (x.2 - x.1).toNat).map (fun i => seeT A.S B M (x.1.toNat + i))) := hide (fun r hr => by
        have hm : r.dat ∈ R.map (recD A.S B M) := by rw [← hd2]; exact List.mem_map_of_mem hr
        obtain ⟨x, hx, e⟩ := List.mem_map.1 hm
        refine ⟨x, hx, ?_, ?_⟩
        · exact (congrArg Prod.fst e).symm
        · exact (congrArg Prod.snd e).symm)
      have HL5 : Hid (lenD (L.map JR.dat) ≤ 100000 ∧ (lenD (L.map JR.dat) : Int) ≤ (q : Int) - ((p : Int) + 512)) := hide (by
        rw [hd2]
        have h1 := HLn.out
        have h2 := HFu.out
        omega)
      have Hat : Hid (∀ r ∈ L, 0 ≤ r.at_ ∧ r.at_ + r.b.length ≤ 4194304) := hide (fun r hr => by
        obtain ⟨x, hx, e1, e2⟩ := HMem.out r hr
        have hb := HBd.out x hx
        rw [e1, e2, List.length_map, List.length_range]
        omega)
      have Hby : Hid (∀ r ∈ L, Byts r.b) := hide (fun r hr i => by
        obtain ⟨x, hx, e1, e2⟩ := HMem.out r hr
        rw [e2, List.getD_eq_getElem?_getD]
        by_cases hi : i < (x.2 - x.1).toNat
        · simp only [List.getElem?_map, List.getElem?_range hi, Option.map_some, Option.getD_some]
          exact HSee.out _
        · rw [List.getElem?_eq_none (by simp; omega)]
          simp)
      have HBar : Hid (anyB p q L = false) := hide (by
        unfold anyB
        rw [List.any_eq_false]
        intro r hr
        obtain ⟨x, hx, e1, e2⟩ := HMem.out r hr
        have hb := HBd.out x hx
        have hnx := HNo.out x hx
        have hl : r.b.length = (x.2 - x.1).toNat := by rw [e2, List.length_map, List.length_range]
        unfold barB
        rw [e1, hl]
        simp
        omega)
      have hTw : T < w2.heap.size := ht2.tx.lt
      have hT2 : Blk w2 T #[.pointer (some ⟨J, 0, none⟩), vb, vm, .slice none 0 0, .bool false] 69 := ht2.tx
      have c0 := hT2.cell 0 _ rfl
      have c1 := hT2.cell 1 _ rfl
      have c2 := hT2.cell 2 _ rfl
      have c3 := hT2.cell 3 _ rfl
      have c4 := hT2.cell 4 _ rfl
      have hT3 := hT2.set 1 (.map none)
      have hT4 := hT3.set 2 (.map none)
      have hT5 := hT4.set 3 (.slice none 0 0)
      have hT6 := hT5.set 4 (.bool true)
      have f1 := hT2.frozen 1
      have f2' := hT3.frozen 2
      have f3 := hT4.frozen 3
      have f4 := hT5.frozen 4
      have hc3 : Chg (fun i => i = T) w2 ((((w2.setCell ⟨T, 1, none⟩ (.map none)).setCell ⟨T, 2, none⟩ (.map none)).setCell ⟨T, 3, none⟩ (.slice none 0 0)).setCell ⟨T, 4, none⟩ (.bool true))     := ((((Chg.refl (fun i => i = T) w2).setCell T 1 _ (fun _ => rfl)).setCell T 2 _ (fun _ => rfl)).setCell T 3 _ (fun _ => rfl)).setCell T 4 _ (fun _ => rfl)
      have HT6 : Hid (Txs ((((w2.setCell ⟨T, 1, none⟩ (.map none)).setCell ⟨T, 2, none⟩ (.map none)).setCell ⟨T, 3, none⟩ (.slice none 0 0)).setCell ⟨T, 4, none⟩ (.bool true)) T J (.map none) (.map none) (.slice none 0 0) true) := hide hT6
      have HC3 := hide hc3
      have HF3 : Hid (Fl ((((w2.setCell ⟨T, 1, none⟩ (.map none)).setCell ⟨T, 2, none⟩ (.map none)).setCell ⟨T, 3, none⟩ (.slice none 0 0)).setCell ⟨T, 4, none⟩ (.bool true)) X F f2 A k2 n2) := hide (ht2.fl.chg hc3 (fun i _ hX e => ht2.xT (e ▸ hX)))
      have HJ3 : Hid (Jrn ((((w2.setCell ⟨T, 1, none⟩ (.map none)).setCell ⟨T, 2, none⟩ (.map none)).setCell ⟨T, 3, none⟩ (.slice none 0 0)).setCell ⟨T, 4, none⟩ (.bool true)) J F p q nu) := hide ((hc3.block J ht2.jr.lt (fun e => ht2.jt e)).trans ht2.jr)
      have HO3 : Hid (OwnK ((((w2.setCell ⟨T, 1, none⟩ (.map none)).setCell ⟨T, 2, none⟩ (.map none)).setCell ⟨T, 3, none⟩ (.slice none 0 0)).setCell ⟨T, 4, none⟩ (.bool true)) wB.heap.size v2 L) := hide (ho2.chg hc3 (fun i hi e => by have := HbwB.out.size; omega))
      have HXT := hide ht2.xT
      have HXJ := hide ht2.xJ
      have HJT := hide ht2.jt
      have HC2 : Hid (Chg X w9 w2) := hide ((Chg.of_below HbwB.out).trans hc2)
      obtain ⟨aL, cL, rfl, _, hLc, hLm, _⟩ := ho2.form
      clear hT2 hT3 hT4 hT5 hT6 hc3 ht2 hk2 hk2' hc2 hd2 ho2 hrk
      go_wp2_with fail
      generalize (((w2.setCell ⟨T, 1, none⟩ (.map none)).setCell ⟨T, 2, none⟩ (.map none)).setCell ⟨T, 3, none⟩ (.slice none 0 0)).setCell ⟨T, 4, none⟩ (.bool true) = w3 at *
      refine (ahead_nil _ _).mono ?_
      rintro e9 w3' ⟨rfl, h3'⟩
      rw [h3']
      clear h3' c0 c1 c2 c3 c4 f1 f2' f3 f4
      have Hc3' : Hid (Chg (fun i => X i ∨ i = J ∨ i = T) w9 w3) := hide ((HC2.out.mono (fun i _ h => Or.inl h)).trans (HC3.out.mono (fun i _ h => Or.inr (Or.inr h))))
      have hw93 : w9.heap.size ≤ w3.heap.size := Hc3'.out.size
      by_cases hL0 : L.length = 0
      · have HtO : Hid (txO p nu (R.map (recD A.S B M)) = []) := hide (by
          unfold txO
          rw [if_pos (by rw [← HDe.out]; simp [List.length_eq_zero_iff.1 hL0])])
        rw [hL0]
        go_wp2_with fail
        go_ret
        refine Or.inr (Or.inr ⟨by rw [← HzE.out]; exact HFu.out, HRk.out, ?_, HT6.out, nu, n2, hn2, X, f2, ?_, fun q hq => Or.inl hq, Hc3'.out, HJ3.out, HXJ.out⟩)
        · rw [HtO.out]
          rfl
        · rw [HtO.out, ← hk2e]
          simpa [doAll, costs] using HF3.out
      · have HtO : Hid (txO p nu (R.map (recD A.S B M)) = comO p nu (L.map JR.dat) ++ appO p (L.map JR.dat)) := hide (by
          unfold txO
          rw [if_neg (by rw [← HDe.out]; intro e; have := congrArg List.length e; rw [List.length_map] at this; exact hL0 this), HDe.out])
        have HtL : Hid ((txO p nu (R.map (recD A.S B M))).length = 4 + (L.length + 3)) := hide (by
          rw [HtO.out, List.length_append]
          unfold appO clrO comO
          simp [recO_length])
        have hL1 : ¬ ((L.length : Int) = 0) := by omega
        obtain ⟨aL', cL', eL, hlL, _, _, _⟩ := HO3.out.form
        have eL' : aL' = aL ∧ cL' = cL := by
          simp only [Value.slice.injEq, true_and] at eL
          exact ⟨eL.1.symm, eL.2.symm⟩
        obtain ⟨rfl, rfl⟩ := eL'
        have HlL := hide hlL
        have HapJ : Hid (ApJ (fun i => X i ∨ i = J) aL' L) := hide (by
          refine ⟨fun hne x hx e => ?_, fun r hr hne x hx e => ?_⟩
          · have h1 := (World.ownsRow.lt HO3.out.row x.block (by rw [hx]; rfl)).1
            have h2 := HbwB.out.size
            rcases e with e | e
            · have := HXl.out _ e; omega
            · have := HH.out.jr.lt; omega
          · obtain ⟨g, h1, h2, h3, h4⟩ := (HO3.out.far r hr).2 hne
            rw [hx] at h1
            cases h1
            have h5 := HbwB.out.size
            rcases e with e | e
            · have := HXl.out _ e; simp at this; omega
            · have := HH.out.jr.lt; simp at e; omega)
        have HCo := hide (commit_j w3 J F p q nu HJ3.out hp hq X f2 A k2 n2 HF3.out HXJ.out aL' cL' L hlL (fun r hr => by have := Hat.out r hr; omega) Hby.out (by omega) HL5.out.1 (by omega) HBar.out HL5.out.2)
        have j0 := HT6.out.cell.1
        clear hlL eL
        go_wp2_with fail
        refine HCo.out.mono ?_
        rintro e9 w4 ⟨rfl, hr4⟩
        have hT4 : Txs w4 T J (.map none) (.map none) (.slice none 0 0) true := by
          obtain ⟨X4, f4, _, _, hc4, _⟩ := hr4
          exact (hc4.block T HT6.out.lt (fun e => e.elim HXT.out (fun e => HJT.out e.symm))).trans HT6.out
        have HT4 := hide hT4
        clear HCo j0
        by_cases h4 : 4 ≤ k2
        · rw [cod_ok h4]
          obtain ⟨X4, f4, hf4, hx4, hc4, hj4, hn4⟩ := hr4
          have hcost : costs (comO p nu (L.map JR.dat)) ≤ 150000 := by
            have h1 := encD_length (L.map JR.dat)
            have h2 := signOf_len nu (L.map JR.dat)
            have h3 := HL5.out.1
            simp [costs, comO, AO.cost]
            omega
          have HAp := hide (apply_j w4 J F p q _ hj4 hp hq X4 f4 _ _ _ hf4 hn4 aL' cL' L (HlL.out.chg hc4 HapJ.out) (HapJ.out.more HlL.out (fun q hq => by
            rcases hq with h | h
            · exact (hx4 q h).imp Or.inl id
            · exact Or.inl (Or.inr h))) Hat.out (by omega) HL5.out.1 (by omega))
          have HFi : Hid (∀ w', RanJ w4 w' J p q (numJ nu k2) X4 F _ _ _ (appO p (L.map JR.dat)) → RanJ w3 w' J p q (numJ nu k2) X F A k2 n2 (comO p nu (L.map JR.dat) ++ appO p (L.map JR.dat))) := hide (fun w' hr => RanJ.more hf4 hx4 hc4 HJ3.out hr)
          have HT5 : Hid (∀ (w' : World) (A' : A3) (k' n' : Nat), RanJ w4 w' J p q (numJ nu k2) X4 F A' k' n' (appO p (L.map JR.dat)) → Txs w' T J (.map none) (.map none) (.slice none 0 0) true) := hide (fun w' A' k' n' hr => by
            obtain ⟨X5, f5, _, _, hc5, _⟩ := hr
            refine (hc5.block T HT4.out.lt (fun e => ?_)).trans HT4.out
            rcases e with e | e
            · rcases hx4 T e with h | h
              · exact HXT.out h
              · have := HT6.out.lt; omega
            · exact HJT.out e.symm)
          have j0 := HT4.out.cell.1
          have hcl : (comO p nu (L.map JR.dat)).length = 4 := rfl
          rw [hcl] at HAp HFi
          clear hf4 hx4 hc4 hj4 hn4 hT4
          go_wp2_with fail
          refine HAp.out.mono ?_
          rintro e9 w5 ⟨rfl, hr5⟩
          have HT6' := hide (HT5.out w5 _ _ _ hr5)
          have HR5 := hide (HFi.out w5 hr5)
          clear hr5 HAp HFi HT5
          go_wp2_with fail
          go_ret
          obtain ⟨X6, f6, hf6, hx6, hc6, hj6, hn6⟩ := HR5.out
          refine Or.inr (Or.inr ⟨by rw [← HzE.out]; exact HFu.out, HRk.out, ?_, HT6'.out, numJ nu k2, n2, hn2, X6, f6, ?_, fun q hq => (hx6 q hq).imp id (fun h => Nat.le_trans hw93 h), Hc3'.out.trans (hc6.mono (fun i _ h => h.imp id Or.inl)), hj6, hn6⟩)
          · rw [HtL.out, ← hk2e, ← cod_sub (L.length + 3) 4 k2 h4]
            rfl
          · rw [HtO.out, ← hk2e]
            exact hf6
        · rw [cod_no h4]
          have HR5 : Hid (RanJ w3 w4 J p q (numJ nu k2) X F A k2 n2 (comO p nu (L.map JR.dat) ++ appO p (L.map JR.dat))) := hide (hr4.stop (show ¬ (comO p nu (L.map JR.dat)).length ≤ k2 from h4) _)
          clear hr4 hT4
          go_wp2_with fail
          go_ret
          obtain ⟨X6, f6, hf6, hx6, hc6, hj6, hn6⟩ := HR5.out
          refine Or.inr (Or.inr ⟨by rw [← HzE.out]; exact HFu.out, HRk.out, ?_, HT4.out, numJ nu k2, n2, hn2, X6, f6, ?_, fun q hq => (hx6 q hq).imp id (fun h => Nat.le_trans hw93 h), Hc3'.out.trans (hc6.mono (fun i _ h => h.imp id Or.inl)), hj6, hn6⟩)
          · rw [HtL.out, ← hk2e, cod_no (by omega)]
            rfl
          · rw [HtO.out, ← hk2e]
            exact hf6
    · have HT2 := hide ht2
      have HC2 : Hid (Chg X w9 w2) := hide ((Chg.of_below HbwB.out).trans hc2)
      have HK2 := hide (hk2' hrk)
      have HRk := hide hrk
      clear ht2 hc2 hk2 hk2' hrk
      go_wp2_with fail
      go_ret
      exact Or.inr (Or.inl ⟨by rw [← HzE.out]; exact HFu.out, HRk.out, rfl, ⟨f2, n2, by rw [← HK2.out]; exact HT2.out.fl, hn2, HT2.out.jr⟩, HC2.out⟩)
end Go.Proofs.Ytkhknfohcebicaa.Oct
namespace Go.Proofs.Ytkhknfohcebicaa.Oct
open Go.RowKit

def JR.fit (r : JR) : Prop := (-9223372036854775808 ≤ r.at_ ∧ r.at_ ≤ 9223372036854775807) ∧ Byts r.b

/-- Does a record write a byte? -/
def cov (D : List RD) (i : Nat) : Prop := ∃ r ∈ D, r.1.toNat ≤ i ∧ i < r.1.toNat + r.2.length

/-- Where the last of the records ends. -/
def endD : List RD → Nat
  | [] => 0
  | r :: D => max (if r.2 = [] then 0 else r.1.toNat + r.2.length) (endD D)

theorem putS_out (D : List RD) : ∀ (S : List Int) (i : Nat), ¬ cov D i → (putS S D).getD i 0 = S.getD i 0 := by
  induction D with
  | nil => intro S i _; rfl
  | cons r D ih =>
    intro S i h
    rw [putS, ih _ i (fun ⟨x, hx, h1⟩ => h ⟨x, List.mem_cons_of_mem _ hx, h1⟩), wr_get, if_neg (fun h1 => h ⟨r, List.mem_cons_self .., h1⟩)]

theorem putS_in (D : List RD) : ∀ (S S' : List Int) (i : Nat), cov D i → (putS S D).getD i 0 = (putS S' D).getD i 0 := by
  induction D with
  | nil => intro S S' i ⟨r, hr, _⟩; cases hr
  | cons r D ih =>
    intro S S' i h
    rw [putS, putS]
    by_cases h2 : cov D i
    · exact ih _ _ i h2
    · rw [putS_out D _ i h2, putS_out D _ i h2]
      obtain ⟨x, hx, h1⟩ := h
      rcases List.mem_cons.1 hx with rfl | hx
      · rw [wr_get, wr_get, if_pos h1, if_pos h1]
      · exact absurd ⟨x, hx, h1⟩ h2

theorem putS_len (D : List RD) : ∀ (S : List Int), (putS S D).length = max S.length (endD D) := by
  induction D with
  | nil => intro S; simp [putS, endD]
  | cons r D ih =>
    intro S
    rw [putS, ih, wr_len, endD]
    split <;> omega

/-- The same as another, but for bytes that the records write. -/
structure Like (D : List RD) (S S' : List Int) : Prop where
  out : ∀ i, ¬ cov D i → S'.getD i 0 = S.getD i 0
  lo : S.length ≤ S'.length
  hi : S'.length ≤ max S.length (endD D)
  by_ : Byts S'

theorem Like.refl (D : List RD) {S : List Int} (h : Byts S) : Like D S S := ⟨fun _ _ => rfl, Nat.le_refl _, by omega, h⟩

theorem Like.trans {D : List RD} {S S' S'' : List Int} (h : Like D S S') (h' : Like D S' S'') : Like D S S'' :=
  ⟨fun i hi => (h'.out i hi).trans (h.out i hi), Nat.le_trans h.lo h'.lo, by have := h.hi; have := h'.hi; omega, h'.by_⟩

theorem Like.put {D : List RD} {S S' : List Int} (h : Like D S S') : putS S' D = putS S D := by
  have h1 := h.lo
  have h2 := h.hi
  refine ext_getD (by rw [putS_len, putS_len]; omega) (fun i _ => ?_)
  by_cases hc : cov D i
  · exact putS_in D _ _ i hc
  · rw [putS_out D _ i hc, putS_out D _ i hc, h.out i hc]

theorem Like.app {D : List RD} {S S' : List Int} (h : Like D S S') (p : Nat) : appS S' p D = appS S p D := by
  unfold appS
  rw [h.put]

theorem cuts_mem (n : Nat) : ∀ (t : Nat) (b : List Int), b.length ≤ n → ∀ d ∈ cuts t b, d.2.2 = false ∧ t ≤ d.1 ∧ d.1 + d.2.1.length ≤ t + b.length ∧ d.2.1 ≠ [] ∧ (Byts b → Byts d.2.1) := by
  induction n with
  | zero =>
    intro t b hb d hd
    have : b = [] := List.length_eq_zero_iff.1 (by omega)
    subst this
    rw [cuts_nil] at hd
    cases hd
  | succ n ih =>
    intro t b hb d hd
    by_cases h0 : b = []
    · subst h0
      rw [cuts_nil] at hd
      cases hd
    · have hl := List.length_pos_iff.2 h0
      rw [cuts, if_neg h0] at hd
      generalize hm : min (512 - t % 512) b.length = m at hd
      have hm1 : 1 ≤ m := by omega
      have hm2 : m ≤ b.length := by omega
      rcases List.mem_cons.1 hd with rfl | hd
      · refine ⟨rfl, Nat.le_refl _, by simp; omega, fun e => ?_, fun h => h.take m⟩
        have := congrArg List.length e
        rw [List.length_take, List.length_nil] at this
        omega
      · obtain ⟨h1, h2, h3, h4, h5⟩ := ih (t + m) (b.drop m) (by simp; omega) d hd
        refine ⟨h1, by omega, ?_, h4, fun h => h5 (h.drop m)⟩
        simp at h3
        omega

/-- Writes of bytes that the records write. -/
def Wri (D : List RD) (W : List (Nat × List Int × Bool)) : Prop := ∀ d ∈ W, d.2.2 = false ∧ (∀ i, d.1 ≤ i → i < d.1 + d.2.1.length → cov D i) ∧ d.1 + d.2.1.length ≤ endD D ∧ Byts d.2.1

def recW (D : List RD) : List (Nat × List Int × Bool) := D.flatMap (fun r => cuts r.1.toNat r.2)

theorem endD_mem {D : List RD} {r : RD} (h : r ∈ D) (hn : r.2 ≠ []) : r.1.toNat + r.2.length ≤ endD D := by
  induction D with
  | nil => cases h
  | cons x D ih =>
    rw [endD]
    rcases List.mem_cons.1 h with rfl | h
    · rw [if_neg hn]; omega
    · have := ih h; omega

theorem recW_wri {D E : List RD} (hs : ∀ r ∈ E, r ∈ D) (hb : ∀ r ∈ D, Byts r.2) : Wri D (recW E) := by
  intro d hd
  obtain ⟨r, hr, h⟩ := List.mem_flatMap.1 hd
  obtain ⟨h1, h2, h3, h4, h5⟩ := cuts_mem _ _ _ (Nat.le_refl _) d h
  have hne : r.2 ≠ [] := fun e => by
    rw [e, cuts_nil] at h
    cases h
  have := endD_mem (hs r hr) hne
  exact ⟨h1, fun i hi hj => ⟨r, hs r hr, by omega, by omega⟩, by omega, h5 (hb r (hs r hr))⟩

theorem laidD_byts {p : Nat} {b l : List Int} (hb : Byts b) (hl : Byts l) : Byts (laidD (p, b, false) l) := fun i => by
  rw [laidD_get]
  split
  · exact hb _
  · exact hl _

theorem left_like {D : List RD} {W : List (Nat × List Int × Bool)} (hW : Wri D W) (S : List Int) (hS : Byts S) (kp : List Bool) : ∀ j, j ≤ W.length → Like D S (leftD S W kp j)
  | 0, _ => Like.refl D hS
  | j + 1, hj => by
    have ih := left_like hW S hS kp j (by omega)
    rw [leftD]
    split
    · have hd : W.getD j (0, [], false) ∈ W := by
        have : W.getD j (0, [], false) = W[j] := by simp [show j < W.length by omega]
        rw [this]
        exact List.getElem_mem _
      obtain ⟨h1, h2, h3, h4⟩ := hW _ hd
      generalize W.getD j (0, [], false) = d at *
      obtain ⟨t, b, c⟩ := d
      simp only at *
      subst h1
      refine ⟨fun i hi => ?_, ?_, ?_, laidD_byts h4 ih.by_⟩
      · rw [laidD_get, if_neg (fun h => hi (h2 i h.1 h.2)), ih.out i hi]
      · rw [laidD_length]
        have := ih.lo
        omega
      · rw [laidD_length]
        have := ih.hi
        omega
    · exact ih

theorem doRecs' (D : List RD) : ∀ (A : A3), doAll (recO D) A = ⟨putS A.S D, A.T, A.D ++ recW D⟩ := by
  induction D with
  | nil => intro A; simp [recO, doAll, putS, recW]
  | cons r D ih =>
    intro A
    have h := ih ((AO.wr r.1.toNat r.2).on A)
    rw [show recO (r :: D) = AO.wr r.1.toNat r.2 :: recO D from rfl]
    rw [show doAll (AO.wr r.1.toNat r.2 :: recO D) A = doAll (recO D) ((AO.wr r.1.toNat r.2).on A) from rfl, h]
    simp [AO.on, putS, recW]

theorem recW_laid (D : List RD) : ∀ S, laidsD S (recW D) = putS S D := by
  induction D with
  | nil => intro S; rfl
  | cons r D ih =>
    intro S
    rw [show recW (r :: D) = cuts r.1.toNat r.2 ++ recW D from rfl, laidsD_append, ih, putS]

theorem cuts_one {p : Nat} {b : List Int} (hp : p % 512 = 0) (hb : b.length = 512) : cuts p b = [(p, b, false)] := by
  have h0 : b ≠ [] := fun e => by rw [e] at hb; simp at hb
  rw [cuts, if_neg h0, hp, hb]
  simp
  rw [List.drop_of_length_le (by omega), List.take_of_length_le (by omega), cuts_nil]
  simp

/-- What a crash leaves. -/
def crashD (A : A3) (kp : List Bool) : List Int := leftD A.T A.D kp A.D.length

/-- WHEREVER AN APPLY IS CUT OFF, whatever is kept: only bytes of the records have changed, or all is done and the sign is gone. -/
theorem crash_app {D : List RD} {S : List Int} {p : Nat} (hp : p % 512 = 0) (hS : Byts S) (hD : ∀ r ∈ D, Byts r.2) (k : Nat) (kp : List Bool) :
    Like D S (crashD (doAll ((appO p D).take k) ⟨S, S, []⟩) kp) ∨ crashD (doAll ((appO p D).take k) ⟨S, S, []⟩) kp = appS S p D := by
  have hput : Like D S (putS S D) := by
    refine ⟨putS_out D S, by rw [putS_len]; omega, by rw [putS_len]; omega, ?_⟩
    have h := left_like (recW_wri (fun r h => h) hD) S hS (List.replicate (recW D).length true) (recW D).length (Nat.le_refl _)
    have e : ∀ (W : List (Nat × List Int × Bool)) (T : List Int) (j : Nat), j ≤ W.length → leftD T W (List.replicate W.length true) j = laidsD T (W.take j) := by
      intro W T j
      induction j with
      | zero => intro _; rfl
      | succ j ih =>
        intro hj
        rw [leftD, if_pos (by simp [show j < W.length by omega]), ih (by omega), take_get W j (by omega) (0, [], false), laidsD_append]
        rfl
    rw [e _ _ _ (Nat.le_refl _), List.take_length, recW_laid] at h
    exact h.by_
  have hlen : (recO D).length = D.length := by simp [recO]
  by_cases h1 : k ≤ D.length
  · left
    have e : (appO p D).take k = recO (D.take k) := by
      unfold appO
      rw [List.take_append_of_le_length (by omega)]
      simp [recO, List.map_take]
    rw [e, doRecs']
    exact left_like (recW_wri (fun r h => List.mem_of_mem_take h) hD) S hS kp _ (by simp)
  · have e0 : (appO p D).take k = recO D ++ ([AO.fl] ++ clrO p).take (k - D.length) := by
      unfold appO
      rw [List.take_append, hlen, List.take_of_length_le (by omega)]
    have e1 : doAll (recO D ++ [AO.fl]) ⟨S, S, []⟩ = ⟨putS S D, putS S D, []⟩ := by
      rw [doAll_append, doRecs']
      simp [doAll, AO.on, recW_laid]
    rw [e0]
    match hk : k - D.length with
    | 0 => omega
    | 1 =>
      left
      rw [show ([AO.fl] ++ clrO p).take 1 = [AO.fl] from rfl, e1]
      exact hput
    | 2 =>
      rw [show ([AO.fl] ++ clrO p).take 2 = [AO.fl] ++ [AO.wr p Z512] from rfl, ← List.append_assoc, doAll_append, e1]
      simp only [doAll, List.foldl_cons, List.foldl_nil, AO.on, crashD, cuts_one hp Z512_len, List.nil_append, List.length_singleton, leftD]
      split
      · right
        unfold appS
        rw [cuts_one hp Z512_len]
        rfl
      · left
        exact hput
    | j + 3 =>
      right
      rw [show ([AO.fl] ++ clrO p).take (j + 3) = [AO.fl] ++ clrO p from by simp [clrO], show recO D ++ ([AO.fl] ++ clrO p) = appO p D from rfl, app_state]
      rfl
end Go.Proofs.Ytkhknfohcebicaa.Oct
namespace Go.Proofs.Ytkhknfohcebicaa.Oct
open Go.RowKit Go.Deep Go.Sort

theorem four_t {u : World} {T J F G : Nat} {p q : Nat} {nu : Int} {vb vm va : Value} {d : Bool} {x0 x1 : Value} (ht : Txs u T J vb vm va d) (h : Jrn u J F p q nu) (hb : Blk u G #[x0, x1] 75) :
    u.cell? ⟨T, 0, none⟩ = some (.pointer (some ⟨J, 0, none⟩)) ∧ u.cell? ⟨J, 0, none⟩ = some (.pointer (some ⟨F, 0, none⟩)) ∧ u.cell? ⟨G, 0, none⟩ = some x0 ∧ u.cell? ⟨G, 1, none⟩ = some x1 :=
  ⟨ht.cell.1, h.cell0, hb.cell 0 _ rfl, hb.cell 1 _ rfl⟩

set_option maxHeartbeats 8000000 in
set_option maxRecDepth 100000 in
theorem ahead_any (w : World) (T J F p q : Nat) (nu : Int) (vb vm va : Value) (d : Bool) (ht : Txs w T J vb vm va d) (hJ : Jrn w J F p q nu) (X : Nat → Prop) (f : Fs) (A : A3) (k n : Nat) (h : Fl w X F f A k n) (hXT : ¬ X T) (hXJ : ¬ X J) (a : Option Addr) (cap : Nat) (R : List JR) (hR : LiesJ w a R) (hap : ApJ X a R) (hR0 : 0 < R.length)
    (hat : ∀ r ∈ R, 0 ≤ r.at_ ∧ r.at_ + r.b.length ≤ 4194304) (hn : R.length ≤ 1000000) (hlen : lenD (R.map JR.dat) ≤ 100000) (hnn : n ≤ 400000) :
    Calls Try.prog 37 #[.pointer (some ⟨T, 0, none⟩), .slice a R.length cap] w fun e w' => e = .returned (.int .i64 (cod (R.length + 1) k)) ∧ Ran w w' X F A k n (recO (R.map JR.dat) ++ [.fl]) := by
  have HT := hide ht
  have HJ := hide hJ
  have HXT := hide hXT
  have HXJ := hide hXJ
  have HR := hide hR
  have HAp := hide hap
  have HAt := hide hat
  have HCo : Hid (∀ t, costs (recO ((R.map JR.dat).take t)) ≤ 100000) := hide (fun t => Nat.le_trans (recO_cost _) (Nat.le_trans (lenD_mono _ t) hlen))
  have HR0 : Hid (Ran w w X F A k n (recO ((R.map JR.dat).take 0))) := hide (Ran.nil h)
  have hl1 : ¬ ((R.length : Int) = 0) := by omega
  have hl2 : ((R.length : Int) == 0) = false := by simpa using hl1
  clear hJ hXJ hXT hR hap hat h ht
  go_enter Try.func37, Try.ntmps37
  go_wp2_with fail
  go_loopw [13] (fun i wr => ∃ (t : Nat), t ≤ R.length ∧ t ≤ k ∧ i = .int .i64 (t : Int) ∧ Ran w wr X F A k n (recO ((R.map JR.dat).take t))) (fun i _ => R.length - (intOf i).toNat)
  case atStart => exact ⟨0, by omega, by omega, rfl, HR0.out⟩
  case round =>
    obtain ⟨t, htR, htk, rfl, hran⟩ := hrel
    have HRan := hide hran
    obtain ⟨X1, f1, h1, hx1, hc1⟩ := hran
    have hol : (recO ((R.map JR.dat).take t)).length = t := by rw [recO_length]; simp; omega
    have hRl := HR.out.chg hc1 HAp.out
    have HAp1 : Hid (ApJ X1 a R) := hide (HAp.out.more HR.out hx1)
    have HT1 : Hid (Txs wr T J vb vm va d) := hide ((hc1.block T HT.out.lt HXT.out).trans HT.out)
    have HJ1 : Hid (Jrn wr J F p q nu) := hide ((hc1.block J HJ.out.lt HXJ.out).trans HJ.out)
    have HnT : Hid (¬ X1 T) := hide (fun e => (hx1 T e).elim HXT.out (fun e => by have := HT.out.lt; omega))
    have HnJ : Hid (¬ X1 J) := hide (fun e => (hx1 J e).elim HXJ.out (fun e => by have := HJ.out.lt; omega))
    have HF1 := hide h1
    have HX1 := hide hx1
    have HC1 := hide hc1
    have HOl := hide hol
    have HRl := hide hRl
    clear h1 hx1 hc1 hol hRl
    by_cases hlt : t < R.length
    · rcases HRl.out with hE | ⟨b, off, rfl, hblt, hc⟩
      · rw [hE] at hlt; simp at hlt
      obtain ⟨r0, r1, r2⟩ := hc t hlt
      have hmem : R.getD t JR.z ∈ R := by
        have : R.getD t JR.z = R[t] := by simp [hlt]
        rw [this]
        exact List.getElem_mem _
      have hat9 := HAt.out _ hmem
      have HApb := hide (HAp1.out.bytes _ hmem)
      have HSt : Hid (recO ((R.map JR.dat).take (t + 1)) = recO ((R.map JR.dat).take t) ++ [.wr (R.getD t JR.z).at_.toNat (R.getD t JR.z).b]) := hide (by
        rw [recO_take _ t (by simpa using hlt) (JR.dat JR.z), JR.dats]
        rfl)
      have HSl := hide r2
      clear hc r2 hmem
      generalize hrr : R.getD t JR.z = r at *
      clear hrr
      obtain ⟨at9, ra, rc, rb⟩ := r
      simp only at *
      obtain ⟨z, rfl⟩ := Int.eq_ofNat_of_zero_le hat9.1
      have hbx := Blk.new wr #[.int .i64 (z : Int), .slice ra rb.length rc] 75
      have hbl : Below wr.heap.size wr (wr.alloc (.cells #[.int .i64 (z : Int), .slice ra rb.length rc] 75)) := (Below.refl _ _).alloc (Nat.le_refl _) _
      have HBx := hide hbx
      have HBl := hide hbl
      have hz2 : z + rb.length ≤ 4194304 := by have := hat9.2; omega
      rw [Int.toNat_natCast] at HSt
      have HWr : ∀ u, Below wr.heap.size wr u → Hid (Calls Try.prog 50 #[.pointer (some ⟨F, 0, none⟩), .int .i64 z, .slice ra rb.length rc] u fun e w' => e = .returned (.int .i64 (cod 1 (k - t))) ∧ Ran w w' X F A k n (recO ((R.map JR.dat).take (t + 1))) ∧ (∀ G cs ty, Blk u G cs ty → wr.heap.size ≤ G → Blk w' G cs ty) ∧ Txs w' T J vb vm va d ∧ Jrn w' J F p q nu) := fun u hu => hide (by
        have hw := write_fl u X1 F f1 _ _ _ (HF1.out.below hu) (by have := HCo.out t; omega) z ra rc rb (HSl.out.below hu).lies (fun hne x hx e => HApb.out hne x hx e) hz2
        rw [HOl.out] at hw
        refine hw.mono ?_
        rintro e9 w10 ⟨rfl, hr⟩
        refine ⟨rfl, ?_, fun G cs ty hG hle => ?_, ?_, ?_⟩
        · rw [HSt.out]
          refine Ran.more HF1.out HX1.out HC1.out (Ran.first hu ?_)
          rw [HOl.out]
          exact hr
        · obtain ⟨X2, f2, _, _, hc2⟩ := hr
          exact hG.chg hc2 (fun e => by have := HF1.out.x _ e; omega)
        · obtain ⟨X2, f2, _, _, hc2⟩ := hr
          exact (hc2.block T (HT1.out.below hu).lt HnT.out).trans (HT1.out.below hu)
        · obtain ⟨X2, f2, _, _, hc2⟩ := hr
          exact (hc2.block J (HJ1.out.below hu).lt HnJ.out).trans (HJ1.out.below hu))
      clear hbx hbl hat9
      go_wp2_with fail
      generalize wr.alloc (.cells #[.int .i64 z, .slice ra rb.length rc] 75) = w2 at *
      have HJ2 := hide (show Jrn w2.drew J F p q nu from HJ1.out.below HBl.out.drew)
      have HT2 := hide (show Txs w2.drew T J vb vm va d from HT1.out.below HBl.out.drew)
      have HX2 := hide HBx.out.drew
      have HB2 := hide HBl.out.drew
      obtain ⟨s00, s0, s1, s2⟩ := four_t HT2.out HJ2.out HX2.out
      go_wp2_with fail
      go_region_held3 (fun u => u.cell? ⟨T, 0, none⟩ = some (.pointer (some ⟨J, 0, none⟩)) ∧ u.cell? ⟨J, 0, none⟩ = some (.pointer (some ⟨F, 0, none⟩)) ∧ u.cell? ⟨wr.heap.size, 0, none⟩ = some (.int .i64 (z : Int)) ∧ u.cell? ⟨wr.heap.size, 1, none⟩ = some (.slice ra rb.length rc)) (first | go_keep | exact HK.out) (first
        | (go_at_call 50; refine ((HWr _ HB2.out).out).mono ?_; rintro e9 w10 ⟨rfl, hr10, hk10, ht10, hj10⟩; have HK := hide (four_t ht10 hj10 (hk10 _ _ _ HX2.out (Nat.le_refl _))); have HR10 := hide hr10; clear hr10 hk10 ht10 hj10))
      all_goals
        by_cases hk1 : t + 1 ≤ k
        · rw [cod_ok (show 1 ≤ k - t by omega)]
          go_wp2_with fail
          exact ⟨⟨t + 1, by omega, hk1, by congr 1 <;> omega, HR10.out⟩, by simp [intOf]; omega⟩
        · rw [cod_no (show ¬ 1 ≤ k - t by omega)]
          have HFi : Hid (Ran w w10 X F A k n (recO (R.map JR.dat) ++ [.fl])) := hide (by
            have := HR10.out.stop (by rw [recO_length]; simp; omega) (recO ((R.map JR.dat).drop (t + 1)) ++ [.fl])
            rw [← List.append_assoc, show recO ((R.map JR.dat).take (t + 1)) ++ recO ((R.map JR.dat).drop (t + 1)) = recO (R.map JR.dat) by rw [recO, recO, recO, ← List.map_append, List.take_append_drop]] at this
            exact this)
          go_wp2_with fail
          go_ret
          refine ⟨?_, HFi.out⟩
          rw [cod_no (by omega)]
          rfl
    · obtain rfl : t = R.length := by omega
      have he : (R.map JR.dat).take R.length = R.map JR.dat := by rw [List.take_of_length_le (by simp)]
      rw [he] at HRan HF1 HOl
      have hcD := HCo.out R.length
      rw [he] at hcD
      have HFu := hide (flush_fl wr X1 F f1 _ _ _ HF1.out (by omega))
      rw [HOl.out] at HFu
      have c0 := HJ1.out.cell0
      have c1 := HT1.out.cell.1
      clear he
      go_wp2_with fail
      refine HFu.out.mono ?_
      rintro e9 w2 ⟨rfl, hr2⟩
      have hr2' : Ran wr w2 X1 F (doAll ((recO (R.map JR.dat)).take k) A) (k - (recO (R.map JR.dat)).length) (n + costs (recO (R.map JR.dat))) [.fl] := by rw [HOl.out]; exact hr2
      have HRf := hide (Ran.more HF1.out HX1.out HC1.out hr2')
      have HCd : Hid (cod 1 (k - R.length) = cod (R.length + 1) k) := hide (cod_sub 1 R.length k htk)
      clear hr2 hr2' c0 c1
      go_wp2_with fail
      go_ret
      refine ⟨?_, HRf.out⟩
      rw [← HCd.out]
      rfl
end Go.Proofs.Ytkhknfohcebicaa.Oct
namespace Go.Proofs.Ytkhknfohcebicaa.Oct
open Go.RowKit Go.Deep Go.Sort

set_option maxRecDepth 100000 in
set_option maxHeartbeats 8000000 in
theorem put_q (w : World) (T J F : Nat) (X : Nat → Prop) (f : Fs) (A : A3) (k n : Nat) (vb vm va : Value) (B M : Int → List Int) (p q : Nat) (nu : Int) (h : Txq w T J F X f A k n vb vm va B M p q nu) (a : Option Addr) (cap m : Nat) (pl : List Int) (hm : m = pl.length) (hl : Lies w a pl) (hcap : m ≤ cap ∧ cap ≤ 9223372036854775807)
    (hlT : 0 < m → ∀ x, a = some x → x.block ≠ T ∧ ∀ r, vb = .map (some r) ∨ vm = .map (some r) → x.block ≠ r) (t : Nat) (htn : t + m ≤ 4194304) :
    Calls Try.prog 11 #[.pointer (some ⟨T, 0, none⟩), .int .i64 t, .slice a m cap] w fun e w' => e = .returned (.int .i64 0) ∧ (∃ vb' vm' B' M', Txq w' T J F X f A k n vb' vm' va B' M' p q nu ∧ Laid B M B' M' t m pl 2 ∧ ∀ r, vb' = .map (some r) ∨ vm' = .map (some r) → (vb = .map (some r) ∨ vm = .map (some r)) ∨ w.heap.size ≤ r) ∧ Chg (fun k => k = T ∨ vb = .map (some k) ∨ vm = .map (some k)) w w' := by
  have HH := hide h
  have HOp := hide (open_tx w T J vb vm _ h.tx)
  have HOu := hide (outside_no w t m htn)
  have HLy := hide (lay_by 2 (by omega) w T J vb vm _ false B M h.tx h.ov h.mm a cap m pl hm hl hcap hlT t htn)
  have HXl := hide h.fl.x
  clear h hl hlT hm
  go_enter Try.func11, Try.ntmps11
  go_wp2_with fail
  refine HOp.out.mono ?_
  rintro e9 w9 ⟨rfl, h9⟩
  subst h9
  go_wp2_with fail
  refine HOu.out.mono ?_
  rintro e9 w9 ⟨rfl, h9⟩
  subst h9
  go_wp2_with fail
  refine HLy.out.mono ?_
  rintro e9 w10 ⟨rfl, ⟨r1, r2, B', M', ht, ho, hr, hrr, hv⟩, hc⟩
  have HRr := hide hrr
  have HT := hide ht
  have HO := hide ho
  have HV := hide hv
  have HC := hide hc
  clear ht ho hv hc hrr
  go_wp2_with fail
  go_ret
  have hnY : ∀ k, k < w9.heap.size → X k → ¬ (k = T ∨ vb = .map (some k) ∨ vm = .map (some k)) := fun k _ hk e => by
    rcases e with rfl | e | e
    · exact HH.out.xT hk
    · exact HH.out.xM k (Or.inl e) hk
    · exact HH.out.xM k (Or.inr e) hk
  have hJn : ¬ (J = T ∨ vb = .map (some J) ∨ vm = .map (some J)) := fun e => by
    have hj : w9.heap[J]? = _ := HH.out.jr
    rcases e with e | e | e
    · exact HH.out.jt e
    · obtain ⟨_, es, c, he⟩ := HH.out.ov.b.lt J e
      rw [he] at hj; cases hj
    · obtain ⟨_, es, c, he⟩ := HH.out.ov.m.lt J e
      rw [he] at hj; cases hj
  have hr12 : ∀ r, (r = r1 ∨ r = r2) → ¬ X r := by
    intro r hrr hx
    rcases HRr.out r hrr with h | h
    · exact HH.out.xM r h hx
    · have := HXl.out r hx
      omega
  refine ⟨rfl, ⟨.map (some r1), .map (some r2), B', M', ⟨HT.out, HO.out, Or.inr ⟨r1, r2, rfl, rfl, hr⟩, (HC.out.block J HH.out.jr.lt hJn).trans HH.out.jr, HH.out.fl.chg HC.out hnY, HH.out.xT, HH.out.xJ, fun r e => hr12 r (by simpa [eq_comm] using e), HH.out.jt⟩, HV.out, fun r e => HRr.out r (by simpa [eq_comm] using e)⟩, HC.out⟩

set_option maxRecDepth 100000 in
theorem put_done (w : World) (T J : Nat) (vb vm va : Value) (ht : Txs w T J vb vm va true) (a b : Value) :
    Calls Try.prog 11 #[.pointer (some ⟨T, 0, none⟩), a, b] w fun e w' => e = .returned (.int .i64 6) ∧ w' = w := by
  have HNo := hide (none_tx w T J vb vm va true ht)
  have c4 := ht.cell.2.2.2.2
  have HOp : Hid (Calls Try.prog 27 #[.pointer (some ⟨T, 0, none⟩)] w fun e w' => e = .returned (.int .i64 6) ∧ w' = w) := hide (by
    go_enter Try.func27, Try.ntmps27
    go_wp2_with fail
    refine HNo.out.mono ?_
    rintro e9 w9 ⟨rfl, h9⟩
    rw [h9]
    clear h9
    go_wp2_with fail
    go_ret
    exact ⟨rfl, rfl⟩)
  clear ht c4 HNo
  go_enter Try.func11, Try.ntmps11
  go_wp2_with fail
  refine HOp.out.mono ?_
  rintro e9 w9 ⟨rfl, h9⟩
  rw [h9]
  clear h9
  go_wp2_with fail
  go_ret
  exact ⟨rfl, rfl⟩

theorem mod7 (x : Int) : ∃ n : Nat, n < 7000 ∧ (IntKind.u64.wrap x).tmod 7000 = (n : Int) := by
  have h0 : 0 ≤ IntKind.u64.wrap x := by rw [IntKind.wrap_u64]; omega
  have e : (IntKind.u64.wrap x).tmod 7000 = (IntKind.u64.wrap x) % 7000 := Int.tmod_eq_emod_of_nonneg h0
  rw [e]
  generalize IntKind.u64.wrap x = y at *
  exact ⟨(y % 7000).toNat, by omega, by omega⟩

/-- A file's bytes: noughts up to behind the journal, then one byte. -/
def BaseL (S : List Int) (m : Nat) (c : Int) : Prop := S.length = 10752 + m ∧ ∀ j, j < S.length → S.getD j 0 = if 10752 ≤ j then c else 0

set_option maxRecDepth 100000 in
set_option maxHeartbeats 4000000 in
theorem base_any (w : World) (x c : Int) : Calls Try.prog 7 #[.int .i64 x, .int .u8 c] w fun e w' => ∃ v S m, e = .returned v ∧ Own w' w.heap.size v S ∧ BaseL S m c ∧ m < 7000 ∧ (IntKind.u64.wrap x).tmod 7000 = ((m : Nat) : Int) ∧ Below w.heap.size w w' := by
  obtain ⟨m, hm, hx⟩ := mod7 x
  have HX := hide hx
  have HZ := hide (Zeros_any (10752 + m) w (by omega))
  rw [show ((10752 + m : Nat) : Int) = 10752 + (m : Int) by omega] at HZ
  go_enter Try.func7, Try.ntmps7
  go_wp2_with fail
  refine HZ.out.mono ?_
  rintro e9 w1 ⟨v, rfl, ho1, hb1⟩
  obtain ⟨Z, hZ⟩ : ∃ Z, Z = List.replicate (10752 + m) (0 : Int) := ⟨_, rfl⟩
  rw [← hZ] at ho1
  have hZl : Z.length = 10752 + m := by rw [hZ]; exact List.length_replicate
  have HZz : Hid (∀ j, Z.getD j 0 = 0) := hide (fun j => by
    rw [hZ, List.getD_eq_getElem?_getD, List.getElem?_replicate]
    split <;> rfl)
  obtain ⟨a, cap, rfl, hl, _, hcap, hcm, hg⟩ := ho1.form
  obtain ⟨g, rfl, hg1, hg2⟩ := hg (fun e => by rw [e] at hZl; simp at hZl; omega)
  have HO1 := hide ho1
  have HB1 := hide hb1
  have HZl := hide hZl
  obtain ⟨N, hN⟩ : ∃ N, N = Z.length := ⟨_, rfl⟩
  have hNb : N ≤ 17752 ∧ 10752 ≤ N := by omega
  rw [← hN] at HO1 ⊢
  have HN := hide (hN.trans hZl)
  have HNZ := hide hN
  clear ho1 hb1 hl hZ hZl hcap hN
  go_wp2_with fail
  go_loopw [6] (fun i wr => ∃ (k : Nat) (L : List Int), 10752 ≤ k ∧ k ≤ N ∧ i = .int .i64 (k : Int) ∧ L.length = N ∧ (∀ j, j < N → L.getD j 0 = if 10752 ≤ j ∧ j < k then c else 0) ∧ Own wr w.heap.size (.slice (some ⟨g, 0, none⟩) N cap) L ∧ Below w.heap.size w wr) (fun i _ => N - (intOf i).toNat)
  case atStart => exact ⟨10752, Z, by omega, by omega, rfl, HNZ.out.symm, fun j _ => by rw [HZz.out, if_neg (by omega)], HO1.out, HB1.out⟩
  case round =>
    obtain ⟨k, L, hk1, hk, rfl, hLl, hv, ho, hb⟩ := hrel
    have HV := hide hv
    have HB := hide hb
    have HO := hide ho
    have HLl := hide hLl
    clear hv hb hLl
    by_cases hlt : k < N
    · have f0 := HO.out.free HLl.out.symm k
      have c0 := HO.out.cell HLl.out.symm k hlt
      obtain ⟨hs1, hs2⟩ := HO.out.set HLl.out.symm k c
      have HS1 := hide hs1
      have HS2 : Hid (Below w.heap.size w (wr.setCell ⟨g, k, none⟩ (.int .u8 c))) := hide (HB.out.setCell (p := ⟨g, k, none⟩) hg1 _)
      clear hs1 hs2 ho
      go_wp2_with fail
      refine ⟨⟨k + 1, L.set k c, by omega, by omega, by go_num, by rw [List.length_set]; exact HLl.out, fun j hj => ?_, HS1.out, HS2.out⟩, by simp [intOf]; omega⟩
      rw [getD_set _ _ _ _ (by rw [HLl.out]; exact hlt)]
      by_cases e : k = j
      · rw [if_pos e, if_pos (by omega)]
      · rw [if_neg e, HV.out j hj]
        by_cases h2 : 10752 ≤ j ∧ j < k
        · rw [if_pos h2, if_pos (by omega)]
        · rw [if_neg h2, if_neg (by omega)]
    · obtain rfl : k = N := by omega
      clear ho
      go_wp2_with fail
      go_ret
      refine ⟨_, L, m, rfl, HO.out, ⟨by rw [HLl.out]; exact HN.out, fun j hj => ?_⟩, hm, HX.out, HB.out⟩
      rw [HV.out j (by rw [← HLl.out]; exact hj)]
      rw [HLl.out] at hj
      by_cases h2 : 10752 ≤ j
      · rw [if_pos h2, if_pos ⟨h2, hj⟩]
      · rw [if_neg h2, if_neg (fun e => h2 e.1)]
end Go.Proofs.Ytkhknfohcebicaa.Oct
namespace Go.Proofs.Ytkhknfohcebicaa.Oct
open Go.RowKit Go.Deep Go.Sort

set_option maxRecDepth 100000 in
set_option maxHeartbeats 2000000 in
theorem open6 (w : World) (a : Option Addr) (cap : Nat) (l : List Int) (hl : Lies w a l) (hlen : l.length ≤ 4194304) (hf : 10752 ≤ l.length) :
    Calls Try.prog 8 #[.slice a l.length cap] w fun e w' => ∃ F J f X, e = .returned (.tuple #[.pointer (some ⟨F, 0, none⟩), .pointer (some ⟨J, 0, none⟩), .bool true]) ∧
      Fl w' X F f ⟨l, l, []⟩ 2000000 0 ∧ Jrn w' J F (512 : Nat) (10752 : Nat) 0 ∧ ¬ X J ∧ (∀ i, X i → w.heap.size ≤ i) ∧ w.heap.size ≤ J ∧ Below w.heap.size w w' := by
  have HN1 := hide (new_fl w a cap l hl hlen)
  clear hl
  go_enter Try.func8, Try.ntmps8
  go_wp2_with fail
  refine HN1.out.mono ?_
  rintro e9 w2 ⟨F, f, rfl, hf2, hf0, hb2⟩
  have HF2 := hide hf2
  have HB2 := hide hb2
  have hs12 := hb2.size
  have HJ := hide (jnew_fl w2 _ F f _ _ _ hf2 512 10240 (by omega) (by omega) (by omega) (by show 512 + 10240 ≤ l.length; omega))
  clear hf2 hb2 hf0 HN1
  go_wp2_with fail
  refine HJ.out.mono ?_
  rintro e9 w3 ⟨J, rfl, hj, hJ3, hb3⟩
  have HJ3 := hide hJ3
  have HF3 := hide (HF2.out.below hb3)
  have HB3 := hide (HB2.out.trans (hb3.mono HB2.out.size))
  clear hJ3 hb3 HJ
  go_wp2_with fail
  go_ret3
  exact ⟨F, J, f, _, rfl, HF3.out, HJ3.out, fun e => by omega, fun i hi => hi.1, by omega, HB3.out⟩

theorem mem2 {M : Int → List Int} {n : Nat} (hl : (M (n : Int)).length = 512) : 2 ∈ M (n : Int) ↔ ∃ j, j < 512 ∧ mkT M (512 * n + j) = 2 := by
  have e : ∀ j, j < 512 → mkT M (512 * n + j) = (M (n : Int)).getD j 0 := fun j hj => by
    unfold mkT
    rw [show (512 * n + j) / 512 = n by omega, show (512 * n + j) % 512 = j by omega]
  constructor
  · intro h
    obtain ⟨j, hj, hv⟩ := List.getElem_of_mem h
    refine ⟨j, by omega, ?_⟩
    rw [e j (by omega), List.getD_eq_getElem?_getD, List.getElem?_eq_getElem hj]
    exact hv
  · rintro ⟨j, hj, hv⟩
    rw [e j hj, List.getD_eq_getElem?_getD, List.getElem?_eq_getElem (by omega)] at hv
    rw [← show (M (n : Int))[j] = 2 from hv]
    exact List.getElem_mem _

theorem z5_get (i : Nat) : Z5.getD i 0 = 0 := by
  unfold Z5
  rw [List.getD_eq_getElem?_getD, List.getElem?_replicate]
  split <;> rfl

/-- No changes. -/
def nobM : Int → List Int := fun _ => Z5

theorem nob_mk (q : Nat) : mkT nobM q = 0 := z5_get _
theorem nob_val (q : Nat) (x : Int) : valT nobM nobM q x = x := by
  unfold valT
  rw [if_pos (show (nobM ((q / 512 : Nat) : Int)).getD (q % 512) 0 = 0 from z5_get _)]
theorem nob_no (s : Int) : ¬ 2 ∈ nobM s := fun h => absurd (List.eq_of_mem_replicate h) (by decide)

theorem ex_secs {B' M' : Int → List Int} (hl : ∀ s, (M' s).length = 512) (h : Laid nobM nobM B' M' 10755 1 [97] 2) : secsM M' = [21] := by
  refine rise_eq _ _ (secsM_rise _) (by simp) (fun x => ?_)
  rw [secsM_mem]
  simp only [List.mem_singleton]
  have hm : ∀ q, mkT M' q = if 10755 ≤ q ∧ q < 10755 + 1 then 2 else 0 := fun q => by
    rw [h.2.1 q, nob_mk]
    split
    · decide
    · rfl
  constructor
  · rintro ⟨hx, h2⟩
    obtain ⟨n, rfl⟩ := Int.eq_ofNat_of_zero_le hx.1
    obtain ⟨j, hj, hv⟩ := (mem2 (hl _)).1 h2
    rw [hm] at hv
    split at hv
    · omega
    · simp at hv
  · rintro rfl
    refine ⟨by omega, ?_⟩
    have := (mem2 (M := M') (n := 21) (hl _)).2 ⟨3, by omega, by rw [hm]; simp⟩
    simpa using this

set_option maxRecDepth 100000 in
set_option maxHeartbeats 8000000 in
theorem changed6 (w : World) : Calls Try.prog 4 #[] w fun e w' => e = .returned (.bool true) ∧ Below w.heap.size w w' := by
  have HBs := hide (base_any w 600 7)
  go_enter Try.func4, Try.ntmps4
  go_wp2_with fail
  refine HBs.out.mono ?_
  rintro e9 w1 ⟨v1, S, m, rfl, ho1, hS, hm, hmm, hb1⟩
  have hm6 : m = 600 := by
    have e : (IntKind.u64.wrap 600).tmod 7000 = 600 := by decide
    omega
  subst hm6
  obtain ⟨hSl, hSv⟩ := hS
  obtain ⟨a1, c1, rfl, hl1, _⟩ := ho1.form
  have HSv := hide hSv
  have HSl : Hid (S.length = 11352) := hide hSl
  have HOp := hide (open6 w1 a1 c1 S hl1 (by omega) (by omega))
  have HB1 := hide hb1
  have HSb : Hid (Byts S) := hide (fun i => by
    by_cases hi : i < S.length
    · rw [hSv i hi]
      split <;> omega
    · rw [List.getD_eq_getElem?_getD, List.getElem?_eq_none (by omega)]
      simp)
  clear ho1 hl1 hb1 hSl hSv hmm hm HBs
  go_wp2_with fail
  refine HOp.out.mono ?_
  rintro e9 w2 ⟨F, J, f, X, rfl, hf2, hj2, hx2, hlo2, hjl2, hb2⟩
  have HB2 := hide (HB1.out.trans (hb2.mono HB1.out.size))
  have HF2 := hide hf2
  have HJ2 := hide hj2
  have HX2 := hide hx2
  have HLo := hide hlo2
  have HBg := hide (begin_ok w2 J)
  have hXl := hf2.x
  have HXl := hide hXl
  have hjl := hj2.lt
  clear hf2 hj2 hx2 hlo2 hb2 HOp hXl
  go_wp2_with fail
  refine HBg.out.mono ?_
  rintro e9 w3 ⟨T, rfl, hT3, htx3, hb3⟩
  have hq3 : Txq w3 T J F X f ⟨S, S, []⟩ 2000000 0 (.map none) (.map none) (.slice none 0 0) nobM nobM 512 10752 0 :=
    ⟨htx3, ⟨Or.inl ⟨rfl, fun _ => rfl⟩, Or.inl ⟨rfl, fun _ => rfl⟩, fun _ => Z5_len, fun _ => Z5_len⟩, Or.inl ⟨rfl, rfl⟩, HJ2.out.below hb3, HF2.out.below hb3, fun e => by have := HXl.out T e; omega, HX2.out, fun r hr => (by rcases hr with h | h <;> cases h), (by omega)⟩
  have HB3 := hide (HB2.out.trans (hb3.mono HB2.out.size))
  have kc := Go.Lib.run_convert_bytes_const w3 30 5 #[.int .u8 97] 1 1 Try.underlying30 Try.underlying5
  have hb4 : Below w3.heap.size w3 (w3.alloc (.cells #[.int .u8 97] 5 (1, 2))) := (Below.refl _ _).alloc (Nat.le_refl _) _
  have hl4 : Lies (w3.alloc (.cells #[.int .u8 97] 5 (1, 2))) (some ⟨w3.heap.size, 0, none⟩) [97] := lies_marked w3 [97] (1, 2)
  have HPu := hide (put_q _ T J F X f _ _ _ _ _ _ _ _ 512 10752 0 (hq3.below hb4) (some ⟨w3.heap.size, 0, none⟩) 1 1 [97] rfl hl4 (by omega) (fun _ x hx => ⟨by cases hx; have := hq3.tx.lt; simp; omega, fun r hr => by rcases hr with h | h <;> cases h⟩) 10755 (by omega))
  have HB4 := hide (HB3.out.trans (hb4.mono HB3.out.size))
  have hT4 := hq3.tx.lt
  have hXw : ∀ i, X i → w.heap.size ≤ i := fun i hi => Nat.le_trans HB1.out.size (HLo.out i hi)
  have HXw := hide hXw
  have hTw : w.heap.size ≤ T := by have := HB2.out.size; omega
  have hJw : w.heap.size ≤ J := by have := HB1.out.size; omega
  clear hq3 hb4 hl4 hb3 htx3 HBg hXw
  go_wp2_with fail
  generalize w3.alloc (.cells #[.int .u8 97] 5 (1, 2)) = w4 at *
  refine HPu.out.mono ?_
  rintro e9 w5 ⟨rfl, ⟨vb, vm, B', M', hq5, hla, hmp⟩, hc5⟩
  have HB5 : Hid (Below w.heap.size w w5) := hide (HB4.out.trans (hc5.below _ HB4.out.size (fun i hi e => by
    rcases e with e | e | e
    · omega
    · cases e
    · cases e)))
  have HMl : Hid (∀ s, (M' s).length = 512) := hide hq5.ov.ml
  have HLa := hide hla
  have HGe := hide (get_q w5 T J F X f _ _ _ vb vm _ B' M' 512 10752 0 hq5 (by omega) 10755 2 (by omega))
  have Hse : Hid (∀ i, seeT S B' M' i = if i = 10755 then 97 else S.getD i 0) := hide (fun i => by
    unfold seeT
    rw [hla.1]
    by_cases e : i = 10755
    · subst e
      rw [if_pos (by omega), if_pos rfl]
      rfl
    · rw [if_neg (by omega), if_neg e, nob_val])
  clear hq5 hla hc5 HPu kc
  go_wp2_with fail
  refine HGe.out.mono ?_
  rintro e9 w6 ⟨⟨f6, hq6⟩, hc6, ⟨hk6, v6, l6, rfl, ho6, hl6, hg6⟩ | ⟨hk6, _⟩⟩
  rotate_left
  · exact absurd (by unfold rdc; split <;> omega) hk6
  have hl6e : l6 = [97, 7] := by
    refine ext_getD (by rw [hl6]; rfl) (fun i hi => ?_)
    rw [hg6 i (by omega), Hse.out]
    rw [hl6] at hi
    match i, hi with
    | 0, _ => rfl
    | 1, _ =>
      rw [if_neg (by omega), HSv.out _ (by rw [HSl.out]; omega)]
      rfl
  subst hl6e
  obtain ⟨a6, c6, rfl, hs6, _⟩ := ho6.form
  have HB6 : Hid (Below w.heap.size w w6) := hide (HB5.out.trans (hc6.below _ HB5.out.size (fun i hi e => by have := HXw.out i e; omega)))
  have HQ6 := hide hq6
  have HL6 := hide hs6
  have HBy1 := hide (bytes_fl w6 X F f6 _ _ _ hq6.fl)
  clear hq6 hc6 hk6 ho6 hl6 hg6 hs6 HGe
  go_wp2_with fail
  refine HBy1.out.mono ?_
  rintro e9 w7 ⟨v7, rfl, ho7, hb7⟩
  have ho7' : Own w7 w6.heap.size v7 S := ho7
  obtain ⟨a7, c7, rfl, hl7, _⟩ := ho7'.form
  have HQ7 := hide (HQ6.out.below hb7)
  have HB7 := hide (HB6.out.trans (hb7.mono HB6.out.size))
  have HL7 := hide (HL6.out.below hb7)
  have HBy2 := hide (bytes_fl w7 X F f6 _ _ _ (HQ6.out.below hb7).fl)
  have hlen7 : ¬ ((S.length : Int) < 11352) := by have := HSl.out; omega
  clear ho7 ho7' hl7 hb7 HBy1
  go_wp2_with fail
  refine HBy2.out.mono ?_
  rintro e9 w8 ⟨v8, rfl, ho8, hb8⟩
  have ho8' : Own w8 w7.heap.size v8 S := ho8
  obtain ⟨a8, c8, rfl, hl8, _, _, _, hg8⟩ := ho8'.form
  obtain ⟨g8, rfl, _, _⟩ := hg8 (fun e => by have := HSl.out; rw [e] at this; simp at this)
  have q8 := ho8'.cell rfl 10755 (by have := HSl.out; omega)
  rw [HSv.out 10755 (by have := HSl.out; omega), if_pos (by omega)] at q8
  have hi8 : (10755 : Int) < (S.length : Int) := by have := HSl.out; omega
  have HQ8 := HQ7.out.below hb8
  have hrt := run_text (P := Try.prog) (dst := 9) Try.underlying30 Try.underlying5 Try.underlying9 w8 a6 [97, 7] c6 (HL7.out.below hb8)
  have hba : ba [97, 7] = { data := #[97, 7] } := by decide
  rw [hba] at hrt
  have hrs : (convert 30 9 (.slice a6 2 c6)).run Try.prog w8 = .ok (.string { data := #[97, 7] }) w8 := hrt
  have HB8 := hide (HB7.out.trans (hb8.mono HB7.out.size))
  have hse := ex_secs HMl.out HLa.out
  have hrn : runsM M' = [(10752, 11264)] := by unfold runsM; rw [hse]; rfl
  have HCm := hide (commit_q w8 T J F X f6 ⟨S, S, []⟩ _ _ vb vm B' M' 512 10752 0 HQ8 (by omega) (by omega) (by omega) (by omega) (fun s hs => by rw [HLa.out.2.2 s hs]; exact nob_no s) (fun r hr => by rw [hrn] at hr; simp at hr; subst hr; simp) (fun i => by
    show 0 ≤ seeT S B' M' i ∧ seeT S B' M' i < 256
    rw [Hse.out]
    split
    · omega
    · exact HSb.out i))
  have HTw := hide hTw
  have HJw := hide hJw
  have HRn := hide hrn
  clear ho8 ho8' hl8 hb8 hg8 hrt hba HQ8 hse hrn HBy2
  go_wp2_with fail
  refine HCm.out.mono ?_
  have hsz : sizeR (runsM M') = 524 := by rw [HRn.out]; rfl
  have hrd : rdR S (runsM M') ≤ 2 := by
    rw [HRn.out]
    unfold rdR rdc
    simp only [List.map_cons, List.map_nil, List.sum_cons, List.sum_nil]
    split <;> omega
  have hrc : rdc S 10755 2 ≤ 1 := by unfold rdc; split <;> omega
  rintro e9 w9 (⟨h9, _⟩ | ⟨_, h9, _⟩ | ⟨_, _, rfl, ht9, nu9, n9, hn9, X9, f9, hf9, hx9, hc9, _⟩)
  · rw [hsz] at h9; omega
  · exact absurd (show rdR S (runsM M') ≤ _ by omega) h9
  obtain ⟨D, hD⟩ : ∃ D, D = recsM S B' M' := ⟨_, rfl⟩
  have hDe : D = [(10752, (List.range 512).map (fun i => seeT S B' M' (10752 + i)))] := by
    rw [hD]
    unfold recsM
    rw [HRn.out]
    rfl
  rw [show recsM (A3.S ⟨S, S, []⟩) B' M' = D from hD.symm] at hf9 ⊢
  have hDn : D ≠ [] := by rw [hDe]; simp
  have htO : txO 512 0 D = comO 512 0 D ++ appO 512 D := if_neg hDn
  have htL : (txO 512 0 D).length = 8 := by
    rw [htO, List.length_append, hDe]
    rfl
  rw [List.take_of_length_le (by rw [htL]; show 8 ≤ 2000000 - rdc S 10755 2 - rdR S (runsM M'); omega)] at hf9
  rw [cod_ok (by rw [htL]; show 8 ≤ 2000000 - rdc S 10755 2 - rdR S (runsM M'); omega)]
  rw [htO, doAll_append, com_state, app_state] at hf9
  obtain ⟨S9, hS9⟩ : ∃ S9, S9 = appS (comS S 512 0 D) 512 D := ⟨_, rfl⟩
  rw [← hS9] at hf9
  have hS9v : S9.getD 10755 0 = 97 ∧ 11264 ≤ S9.length := by
    rw [hS9]
    have hll : ((List.range 512).map (fun i => seeT S B' M' (10752 + i))).length = 512 := by simp
    constructor
    · rw [appS_get, if_neg (by omega), hDe]
      simp only [putS]
      rw [wr_get, hll, if_pos (by simp)]
      have : ((List.range 512).map (fun i => seeT S B' M' (10752 + i))).getD (10755 - (10752 : Int).toNat) 0 = seeT S B' M' 10755 := by
        rw [show 10755 - (10752 : Int).toNat = 3 by decide, List.getD_eq_getElem?_getD, List.getElem?_map, List.getElem?_range (by omega)]
        rfl
      rw [this, Hse.out, if_pos rfl]
    · unfold appS
      rw [hDe]
      simp only [putS]
      have hz := Z512_len
      rw [wr_len, wr_len, hll, if_neg (fun e => by rw [e] at hz; simp at hz), if_neg (fun e => by rw [e] at hll; simp at hll)]
      show 11264 ≤ max (max _ (10752 + 512)) (512 + Z512.length)
      omega
  have HB9 : Hid (Below w.heap.size w w9) := hide (HB8.out.trans (hc9.below _ HB8.out.size (fun i hi e => by
    rcases e with e | e | e
    · have := HXw.out i e; omega
    · have := HJw.out; omega
    · have := HTw.out; omega)))
  have HBy3 := hide (bytes_fl w9 X9 F f9 _ _ _ hf9)
  have HT9 := hide ht9
  have HS9 := hide hS9v
  clear ht9 hf9 hx9 hc9 hn9 hD hDe hDn htO htL hS9 hS9v hsz hrd hrc HCm
  go_wp2_with fail
  refine HBy3.out.mono ?_
  rintro e9 w10 ⟨v10, rfl, ho10, hb10⟩
  have ho10' : Own w10 w9.heap.size v10 S9 := ho10
  obtain ⟨a10, c10, rfl, hl10, _, _, _, hg10⟩ := ho10'.form
  obtain ⟨g10, rfl, _, _⟩ := hg10 (fun e => by have := HS9.out.2; rw [e] at this; simp at this)
  have q10 := ho10'.cell rfl 10755 (by have := HS9.out.2; omega)
  rw [HS9.out.1] at q10
  have hi10 : (10755 : Int) < (S9.length : Int) := by have := HS9.out.2; omega
  have HB10 := hide (HB9.out.trans (hb10.mono HB9.out.size))
  have HPd := hide (put_done w10 T J _ _ _ (HT9.out.below hb10) (.int .i64 0) (.slice none 0 0))
  clear ho10 ho10' hl10 hg10 hb10 HBy3
  go_wp2_with fail
  refine HPd.out.mono ?_
  rintro e9 w11 ⟨rfl, h11⟩
  rw [h11]
  clear h11
  go_wp2_with fail
  go_ret
  exact ⟨rfl, HB10.out⟩
end Go.Proofs.Ytkhknfohcebicaa.Oct
namespace Go.Proofs.Ytkhknfohcebicaa.Oct
open Go.RowKit Go.Deep Go.Sort

theorem exec_append {P : Program} {a : Act} {o : Oper} {s x : Operand} {t : TypeId} {v q v' : Value} {w w' : World} (ho : o.op = .call { callee := .builtin .append, args := #[s, x], argTypes := #[t, t] }) (hs : a.eval s = v) (hx : a.eval x = q) (h : (Builtin.append_ #[t, t] o.type #[v, q]).run P w = .ok v' w') : (execOp a.eval o).run P w = .ok (.value v') w' := by
  unfold execOp
  simp only [ho, resolve, invoke, builtin, Sem.run_bind, Sem.run_pure, Result.andThen_ok, List.map_toArray, List.map_cons, List.map_nil, hs, hx, h]

set_option maxRecDepth 100000 in
set_option maxHeartbeats 8000000 in
theorem fresh_q (w : World) (T J F : Nat) (X : Nat → Prop) (f : Fs) (A : A3) (k n : Nat) (vb vm va : Value) (B M : Int → List Int) (p q : Nat) (nu : Int) (h : Txq w T J F X f A k n vb vm va B M p q nu) (Ba : Nat) (L : List JR) (hva : OwnK w Ba va L) (hBa : Ba ≤ w.heap.size) (hLl : L.length ≤ 1000) (hsep : ∀ g, va.ownBlock = some g → g ≠ T ∧ g ≠ J ∧ ¬ X g ∧ ∀ r, vb = .map (some r) ∨ vm = .map (some r) → g ≠ r)
    (a : Option Addr) (cap m : Nat) (pl : List Int) (hm : m = pl.length) (hm0 : 0 < m) (hl : Lies w a pl) (hcap : m ≤ cap ∧ cap ≤ 9223372036854775807)
    (hlT : ∀ x, a = some x → x.block ≠ T ∧ some x.block ≠ va.ownBlock ∧ ∀ r, vb = .map (some r) ∨ vm = .map (some r) → x.block ≠ r) (t : Nat) (htn : t + m ≤ 4194304) (h512 : t % 512 = 0) :
    Calls Try.prog 12 #[.pointer (some ⟨T, 0, none⟩), .int .i64 t, .slice a m cap] w fun e w' => e = .returned (.int .i64 0) ∧ (∃ vb' vm' va' B' M', Txq w' T J F X f A k n vb' vm' va' B' M' p q nu ∧ Laid B M B' M' t m pl 1 ∧ (∀ r, vb' = .map (some r) ∨ vm' = .map (some r) → (vb = .map (some r) ∨ vm = .map (some r)) ∨ w.heap.size ≤ r)) ∧ Chg (fun k => k = T ∨ some k = va.ownBlock ∨ vb = .map (some k) ∨ vm = .map (some k)) w w' := by
  have HH := hide h
  have HOp := hide (open_tx w T J vb vm _ h.tx)
  have HOu := hide (outside_no w t m htn)
  have HXl := hide h.fl.x
  have HVa := hide hva
  have HSep := hide hsep
  have HlT := hide hlT
  have HL := hide hl
  have HHm := hide hm
  have hd1 : ((t : Nat) : Int).tmod 512 = 0 := by rw [Int.tmod_eq_emod_of_nonneg (by omega)]; omega
  have hd2 : ((t : Nat) : Int) % 512 = 0 := by omega
  have hTl := h.tx.lt
  have hS0 : w.drew.cell? ⟨T, 3, none⟩ = some va := h.tx.cell.2.2.2.1
  have hd0 : Below w.heap.size w w.drew := (Below.refl _ _).drew
  obtain ⟨i1, hi, hz0, hz1, hz2⟩ := info_parts info_rec
  clear h hva hsep hlT hl hm
  go_enter Try.func12, Try.ntmps12
  go_wp2_with fail
  refine HOp.out.mono ?_
  rintro e9 w9 ⟨rfl, h9⟩
  subst h9
  go_wp2_with fail
  refine HOu.out.mono ?_
  rintro e9 w9 ⟨rfl, h9⟩
  subst h9
  go_wp2_with fail
  refine wp_region_held_drew (S := (fun _ : World => True)) (by kernel_rfl) trivial (fun _ => ?_)
  refine any_take 0 (some 25) (.pointer (some ⟨T, 0, none⟩)) rfl rfl (by kernel_rfl) (by kernel_rfl) (by kernel_rfl) (fun _ _ _ h => h) (by rfl) trivial ?_ ?_
  · intro u hSu
    go_simp
  simp only [Act.put, List.setIfInBounds_toArray, List.set_cons_zero, List.set_cons_succ]
  refine any_take 1 (some 26) (.pointer (some ⟨T, 0, none⟩)) rfl rfl (by kernel_rfl) (by kernel_rfl) (by kernel_rfl) (fun _ _ _ h => h) (by rfl) trivial ?_ ?_
  · intro u hSu
    go_simp
  simp only [Act.put, List.setIfInBounds_toArray, List.set_cons_zero, List.set_cons_succ]
  refine any_take 2 (some 27) (.pointer (some ⟨T, 0, none⟩)) rfl rfl (by kernel_rfl) (by kernel_rfl) (by kernel_rfl) (fun _ _ _ h => h) (by rfl) trivial ?_ ?_
  · intro u hSu
    go_simp
  simp only [Act.put, List.setIfInBounds_toArray, List.set_cons_zero, List.set_cons_succ]
  refine any_take 3 (some 28) (.pointer (some ⟨T, 3, none⟩)) rfl rfl (by kernel_rfl) (by kernel_rfl) (by kernel_rfl) (fun _ _ _ h => h) (by rfl) trivial ?_ ?_
  · intro u hSu
    go_simp
  simp only [Act.put, List.setIfInBounds_toArray, List.set_cons_zero, List.set_cons_succ]
  refine any_take 5 (some 30) (.int .i64 (t : Int)) rfl rfl (by kernel_rfl) (by kernel_rfl) (by kernel_rfl) (fun _ _ _ h => h) (by rfl) trivial ?_ ?_
  · intro u hSu
    go_simp
  simp only [Act.put, List.setIfInBounds_toArray, List.set_cons_zero, List.set_cons_succ]
  refine any_take 6 (some 31) (.slice a m cap) rfl rfl (by kernel_rfl) (by kernel_rfl) (by kernel_rfl) (fun _ _ _ h => h) (by rfl) trivial ?_ ?_
  · intro u hSu
    go_simp
  simp only [Act.put, List.setIfInBounds_toArray, List.set_cons_zero, List.set_cons_succ]
  refine wpAnyH_ready (rs := [4, 7]) (by kernel_rfl) (by simp) ?_
  refine AllReadyH.cons (i := 4) rfl (fun K hK => ?_) (AllReadyH.cons (i := 7) rfl (fun K hK => ?_) AllReadyH.nil)
  · have cL := hS0
    go_simp
    refine hK.out _ _ trivial (fun _ => ?_)
    clear hK K
    try simp only [Act.put, List.setIfInBounds_toArray, List.set_cons_zero, List.set_cons_succ]
    clear cL
    refine wpAnyH_ready (rs := [7]) (by kernel_rfl) (by simp) ?_
    refine AllReadyH.cons (i := 7) rfl (fun K hK => ?_) AllReadyH.nil
    go_simp
    have HCl := hide (clone_any w9.drew a cap pl (HL.out.below hd0) (by have := HHm.out; omega))
    rw [← HHm.out] at HCl
    refine HCl.out.mono ?_
    rintro e9 wA ⟨vC, rfl, hoC, hbA⟩
    have hbwA : Below w9.heap.size w9 wA := hd0.trans (hbA.mono hd0.size)
    obtain ⟨aC, cC, rfl, hsC, hfC⟩ := hoC.sl
    rw [← HHm.out]
    go_simp
    refine hK.out _ _ trivial (fun _ => ?_)
    clear hK K
    try simp only [Act.put, List.setIfInBounds_toArray, List.set_cons_zero, List.set_cons_succ]
    refine any_take 8 (some 33) (.agg #[.int .i64 (t : Int), .slice aC m cC]) rfl rfl (by kernel_rfl) (by kernel_rfl) (by kernel_rfl) (fun _ _ _ h => h) (by rfl) trivial ?_ ?_
    · intro u hSu
      go_simp
    simp only [Act.put, List.setIfInBounds_toArray, List.set_cons_zero, List.set_cons_succ]
    refine wpAnyH_ready (rs := [9]) (by kernel_rfl) (by simp) ?_
    refine AllReadyH.cons (i := 9) rfl (fun K hK => ?_) AllReadyH.nil
    go_simp
    have hbB : Below wA.heap.size wA (wA.alloc (.cells #[.int .i64 (t : Int), .slice aC m cC] 75)) := (Below.refl _ _).alloc (Nat.le_refl _) _
    have hbwB : Below w9.heap.size w9 (wA.alloc (.cells #[.int .i64 (t : Int), .slice aC m cC] 75)) := hbwA.trans (hbB.mono hbwA.size)
    have hnB := new2J wA 75 (.int .i64 (t : Int)) (.slice aC m cC)
    refine hK.out _ _ trivial (fun _ => ?_)
    clear hK K
    try simp only [Act.put, List.setIfInBounds_toArray, List.set_cons_zero, List.set_cons_succ]
    generalize hWB : wA.alloc (.cells #[.int .i64 (t : Int), .slice aC m cC] 75) = wB at *
    obtain ⟨v5, w5, hr5, ho5, hg5, _, hw5⟩ := run_append_own_at (P := Try.prog) wB Ba 67 67 75 i1 (.agg #[.int .i64 0, .slice none 0 0]) 2 32 Try.underlying67 hi hz0 hz1 hz2 rfl (by decide) va L.length (L.flatMap JR.cells) (HVa.out.below hbwB).row ⟨wA.heap.size, 0, none⟩ 1 1 [.int .i64 (t : Int), .slice aC m cC] rfl hnB (by simp [Value.oneCell']) (by unfold maxLen; omega) (by omega) (Nat.le_trans hBa hbwB.size)
    obtain ⟨g5', cp5, hv5⟩ : ∃ g cp, v5 = .slice (some ⟨g, 0, none⟩) (L.length + 1) cp := by
      rcases ho5.2 with ⟨_, h0⟩ | ⟨g, cp, cur, h0, _⟩
      · omega
      · exact ⟨g, cp, h0⟩
    subst hv5
    have hnT : some T ≠ va.ownBlock := fun e => (HSep.out T e.symm).1 rfl
    refine ready_val 10 (some 35) (.slice (some ⟨g5', 0, none⟩) (L.length + 1) cp5) w5 (by kernel_rfl) rfl rfl rfl (exec_append rfl rfl rfl hr5) trivial ?_
    try simp only [Act.put, List.setIfInBounds_toArray, List.set_cons_zero, List.set_cons_succ]
    refine any_take 11 (some 36) (.pointer (some ⟨T, 0, none⟩)) rfl rfl (by kernel_rfl) (by kernel_rfl) (by kernel_rfl) (fun _ _ _ h => h) (by rfl) trivial ?_ ?_
    · intro u hSu
      go_simp
    simp only [Act.put, List.setIfInBounds_toArray, List.set_cons_zero, List.set_cons_succ]
    refine any_take 12 (some 37) (.pointer (some ⟨T, 3, none⟩)) rfl rfl (by kernel_rfl) (by kernel_rfl) (by kernel_rfl) (fun _ _ _ h => h) (by rfl) trivial ?_ ?_
    · intro u hSu
      go_simp
    simp only [Act.put, List.setIfInBounds_toArray, List.set_cons_zero, List.set_cons_succ]
    refine wpAnyH_ready (rs := [13]) (by kernel_rfl) (by simp) ?_
    refine AllReadyH.cons (i := 13) rfl (fun K hK => ?_) AllReadyH.nil
    have hc5 : Chg (fun k => k = T ∨ some k = va.ownBlock) w9 w5 := (Chg.of_below hbwB).trans ((Chg.of_grown hg5).mono (fun i _ e => Or.inr e))
    have ht5 : Txs w5 T J vb vm va false := (hg5.block T (Nat.lt_of_lt_of_le hTl hbwB.size) hnT).trans ((hbwB.block T hTl).trans HH.out.tx)
    have g5 := (show Blk w5 T #[.pointer (some ⟨J, 0, none⟩), vb, vm, va, .bool false] 69 from ht5).frozen 3
    have s5 : w5.cell? ⟨T, 3, none⟩ = some va := ht5.cell.2.2.2.1
    have ht6 : Txs (w5.setCell ⟨T, 3, none⟩ (.slice (some ⟨g5', 0, none⟩) (L.length + 1) cp5)) T J vb vm (.slice (some ⟨g5', 0, none⟩) (L.length + 1) cp5) false := heap_setCell_same _ T 3 _ _ (.slice (some ⟨g5', 0, none⟩) (L.length + 1) cp5) ht5
    have hc6 : Chg (fun k => k = T ∨ some k = va.ownBlock) w9 (w5.setCell ⟨T, 3, none⟩ (.slice (some ⟨g5', 0, none⟩) (L.length + 1) cp5)) := hc5.setCell T 3 _ (fun _ => Or.inl rfl)
    go_simp
    refine hK.out _ _ trivial (fun _ => ?_)
    clear hK K
    try simp only [Act.put, List.setIfInBounds_toArray, List.set_cons_zero, List.set_cons_succ]
    refine wpAnyH_done (by kernel_rfl) ?_ _
    generalize w5.setCell ⟨T, 3, none⟩ (.slice (some ⟨g5', 0, none⟩) (L.length + 1) cp5) = w6 at *
    have hm6 : ∀ r, vb = .map (some r) ∨ vm = .map (some r) → ¬ (r = T ∨ some r = va.ownBlock) := fun r hr e => by
      rcases e with e | e
      · have h1 : w9.heap[T]? = _ := HH.out.tx
        rcases hr with h | h
        · obtain ⟨_, es, cc, he⟩ := HH.out.ov.b.lt r h
          rw [e] at he; rw [he] at h1; cases h1
        · obtain ⟨_, es, cc, he⟩ := HH.out.ov.m.lt r h
          rw [e] at he; rw [he] at h1; cases h1
      · exact (HSep.out r e.symm).2.2.2 r hr rfl
    have hJ6 : ¬ (J = T ∨ some J = va.ownBlock) := fun e => by
      rcases e with e | e
      · exact HH.out.jt e
      · exact (HSep.out J e.symm).2.1 rfl
    have hq6 : Txq w6 T J F X f A k n vb vm (.slice (some ⟨g5', 0, none⟩) (L.length + 1) cp5) B M p q nu :=
      ⟨ht6, HH.out.ov.chg hc6 hm6, HH.out.mm, (hc6.block J HH.out.jr.lt hJ6).trans HH.out.jr, HH.out.fl.chg hc6 (fun i _ hX e => by
        rcases e with e | e
        · exact HH.out.xT (e ▸ hX)
        · exact (HSep.out i e.symm).2.2.1 hX), HH.out.xT, HH.out.xJ, HH.out.xM, HH.out.jt⟩
    have hl6 : Lies w6 a pl := HL.out.chg hc6 (fun x hx e => by
      have := HlT.out x hx
      rcases e with e | e
      · exact this.1 e
      · exact this.2.1 e)
    have HLy := hide (lay_by 1 (by omega) w6 T J vb vm _ false B M hq6.tx hq6.ov hq6.mm a cap m pl HHm.out hl6 hcap (fun _ x hx => ⟨(HlT.out x hx).1, (HlT.out x hx).2.2⟩) t htn)
    have HQ6 := hide hq6
    have HC6 := hide hc6
    have hs6 := hc6.size
    clear hr5 ho5 hg5 hw5 hc5 ht5 g5 s5 ht6 hc6 hm6 hJ6 hq6 hl6 hnB hbwB hbwA hoC hbA hsC hfC HCl
    apply_assumption
    go_wp2_with fail
    refine HLy.out.mono ?_
    rintro e9 w10 ⟨rfl, ⟨r1, r2, B', M', ht, ho, hr, hrr, hv⟩, hc⟩
    have HRr := hide hrr
    have HT := hide ht
    have HO := hide ho
    have HV := hide hv
    have HC := hide hc
    clear ht ho hv hc hrr HLy
    go_wp2_with fail
    go_ret
    have hnY : ∀ k, k < w6.heap.size → X k → ¬ (k = T ∨ vb = .map (some k) ∨ vm = .map (some k)) := fun k _ hk e => by
      rcases e with rfl | e | e
      · exact HH.out.xT hk
      · exact HH.out.xM k (Or.inl e) hk
      · exact HH.out.xM k (Or.inr e) hk
    have hJn : ¬ (J = T ∨ vb = .map (some J) ∨ vm = .map (some J)) := fun e => by
      have hj : w9.heap[J]? = _ := HH.out.jr
      rcases e with e | e | e
      · exact HH.out.jt e
      · obtain ⟨_, es, c, he⟩ := HH.out.ov.b.lt J e
        rw [he] at hj; cases hj
      · obtain ⟨_, es, c, he⟩ := HH.out.ov.m.lt J e
        rw [he] at hj; cases hj
    have hr12 : ∀ r, (r = r1 ∨ r = r2) → ¬ X r := by
      intro r hrr hx
      rcases HRr.out r hrr with h | h
      · exact HH.out.xM r h hx
      · have := HXl.out r hx
        omega
    refine ⟨rfl, ⟨.map (some r1), .map (some r2), _, B', M', ⟨HT.out, HO.out, Or.inr ⟨r1, r2, rfl, rfl, hr⟩, (HC.out.block J HQ6.out.jr.lt hJn).trans HQ6.out.jr, HQ6.out.fl.chg HC.out hnY, HH.out.xT, HH.out.xJ, fun r e => hr12 r (by simpa [eq_comm] using e), HH.out.jt⟩, HV.out, fun r e => (HRr.out r (by simpa [eq_comm] using e)).imp id (fun h => Nat.le_trans hs6 h)⟩, ?_⟩
    refine (HC6.out.mono (fun i _ e => e.imp id Or.inl)).trans (HC.out.mono (fun i _ e => ?_))
    rcases e with e | e
    · exact Or.inl e
    · exact Or.inr (Or.inr e)
  · go_simp
    have HCl := hide (clone_any w9.drew a cap pl (HL.out.below hd0) (by have := HHm.out; omega))
    rw [← HHm.out] at HCl
    refine HCl.out.mono ?_
    rintro e9 wA ⟨vC, rfl, hoC, hbA⟩
    have hbwA : Below w9.heap.size w9 wA := hd0.trans (hbA.mono hd0.size)
    obtain ⟨aC, cC, rfl, hsC, hfC⟩ := hoC.sl
    rw [← HHm.out]
    go_simp
    refine hK.out _ _ trivial (fun _ => ?_)
    clear hK K
    try simp only [Act.put, List.setIfInBounds_toArray, List.set_cons_zero, List.set_cons_succ]
    refine any_take 8 (some 33) (.agg #[.int .i64 (t : Int), .slice aC m cC]) rfl rfl (by kernel_rfl) (by kernel_rfl) (by kernel_rfl) (fun _ _ _ h => h) (by rfl) trivial ?_ ?_
    · intro u hSu
      go_simp
    simp only [Act.put, List.setIfInBounds_toArray, List.set_cons_zero, List.set_cons_succ]
    refine wpAnyH_ready (rs := [4, 9]) (by kernel_rfl) (by simp) ?_
    refine AllReadyH.cons (i := 4) rfl (fun K hK => ?_) (AllReadyH.cons (i := 9) rfl (fun K hK => ?_) AllReadyH.nil)
    · have cL := (hbwA.cell (p := ⟨T, 3, none⟩) hTl).trans hS0
      go_simp
      refine hK.out _ _ trivial (fun _ => ?_)
      clear hK K
      try simp only [Act.put, List.setIfInBounds_toArray, List.set_cons_zero, List.set_cons_succ]
      clear cL
      refine wpAnyH_ready (rs := [9]) (by kernel_rfl) (by simp) ?_
      refine AllReadyH.cons (i := 9) rfl (fun K hK => ?_) AllReadyH.nil
      go_simp
      have hbB : Below wA.heap.size wA (wA.alloc (.cells #[.int .i64 (t : Int), .slice aC m cC] 75)) := (Below.refl _ _).alloc (Nat.le_refl _) _
      have hbwB : Below w9.heap.size w9 (wA.alloc (.cells #[.int .i64 (t : Int), .slice aC m cC] 75)) := hbwA.trans (hbB.mono hbwA.size)
      have hnB := new2J wA 75 (.int .i64 (t : Int)) (.slice aC m cC)
      refine hK.out _ _ trivial (fun _ => ?_)
      clear hK K
      try simp only [Act.put, List.setIfInBounds_toArray, List.set_cons_zero, List.set_cons_succ]
      generalize hWB : wA.alloc (.cells #[.int .i64 (t : Int), .slice aC m cC] 75) = wB at *
      obtain ⟨v5, w5, hr5, ho5, hg5, _, hw5⟩ := run_append_own_at (P := Try.prog) wB Ba 67 67 75 i1 (.agg #[.int .i64 0, .slice none 0 0]) 2 32 Try.underlying67 hi hz0 hz1 hz2 rfl (by decide) va L.length (L.flatMap JR.cells) (HVa.out.below hbwB).row ⟨wA.heap.size, 0, none⟩ 1 1 [.int .i64 (t : Int), .slice aC m cC] rfl hnB (by simp [Value.oneCell']) (by unfold maxLen; omega) (by omega) (Nat.le_trans hBa hbwB.size)
      obtain ⟨g5', cp5, hv5⟩ : ∃ g cp, v5 = .slice (some ⟨g, 0, none⟩) (L.length + 1) cp := by
        rcases ho5.2 with ⟨_, h0⟩ | ⟨g, cp, cur, h0, _⟩
        · omega
        · exact ⟨g, cp, h0⟩
      subst hv5
      have hnT : some T ≠ va.ownBlock := fun e => (HSep.out T e.symm).1 rfl
      refine ready_val 10 (some 35) (.slice (some ⟨g5', 0, none⟩) (L.length + 1) cp5) w5 (by kernel_rfl) rfl rfl rfl (exec_append rfl rfl rfl hr5) trivial ?_
      try simp only [Act.put, List.setIfInBounds_toArray, List.set_cons_zero, List.set_cons_succ]
      refine any_take 11 (some 36) (.pointer (some ⟨T, 0, none⟩)) rfl rfl (by kernel_rfl) (by kernel_rfl) (by kernel_rfl) (fun _ _ _ h => h) (by rfl) trivial ?_ ?_
      · intro u hSu
        go_simp
      simp only [Act.put, List.setIfInBounds_toArray, List.set_cons_zero, List.set_cons_succ]
      refine any_take 12 (some 37) (.pointer (some ⟨T, 3, none⟩)) rfl rfl (by kernel_rfl) (by kernel_rfl) (by kernel_rfl) (fun _ _ _ h => h) (by rfl) trivial ?_ ?_
      · intro u hSu
        go_simp
      simp only [Act.put, List.setIfInBounds_toArray, List.set_cons_zero, List.set_cons_succ]
      refine wpAnyH_ready (rs := [13]) (by kernel_rfl) (by simp) ?_
      refine AllReadyH.cons (i := 13) rfl (fun K hK => ?_) AllReadyH.nil
      have hc5 : Chg (fun k => k = T ∨ some k = va.ownBlock) w9 w5 := (Chg.of_below hbwB).trans ((Chg.of_grown hg5).mono (fun i _ e => Or.inr e))
      have ht5 : Txs w5 T J vb vm va false := (hg5.block T (Nat.lt_of_lt_of_le hTl hbwB.size) hnT).trans ((hbwB.block T hTl).trans HH.out.tx)
      have g5 := (show Blk w5 T #[.pointer (some ⟨J, 0, none⟩), vb, vm, va, .bool false] 69 from ht5).frozen 3
      have s5 : w5.cell? ⟨T, 3, none⟩ = some va := ht5.cell.2.2.2.1
      have ht6 : Txs (w5.setCell ⟨T, 3, none⟩ (.slice (some ⟨g5', 0, none⟩) (L.length + 1) cp5)) T J vb vm (.slice (some ⟨g5', 0, none⟩) (L.length + 1) cp5) false := heap_setCell_same _ T 3 _ _ (.slice (some ⟨g5', 0, none⟩) (L.length + 1) cp5) ht5
      have hc6 : Chg (fun k => k = T ∨ some k = va.ownBlock) w9 (w5.setCell ⟨T, 3, none⟩ (.slice (some ⟨g5', 0, none⟩) (L.length + 1) cp5)) := hc5.setCell T 3 _ (fun _ => Or.inl rfl)
      go_simp
      refine hK.out _ _ trivial (fun _ => ?_)
      clear hK K
      try simp only [Act.put, List.setIfInBounds_toArray, List.set_cons_zero, List.set_cons_succ]
      refine wpAnyH_done (by kernel_rfl) ?_ _
      generalize w5.setCell ⟨T, 3, none⟩ (.slice (some ⟨g5', 0, none⟩) (L.length + 1) cp5) = w6 at *
      have hm6 : ∀ r, vb = .map (some r) ∨ vm = .map (some r) → ¬ (r = T ∨ some r = va.ownBlock) := fun r hr e => by
        rcases e with e | e
        · have h1 : w9.heap[T]? = _ := HH.out.tx
          rcases hr with h | h
          · obtain ⟨_, es, cc, he⟩ := HH.out.ov.b.lt r h
            rw [e] at he; rw [he] at h1; cases h1
          · obtain ⟨_, es, cc, he⟩ := HH.out.ov.m.lt r h
            rw [e] at he; rw [he] at h1; cases h1
        · exact (HSep.out r e.symm).2.2.2 r hr rfl
      have hJ6 : ¬ (J = T ∨ some J = va.ownBlock) := fun e => by
        rcases e with e | e
        · exact HH.out.jt e
        · exact (HSep.out J e.symm).2.1 rfl
      have hq6 : Txq w6 T J F X f A k n vb vm (.slice (some ⟨g5', 0, none⟩) (L.length + 1) cp5) B M p q nu :=
        ⟨ht6, HH.out.ov.chg hc6 hm6, HH.out.mm, (hc6.block J HH.out.jr.lt hJ6).trans HH.out.jr, HH.out.fl.chg hc6 (fun i _ hX e => by
          rcases e with e | e
          · exact HH.out.xT (e ▸ hX)
          · exact (HSep.out i e.symm).2.2.1 hX), HH.out.xT, HH.out.xJ, HH.out.xM, HH.out.jt⟩
      have hl6 : Lies w6 a pl := HL.out.chg hc6 (fun x hx e => by
        have := HlT.out x hx
        rcases e with e | e
        · exact this.1 e
        · exact this.2.1 e)
      have HLy := hide (lay_by 1 (by omega) w6 T J vb vm _ false B M hq6.tx hq6.ov hq6.mm a cap m pl HHm.out hl6 hcap (fun _ x hx => ⟨(HlT.out x hx).1, (HlT.out x hx).2.2⟩) t htn)
      have HQ6 := hide hq6
      have HC6 := hide hc6
      have hs6 := hc6.size
      clear hr5 ho5 hg5 hw5 hc5 ht5 g5 s5 ht6 hc6 hm6 hJ6 hq6 hl6 hnB hbwB hbwA hoC hbA hsC hfC HCl
      apply_assumption
      go_wp2_with fail
      refine HLy.out.mono ?_
      rintro e9 w10 ⟨rfl, ⟨r1, r2, B', M', ht, ho, hr, hrr, hv⟩, hc⟩
      have HRr := hide hrr
      have HT := hide ht
      have HO := hide ho
      have HV := hide hv
      have HC := hide hc
      clear ht ho hv hc hrr HLy
      go_wp2_with fail
      go_ret
      have hnY : ∀ k, k < w6.heap.size → X k → ¬ (k = T ∨ vb = .map (some k) ∨ vm = .map (some k)) := fun k _ hk e => by
        rcases e with rfl | e | e
        · exact HH.out.xT hk
        · exact HH.out.xM k (Or.inl e) hk
        · exact HH.out.xM k (Or.inr e) hk
      have hJn : ¬ (J = T ∨ vb = .map (some J) ∨ vm = .map (some J)) := fun e => by
        have hj : w9.heap[J]? = _ := HH.out.jr
        rcases e with e | e | e
        · exact HH.out.jt e
        · obtain ⟨_, es, c, he⟩ := HH.out.ov.b.lt J e
          rw [he] at hj; cases hj
        · obtain ⟨_, es, c, he⟩ := HH.out.ov.m.lt J e
          rw [he] at hj; cases hj
      have hr12 : ∀ r, (r = r1 ∨ r = r2) → ¬ X r := by
        intro r hrr hx
        rcases HRr.out r hrr with h | h
        · exact HH.out.xM r h hx
        · have := HXl.out r hx
          omega
      refine ⟨rfl, ⟨.map (some r1), .map (some r2), _, B', M', ⟨HT.out, HO.out, Or.inr ⟨r1, r2, rfl, rfl, hr⟩, (HC.out.block J HQ6.out.jr.lt hJn).trans HQ6.out.jr, HQ6.out.fl.chg HC.out hnY, HH.out.xT, HH.out.xJ, fun r e => hr12 r (by simpa [eq_comm] using e), HH.out.jt⟩, HV.out, fun r e => (HRr.out r (by simpa [eq_comm] using e)).imp id (fun h => Nat.le_trans hs6 h)⟩, ?_⟩
      refine (HC6.out.mono (fun i _ e => e.imp id Or.inl)).trans (HC.out.mono (fun i _ e => ?_))
      rcases e with e | e
      · exact Or.inl e
      · exact Or.inr (Or.inr e)
    · go_simp
      have hbB : Below wA.heap.size wA (wA.alloc (.cells #[.int .i64 (t : Int), .slice aC m cC] 75)) := (Below.refl _ _).alloc (Nat.le_refl _) _
      have hbwB : Below w9.heap.size w9 (wA.alloc (.cells #[.int .i64 (t : Int), .slice aC m cC] 75)) := hbwA.trans (hbB.mono hbwA.size)
      have hnB := new2J wA 75 (.int .i64 (t : Int)) (.slice aC m cC)
      refine hK.out _ _ trivial (fun _ => ?_)
      clear hK K
      try simp only [Act.put, List.setIfInBounds_toArray, List.set_cons_zero, List.set_cons_succ]
      generalize hWB : wA.alloc (.cells #[.int .i64 (t : Int), .slice aC m cC] 75) = wB at *
      refine wpAnyH_ready (rs := [4]) (by kernel_rfl) (by simp) ?_
      refine AllReadyH.cons (i := 4) rfl (fun K hK => ?_) AllReadyH.nil
      have cL := (hbwB.cell (p := ⟨T, 3, none⟩) hTl).trans hS0
      go_simp
      refine hK.out _ _ trivial (fun _ => ?_)
      clear hK K
      try simp only [Act.put, List.setIfInBounds_toArray, List.set_cons_zero, List.set_cons_succ]
      clear cL
      obtain ⟨v5, w5, hr5, ho5, hg5, _, hw5⟩ := run_append_own_at (P := Try.prog) wB Ba 67 67 75 i1 (.agg #[.int .i64 0, .slice none 0 0]) 2 32 Try.underlying67 hi hz0 hz1 hz2 rfl (by decide) va L.length (L.flatMap JR.cells) (HVa.out.below hbwB).row ⟨wA.heap.size, 0, none⟩ 1 1 [.int .i64 (t : Int), .slice aC m cC] rfl hnB (by simp [Value.oneCell']) (by unfold maxLen; omega) (by omega) (Nat.le_trans hBa hbwB.size)
      obtain ⟨g5', cp5, hv5⟩ : ∃ g cp, v5 = .slice (some ⟨g, 0, none⟩) (L.length + 1) cp := by
        rcases ho5.2 with ⟨_, h0⟩ | ⟨g, cp, cur, h0, _⟩
        · omega
        · exact ⟨g, cp, h0⟩
      subst hv5
      have hnT : some T ≠ va.ownBlock := fun e => (HSep.out T e.symm).1 rfl
      refine ready_val 10 (some 35) (.slice (some ⟨g5', 0, none⟩) (L.length + 1) cp5) w5 (by kernel_rfl) rfl rfl rfl (exec_append rfl rfl rfl hr5) trivial ?_
      try simp only [Act.put, List.setIfInBounds_toArray, List.set_cons_zero, List.set_cons_succ]
      refine any_take 11 (some 36) (.pointer (some ⟨T, 0, none⟩)) rfl rfl (by kernel_rfl) (by kernel_rfl) (by kernel_rfl) (fun _ _ _ h => h) (by rfl) trivial ?_ ?_
      · intro u hSu
        go_simp
      simp only [Act.put, List.setIfInBounds_toArray, List.set_cons_zero, List.set_cons_succ]
      refine any_take 12 (some 37) (.pointer (some ⟨T, 3, none⟩)) rfl rfl (by kernel_rfl) (by kernel_rfl) (by kernel_rfl) (fun _ _ _ h => h) (by rfl) trivial ?_ ?_
      · intro u hSu
        go_simp
      simp only [Act.put, List.setIfInBounds_toArray, List.set_cons_zero, List.set_cons_succ]
      refine wpAnyH_ready (rs := [13]) (by kernel_rfl) (by simp) ?_
      refine AllReadyH.cons (i := 13) rfl (fun K hK => ?_) AllReadyH.nil
      have hc5 : Chg (fun k => k = T ∨ some k = va.ownBlock) w9 w5 := (Chg.of_below hbwB).trans ((Chg.of_grown hg5).mono (fun i _ e => Or.inr e))
      have ht5 : Txs w5 T J vb vm va false := (hg5.block T (Nat.lt_of_lt_of_le hTl hbwB.size) hnT).trans ((hbwB.block T hTl).trans HH.out.tx)
      have g5 := (show Blk w5 T #[.pointer (some ⟨J, 0, none⟩), vb, vm, va, .bool false] 69 from ht5).frozen 3
      have s5 : w5.cell? ⟨T, 3, none⟩ = some va := ht5.cell.2.2.2.1
      have ht6 : Txs (w5.setCell ⟨T, 3, none⟩ (.slice (some ⟨g5', 0, none⟩) (L.length + 1) cp5)) T J vb vm (.slice (some ⟨g5', 0, none⟩) (L.length + 1) cp5) false := heap_setCell_same _ T 3 _ _ (.slice (some ⟨g5', 0, none⟩) (L.length + 1) cp5) ht5
      have hc6 : Chg (fun k => k = T ∨ some k = va.ownBlock) w9 (w5.setCell ⟨T, 3, none⟩ (.slice (some ⟨g5', 0, none⟩) (L.length + 1) cp5)) := hc5.setCell T 3 _ (fun _ => Or.inl rfl)
      go_simp
      refine hK.out _ _ trivial (fun _ => ?_)
      clear hK K
      try simp only [Act.put, List.setIfInBounds_toArray, List.set_cons_zero, List.set_cons_succ]
      refine wpAnyH_done (by kernel_rfl) ?_ _
      generalize w5.setCell ⟨T, 3, none⟩ (.slice (some ⟨g5', 0, none⟩) (L.length + 1) cp5) = w6 at *
      have hm6 : ∀ r, vb = .map (some r) ∨ vm = .map (some r) → ¬ (r = T ∨ some r = va.ownBlock) := fun r hr e => by
        rcases e with e | e
        · have h1 : w9.heap[T]? = _ := HH.out.tx
          rcases hr with h | h
          · obtain ⟨_, es, cc, he⟩ := HH.out.ov.b.lt r h
            rw [e] at he; rw [he] at h1; cases h1
          · obtain ⟨_, es, cc, he⟩ := HH.out.ov.m.lt r h
            rw [e] at he; rw [he] at h1; cases h1
        · exact (HSep.out r e.symm).2.2.2 r hr rfl
      have hJ6 : ¬ (J = T ∨ some J = va.ownBlock) := fun e => by
        rcases e with e | e
        · exact HH.out.jt e
        · exact (HSep.out J e.symm).2.1 rfl
      have hq6 : Txq w6 T J F X f A k n vb vm (.slice (some ⟨g5', 0, none⟩) (L.length + 1) cp5) B M p q nu :=
        ⟨ht6, HH.out.ov.chg hc6 hm6, HH.out.mm, (hc6.block J HH.out.jr.lt hJ6).trans HH.out.jr, HH.out.fl.chg hc6 (fun i _ hX e => by
          rcases e with e | e
          · exact HH.out.xT (e ▸ hX)
          · exact (HSep.out i e.symm).2.2.1 hX), HH.out.xT, HH.out.xJ, HH.out.xM, HH.out.jt⟩
      have hl6 : Lies w6 a pl := HL.out.chg hc6 (fun x hx e => by
        have := HlT.out x hx
        rcases e with e | e
        · exact this.1 e
        · exact this.2.1 e)
      have HLy := hide (lay_by 1 (by omega) w6 T J vb vm _ false B M hq6.tx hq6.ov hq6.mm a cap m pl HHm.out hl6 hcap (fun _ x hx => ⟨(HlT.out x hx).1, (HlT.out x hx).2.2⟩) t htn)
      have HQ6 := hide hq6
      have HC6 := hide hc6
      have hs6 := hc6.size
      clear hr5 ho5 hg5 hw5 hc5 ht5 g5 s5 ht6 hc6 hm6 hJ6 hq6 hl6 hnB hbwB hbwA hoC hbA hsC hfC HCl
      apply_assumption
      go_wp2_with fail
      refine HLy.out.mono ?_
      rintro e9 w10 ⟨rfl, ⟨r1, r2, B', M', ht, ho, hr, hrr, hv⟩, hc⟩
      have HRr := hide hrr
      have HT := hide ht
      have HO := hide ho
      have HV := hide hv
      have HC := hide hc
      clear ht ho hv hc hrr HLy
      go_wp2_with fail
      go_ret
      have hnY : ∀ k, k < w6.heap.size → X k → ¬ (k = T ∨ vb = .map (some k) ∨ vm = .map (some k)) := fun k _ hk e => by
        rcases e with rfl | e | e
        · exact HH.out.xT hk
        · exact HH.out.xM k (Or.inl e) hk
        · exact HH.out.xM k (Or.inr e) hk
      have hJn : ¬ (J = T ∨ vb = .map (some J) ∨ vm = .map (some J)) := fun e => by
        have hj : w9.heap[J]? = _ := HH.out.jr
        rcases e with e | e | e
        · exact HH.out.jt e
        · obtain ⟨_, es, c, he⟩ := HH.out.ov.b.lt J e
          rw [he] at hj; cases hj
        · obtain ⟨_, es, c, he⟩ := HH.out.ov.m.lt J e
          rw [he] at hj; cases hj
      have hr12 : ∀ r, (r = r1 ∨ r = r2) → ¬ X r := by
        intro r hrr hx
        rcases HRr.out r hrr with h | h
        · exact HH.out.xM r h hx
        · have := HXl.out r hx
          omega
      refine ⟨rfl, ⟨.map (some r1), .map (some r2), _, B', M', ⟨HT.out, HO.out, Or.inr ⟨r1, r2, rfl, rfl, hr⟩, (HC.out.block J HQ6.out.jr.lt hJn).trans HQ6.out.jr, HQ6.out.fl.chg HC.out hnY, HH.out.xT, HH.out.xJ, fun r e => hr12 r (by simpa [eq_comm] using e), HH.out.jt⟩, HV.out, fun r e => (HRr.out r (by simpa [eq_comm] using e)).imp id (fun h => Nat.le_trans hs6 h)⟩, ?_⟩
      refine (HC6.out.mono (fun i _ e => e.imp id Or.inl)).trans (HC.out.mono (fun i _ e => ?_))
      rcases e with e | e
      · exact Or.inl e
      · exact Or.inr (Or.inr e)
end Go.Proofs.Ytkhknfohcebicaa.Oct
namespace Go.Proofs.Ytkhknfohcebicaa.Oct
open Go.RowKit Go.Deep Go.Sort

set_option maxRecDepth 100000 in
theorem outside_yes (w : World) (t n : Int) (ht : t ≤ 9223372036854775807) (h : t < 0 ∨ n < 0 ∨ 4194304 - t < n) : Calls Try.prog 28 #[.int .i64 t, .int .i64 n] w fun e w' => e = .returned (.bool true) ∧ w' = w := by
  by_cases h1 : t < 0
  · go_enter Try.func28, Try.ntmps28
    go_wp2_with fail
    go_ret
    exact ⟨rfl, rfl⟩
  · by_cases h2 : n < 0
    · go_enter Try.func28, Try.ntmps28
      go_wp2_with fail
      go_ret
      exact ⟨rfl, rfl⟩
    · have h3 : 4194304 - t < n := by omega
      have h4 : decide (4194304 - t < n) = true := by simpa using h3
      go_enter Try.func28, Try.ntmps28
      go_wp2_with fail
      go_ret
      exact ⟨rfl, rfl⟩

set_option maxRecDepth 100000 in
theorem get_no (w : World) (T J : Nat) (vb vm va : Value) (d : Bool) (h : Txs w T J vb vm va d) (t n : Int) (ht : t ≤ 9223372036854775807) (ho : t < 0 ∨ n < 0 ∨ 4194304 - t < n) :
    Calls Try.prog 23 #[.pointer (some ⟨T, 0, none⟩), .int .i64 t, .int .i64 n] w fun e w' => e = .returned (.tuple #[.slice none 0 0, .int .i64 4]) ∧ w' = w := by
  have HNo := hide (none_tx w T J vb vm va d h)
  have HOu := hide (outside_yes w t n ht ho)
  clear h ho ht
  go_enter Try.func23, Try.ntmps23
  go_wp2_with fail
  refine HNo.out.mono ?_
  rintro e9 w9 ⟨rfl, h9⟩
  rw [h9]
  clear h9
  go_wp2_with fail
  refine HOu.out.mono ?_
  rintro e9 w9 ⟨rfl, h9⟩
  rw [h9]
  clear h9
  go_wp2_with fail
  go_ret2
  exact ⟨rfl, rfl⟩

set_option maxRecDepth 100000 in
theorem put_no (w : World) (T J : Nat) (vb vm va : Value) (h : Txs w T J vb vm va false) (t : Int) (ht : t ≤ 9223372036854775807) (a : Option Addr) (m cap : Nat) (ho : t < 0 ∨ (m : Int) < 0 ∨ 4194304 - t < m) :
    Calls Try.prog 11 #[.pointer (some ⟨T, 0, none⟩), .int .i64 t, .slice a m cap] w fun e w' => e = .returned (.int .i64 4) ∧ w' = w := by
  have HOp := hide (open_tx w T J vb vm va h)
  have HOu := hide (outside_yes w t m ht ho)
  clear h ho ht
  go_enter Try.func11, Try.ntmps11
  go_wp2_with fail
  refine HOp.out.mono ?_
  rintro e9 w9 ⟨rfl, h9⟩
  rw [h9]
  clear h9
  go_wp2_with fail
  refine HOu.out.mono ?_
  rintro e9 w9 ⟨rfl, h9⟩
  rw [h9]
  clear h9
  go_wp2_with fail
  go_ret
  exact ⟨rfl, rfl⟩

set_option maxRecDepth 100000 in
theorem fresh_no (w : World) (T J : Nat) (vb vm va : Value) (h : Txs w T J vb vm va false) (t : Int) (ht : t ≤ 9223372036854775807) (a : Option Addr) (m cap : Nat) (ho : t < 0 ∨ (m : Int) < 0 ∨ 4194304 - t < m) :
    Calls Try.prog 12 #[.pointer (some ⟨T, 0, none⟩), .int .i64 t, .slice a m cap] w fun e w' => e = .returned (.int .i64 4) ∧ w' = w := by
  have HOp := hide (open_tx w T J vb vm va h)
  have HOu := hide (outside_yes w t m ht ho)
  clear h ho ht
  go_enter Try.func12, Try.ntmps12
  go_wp2_with fail
  refine HOp.out.mono ?_
  rintro e9 w9 ⟨rfl, h9⟩
  rw [h9]
  clear h9
  go_wp2_with fail
  refine HOu.out.mono ?_
  rintro e9 w9 ⟨rfl, h9⟩
  rw [h9]
  clear h9
  go_wp2_with fail
  go_ret
  exact ⟨rfl, rfl⟩

set_option maxRecDepth 100000 in
theorem fresh_odd (w : World) (T J : Nat) (vb vm va : Value) (h : Txs w T J vb vm va false) (t : Nat) (a : Option Addr) (m cap : Nat) (ho : t + m ≤ 4194304) (h5 : ¬ t % 512 = 0) :
    Calls Try.prog 12 #[.pointer (some ⟨T, 0, none⟩), .int .i64 t, .slice a m cap] w fun e w' => e = .returned (.int .i64 4) ∧ w' = w := by
  have HOp := hide (open_tx w T J vb vm va h)
  have HOu := hide (outside_no w t m ho)
  obtain ⟨z, hz⟩ : ∃ z : Nat, z = t % 512 := ⟨_, rfl⟩
  have hd1 : ((t : Nat) : Int).tmod 512 = (z : Int) := by rw [Int.tmod_eq_emod_of_nonneg (by omega)]; omega
  have hd2 : ((t : Nat) : Int) % 512 = (z : Int) := by omega
  have hd3 : ¬ ((z : Int) = 0) := by omega
  have hd4 : ((z : Int) != 0) = true := by simp; omega
  clear h ho h5 hz
  go_enter Try.func12, Try.ntmps12
  go_wp2_with fail
  refine HOp.out.mono ?_
  rintro e9 w9 ⟨rfl, h9⟩
  rw [h9]
  clear h9
  go_wp2_with fail
  refine HOu.out.mono ?_
  rintro e9 w9 ⟨rfl, h9⟩
  rw [h9]
  clear h9
  go_wp2_with fail
  go_ret
  exact ⟨rfl, rfl⟩

set_option maxRecDepth 100000 in
theorem fresh_none (w : World) (T J : Nat) (vb vm va : Value) (h : Txs w T J vb vm va false) (t : Nat) (a : Option Addr) (cap : Nat) (ho : t ≤ 4194304) (h5 : t % 512 = 0) :
    Calls Try.prog 12 #[.pointer (some ⟨T, 0, none⟩), .int .i64 t, .slice a 0 cap] w fun e w' => e = .returned (.int .i64 0) ∧ w' = w := by
  have HOp := hide (open_tx w T J vb vm va h)
  have HOu := hide (outside_no w t 0 (by omega))
  have hd1 : ((t : Nat) : Int).tmod 512 = 0 := by rw [Int.tmod_eq_emod_of_nonneg (by omega)]; omega
  have hd2 : ((t : Nat) : Int) % 512 = 0 := by omega
  clear h ho h5
  go_enter Try.func12, Try.ntmps12
  go_wp2_with fail
  refine HOp.out.mono ?_
  rintro e9 w9 ⟨rfl, h9⟩
  rw [h9]
  clear h9
  go_wp2_with fail
  refine HOu.out.mono ?_
  rintro e9 w9 ⟨rfl, h9⟩
  rw [h9]
  clear h9
  go_wp2_with fail
  go_ret
  exact ⟨rfl, rfl⟩

theorem nilt_none (w : World) : Calls Try.prog 31 #[.pointer none] w fun e w' => e = .returned (.bool true) ∧ w' = w := by
  go_enter Try.func31, Try.ntmps31
  go_wp2_with fail
  go_ret
  exact ⟨rfl, rfl⟩

theorem nilt_open (w : World) : Calls Try.prog 27 #[.pointer none] w fun e w' => e = .returned (.int .i64 2) ∧ w' = w := by
  go_enter Try.func27, Try.ntmps27
  go_wp2_with fail
  refine (nilt_none _).mono ?_
  rintro e9 w1 ⟨rfl, rfl⟩
  go_wp2_with fail
  go_ret
  exact ⟨rfl, rfl⟩

theorem nilt_get (w : World) (a b : Value) : Calls Try.prog 23 #[.pointer none, a, b] w fun e w' => e = .returned (.tuple #[.slice none 0 0, .int .i64 2]) ∧ w' = w := by
  go_enter Try.func23, Try.ntmps23
  go_wp2_with fail
  refine (nilt_none _).mono ?_
  rintro e9 w1 ⟨rfl, rfl⟩
  go_wp2_with fail
  go_ret2
  exact ⟨rfl, rfl⟩

theorem nilt_put (w : World) (a b : Value) : Calls Try.prog 11 #[.pointer none, a, b] w fun e w' => e = .returned (.int .i64 2) ∧ w' = w := by
  go_enter Try.func11, Try.ntmps11
  go_wp2_with fail
  refine (nilt_open _).mono ?_
  rintro e9 w1 ⟨rfl, rfl⟩
  go_wp2_with fail
  go_ret
  exact ⟨rfl, rfl⟩

theorem nilt_fresh (w : World) (a b : Value) : Calls Try.prog 12 #[.pointer none, a, b] w fun e w' => e = .returned (.int .i64 2) ∧ w' = w := by
  go_enter Try.func12, Try.ntmps12
  go_wp2_with fail
  refine (nilt_open _).mono ?_
  rintro e9 w1 ⟨rfl, rfl⟩
  go_wp2_with fail
  go_ret
  exact ⟨rfl, rfl⟩

theorem nilt_commit (w : World) : Calls Try.prog 17 #[.pointer none] w fun e w' => e = .returned (.int .i64 2) ∧ w' = w := by
  go_enter Try.func17, Try.ntmps17
  go_wp2_with fail
  refine (nilt_open _).mono ?_
  rintro e9 w1 ⟨rfl, rfl⟩
  go_wp2_with fail
  go_ret
  exact ⟨rfl, rfl⟩

theorem nilt_size (w : World) : Calls Try.prog 14 #[.pointer none] w fun e w' => e = .returned (.int .i64 0) ∧ w' = w := by
  go_enter Try.func14, Try.ntmps14
  go_wp2_with fail
  refine (nilt_none _).mono ?_
  rintro e9 w1 ⟨rfl, rfl⟩
  go_wp2_with fail
  go_ret
  exact ⟨rfl, rfl⟩

theorem nilt_begin (w : World) : Calls Try.prog 9 #[.pointer none] w fun e w' => e = .returned (.tuple #[.pointer none, .int .i64 2]) ∧ w' = w := by
  go_enter Try.func9, Try.ntmps9
  go_wp2_with fail
  go_ret2
  exact ⟨rfl, rfl⟩
end Go.Proofs.Ytkhknfohcebicaa.Oct
namespace Go.Proofs.Ytkhknfohcebicaa.Oct
open Go.RowKit Go.Deep Go.ChangeShapes Go.WideShapes Go.ChangeAt

/-- An operation, with the place of its bytes. -/
structure GOp where
  kind : Int
  at_ : Int
  n : Int
  a : Option Addr
  cap : Nat
  b : List Int

def GOp.nil : GOp := ⟨0, 0, 0, none, 0, []⟩

def OpAt (w : World) (b off : Nat) (o : GOp) : Prop :=
  w.cell? ⟨b, off, none⟩ = some (.int .i64 o.kind) ∧ w.cell? ⟨b, off + 1, none⟩ = some (.int .i64 o.at_) ∧ w.cell? ⟨b, off + 2, none⟩ = some (.int .i64 o.n) ∧
  w.cell? ⟨b, off + 3, none⟩ = some (.slice o.a o.b.length o.cap) ∧ Sl w o.a o.cap o.b

def GOp.fit (o : GOp) : Prop :=
  (-9223372036854775808 ≤ o.kind ∧ o.kind ≤ 9223372036854775807) ∧ (-9223372036854775808 ≤ o.at_ ∧ o.at_ ≤ 9223372036854775807) ∧ (-9223372036854775808 ≤ o.n ∧ o.n ≤ 9223372036854775807) ∧ Byts o.b

/-- Operations, one behind the other, from the address on. -/
def Opr (w : World) (a : Option Addr) (L : List GOp) : Prop :=
  L = [] ∨ ∃ b off, a = some ⟨b, off, none⟩ ∧ b < w.heap.size ∧ ∀ r, r < L.length → OpAt w b (off + r * 4) (L.getD r GOp.nil)

def Fits (L : List GOp) : Prop := ∀ r, r < L.length → (L.getD r GOp.nil).fit

theorem OpAt.below {w w' : World} {b off : Nat} {o : GOp} (h : OpAt w b off o) (hlt : b < w.heap.size) (hb : Below w.heap.size w w') : OpAt w' b off o :=
  ⟨(hb.cell (p := ⟨b, off, none⟩) hlt).trans h.1, (hb.cell (p := ⟨b, off + 1, none⟩) hlt).trans h.2.1, (hb.cell (p := ⟨b, off + 2, none⟩) hlt).trans h.2.2.1, (hb.cell (p := ⟨b, off + 3, none⟩) hlt).trans h.2.2.2.1, h.2.2.2.2.below hb⟩

theorem Opr.below {w w' : World} {a : Option Addr} {L : List GOp} (h : Opr w a L) (hb : Below w.heap.size w w') : Opr w' a L := by
  rcases h with rfl | ⟨b, off, rfl, hlt, hc⟩
  · exact Or.inl rfl
  · exact Or.inr ⟨b, off, rfl, Nat.lt_of_lt_of_le hlt hb.size, fun r hr => (hc r hr).below hlt hb⟩

theorem cells3 : Try.prog.cellsOf 3 = 1 := by kernel_rfl
theorem cells2 : Try.prog.cellsOf 2 = 1 := by kernel_rfl
theorem cells4 : Try.prog.cellsOf 4 = 1 := by kernel_rfl
theorem cellsB : Try.prog.cellsOf 30 = 1 := by kernel_rfl
theorem cellsO : Try.prog.cellsOf 44 = 4 := by kernel_rfl

theorem spot_of {W : World} {a : Addr} {cs : List Value} (h1 : W.cells? 0 (a.add 0) 4 = some cs) : a.spot = none := by
  obtain ⟨_, hlen, hcell⟩ := World.cells?_some h1
  match cs, hlen with
  | [v0, v1, v2, v3], _ =>
    have q0 := hcell 0 (by omega)
    obtain ⟨b, off, spot⟩ := a
    simpa [Addr.add] using World.cell?_spot q0

set_option maxRecDepth 100000 in
theorem op_of {H : Type} {enc : TypeId × Value → H} {W : World} {n : Nat} {b off : Nat} {i : Nat} {cs : List Value} {x : DataW H × List MemPlace}
    (h1 : W.cells? 0 ((⟨b, off, none⟩ : Addr).add (i * 4)) 4 = some cs) (h2 : DataW.trod enc Try.prog W 0 (fun _ => true) true n 44 cs = some x) :
    ∃ o : GOp, OpAt W b (off + i * 4) o ∧ o.fit := by
  obtain ⟨_, hlen, hcell⟩ := World.cells?_some h1
  obtain ⟨y0, y1, y2, y3, k, _, _, g0, g1, g2, g3⟩ := Go.Joins.trod_struct4 Try.underlying44 h2
  match cs, hlen with
  | [v0, v1, v2, v3], _ =>
    simp only [cells3, cellsB] at g0 g1 g2 g3
    obtain ⟨k0, e0, w0⟩ := open_int_trod Try.underlying3 g0
    obtain ⟨k1, e1, w1⟩ := open_int_trod Try.underlying3 g1
    obtain ⟨k2, e2, w2⟩ := open_int_trod Try.underlying3 g2
    obtain ⟨a3, c3, l3, e3, _, hb3, _, hs3⟩ := open_bytes_trod g3
    have q0 := hcell 0 (by omega)
    have q1 := hcell 1 (by omega)
    have q2 := hcell 2 (by omega)
    have q3 := hcell 3 (by omega)
    subst e0 e1 e2 e3
    rw [add_plain, add_plain] at q0 q1 q2 q3
    exact ⟨⟨k0, k1, k2, a3, c3, l3⟩, ⟨q0, q1, q2, q3, hs3⟩, wf_i64 w0, wf_i64 w1, wf_i64 w2, hb3⟩

set_option maxRecDepth 100000 in
theorem open_ops_trod {H : Type} {enc : TypeId × Value → H} {W : World} {fuel : Nat} {v : Value} {x : DataW H × List MemPlace}
    (hf : DataW.trod enc Try.prog W 0 (fun _ => true) true fuel 22 [v] = some x) :
    ∃ a cap L, v = .slice a L.length cap ∧ L.length ≤ maxLen ∧ Fits L ∧ Opr W a L := by
  rcases open_slice Try.underlying22 hf with ⟨hcs, _⟩ | ⟨a, len, cap, m, n, D, Pl, hcs, _, hl, hm, hmm, _, hx⟩
  · simp at hcs
    subst hcs
    exact ⟨none, 0, [], rfl, by simp, fun r hr => by simp at hr, Or.inl rfl⟩
  · simp at hcs
    subst hcs
    simp only [if_true] at hmm
    rw [cellsO] at hx
    by_cases h0 : len = 0
    · subst h0
      exact ⟨some a, cap, [], rfl, by simp, fun r hr => by simp at hr, Or.inl rfl⟩
    haveI : Inhabited GOp := ⟨GOp.nil⟩
    have hs : a.spot = none := by
      obtain ⟨cs', h1, _⟩ := hx 0 (by omega)
      exact spot_of (by simpa using h1)
    obtain ⟨b, off, spot⟩ := a
    simp only at hs
    subst hs
    obtain ⟨q, hq⟩ := choose_lt (α := GOp) (p := fun i o => OpAt W b (off + i * 4) o ∧ o.fit) (fun i (hi : i < m) => by
      obtain ⟨cs', h1, h2⟩ := hx i hi
      exact op_of h1 h2)
    obtain ⟨L, hL⟩ : ∃ L, L = (List.range len).map q := ⟨_, rfl⟩
    have hlen : L.length = len := by rw [hL]; simp
    have hget : ∀ r, r < len → L.getD r GOp.nil = q r := fun r hr => by rw [hL]; simp [hr]
    refine ⟨some ⟨b, off, none⟩, cap, L, by rw [hlen], by omega, fun r hr => ?_, Or.inr ⟨b, off, rfl, lt_of_cell (hq 0 (by omega)).1.1, fun r hr => ?_⟩⟩
    · rw [hget r (by omega)]; exact (hq r (by omega)).2
    · rw [hget r (by omega)]; exact (hq r (by omega)).1

set_option maxRecDepth 100000 in
theorem open_ops {H : Type} {enc : TypeId × Value → H} {W : World} {base : Nat} {v : Value} {d : DataW H} {ps : List MemPlace}
    (hok : Value.okWide Try.prog W .any base 22 v) (h : DataW.Trod enc Try.prog W 0 (fun _ => true) true 22 v d ps) :
    ∃ a cap L, v = .slice a L.length cap ∧ L.length ≤ maxLen ∧ Fits L ∧ Opr W a L := by
  obtain ⟨a0, len, cap, rfl⟩ := okWide_slice Try.underlying22 hok
  obtain ⟨fuel, hf⟩ := h
  exact open_ops_trod (by simpa [Value.cells] using hf)

set_option maxRecDepth 100000 in
theorem open_bools_trod {H : Type} {enc : TypeId × Value → H} {W : World} {fuel : Nat} {v : Value} {x : DataW H × List MemPlace}
    (hf : DataW.trod enc Try.prog W 0 (fun _ => true) true fuel 23 [v] = some x) :
    ∃ a cap L, v = .slice a (List.length L) cap ∧ L.length ≤ maxLen ∧ LiesB W a L := by
  rcases open_slice1 Try.underlying23 cells4 hf with ⟨hcs, _⟩ | ⟨a, len, cap, m, n, V, D, Pl, hcs, _, hl, hm, hmm, _, hx⟩
  · simp at hcs
    subst hcs
    exact ⟨none, 0, [], rfl, by simp, Or.inl rfl⟩
  · simp at hcs
    subst hcs
    simp only [if_true] at hmm
    by_cases h0 : len = 0
    · subst h0
      exact ⟨some a, cap, [], rfl, by simp, Or.inl rfl⟩
    obtain ⟨b, off, spot⟩ := a
    have hs : spot = none := by simpa [Addr.add] using World.cell?_spot (hx 0 (by omega)).1
    subst hs
    obtain ⟨q, hq⟩ := choose_lt (α := Bool) (p := fun i x => W.cell? ⟨b, off + i, none⟩ = some (.bool x)) (fun i (hi : i < m) => by
      obtain ⟨h1, h2⟩ := hx i hi
      obtain ⟨x, hb, _⟩ := DataW.trod_bool Try.underlying4 h2
      simp at hb
      rw [hb, add_plain] at h1
      exact ⟨x, h1⟩)
    obtain ⟨L, hL⟩ : ∃ L, L = (List.range len).map q := ⟨_, rfl⟩
    have hlen : L.length = len := by rw [hL]; simp
    have hget : ∀ r, r < len → L.getD r false = q r := fun r hr => by rw [hL]; simp [hr]
    refine ⟨some ⟨b, off, none⟩, cap, L, by rw [hlen], by omega, Or.inr ⟨b, off, rfl, lt_of_cell (hq 0 (by omega)), fun r hr => ?_⟩⟩
    rw [hget r (by omega)]
    exact hq r (by omega)

set_option maxRecDepth 100000 in
theorem open_bools {H : Type} {enc : TypeId × Value → H} {W : World} {base : Nat} {v : Value} {d : DataW H} {ps : List MemPlace}
    (hok : Value.okWide Try.prog W .any base 23 v) (h : DataW.Trod enc Try.prog W 0 (fun _ => true) true 23 v d ps) :
    ∃ a cap L, v = .slice a (List.length L) cap ∧ L.length ≤ maxLen ∧ LiesB W a L := by
  obtain ⟨a0, len, cap, rfl⟩ := okWide_slice Try.underlying23 hok
  obtain ⟨fuel, hf⟩ := h
  exact open_bools_trod (by simpa [Value.cells] using hf)

end Go.Proofs.Ytkhknfohcebicaa.Oct
namespace Go.Proofs.Ytkhknfohcebicaa.Oct
open Go.RowKit Go.Deep Go.Sort

theorem mod6 (x : Int) : ∃ n : Nat, n < 6000 ∧ (IntKind.u64.wrap x).tmod 6000 = (n : Int) := by
  have h0 : 0 ≤ IntKind.u64.wrap x := by rw [IntKind.wrap_u64]; omega
  have e : (IntKind.u64.wrap x).tmod 6000 = (IntKind.u64.wrap x) % 6000 := Int.tmod_eq_emod_of_nonneg h0
  rw [e]
  generalize IntKind.u64.wrap x = y at *
  exact ⟨(y % 6000).toNat, by omega, by omega⟩

set_option maxRecDepth 100000 in
set_option maxHeartbeats 2000000 in
theorem place6 (w : World) (k t n : Int) (b : Value) : Calls Try.prog 10 #[.agg #[.int .i64 k, .int .i64 t, .int .i64 n, b]] w fun e w' => ∃ p : Nat, e = .returned (.int .i64 (p : Int)) ∧ 10752 ≤ p ∧ p < 16752 ∧ (k = 2 → p % 512 = 0) ∧ Below w.heap.size w w' := by
  have HX := hide (Blk.new w #[.int .i64 k, .int .i64 t, .int .i64 n, b] 44)
  have HB := hide ((Below.refl w.heap.size w).alloc (Nat.le_refl _) (.cells #[.int .i64 k, .int .i64 t, .int .i64 n, b] 44))
  obtain ⟨m, hm, hx⟩ := mod6 t
  have c0 := HX.out.cell 0 _ rfl
  have c1 := HX.out.cell 1 _ rfl
  obtain ⟨d, hd1, hd2, hd3⟩ : ∃ d : Nat, ((10752 : Int) + (m : Int)).tdiv 512 = (d : Int) ∧ d = (10752 + m) / 512 ∧ ((10752 : Int) + (m : Int)) / 512 = (d : Int) := ⟨(10752 + m) / 512, by rw [Int.tdiv_eq_ediv_of_nonneg (by omega)]; omega, rfl, by omega⟩
  have hd4 : d ≤ 32 ∧ 21 ≤ d := by omega
  have HD := hide hd2
  clear hd2
  by_cases hk : k = 2
  · subst hk
    go_enter Try.func10, Try.ntmps10
    go_wp2_with fail
    go_ret
    exact ⟨d * 512, by congr 2 <;> omega, by omega, by omega, fun _ => by omega, HB.out⟩
  · go_enter Try.func10, Try.ntmps10
    go_wp2_with fail
    go_ret
    exact ⟨10752 + m, by congr 2 <;> omega, by omega, by omega, fun e => absurd e hk, HB.out⟩

set_option maxRecDepth 100000 in
set_option maxHeartbeats 2000000 in
theorem light6 (w : World) (a : Option Addr) (cap : Nat) (R : List GOp) (h : Opr w a R) (hR : R.length ≤ maxLen) : Calls Try.prog 5 #[.slice a R.length cap] w fun e w' => Below w.heap.size w w' ∧ (e = .returned (.bool false) ∨ (e = .returned (.bool true) ∧ R.length ≤ 25 ∧ ∀ j, j < R.length → (R.getD j GOp.nil).b.length ≤ 1500)) := by
  have HO := hide h
  have HB0 := hide (Below.refl w.heap.size w)
  unfold maxLen at hR
  clear h
  by_cases hbig : 25 < R.length
  · go_enter Try.func5, Try.ntmps5
    go_wp2_with fail
    go_ret
    exact ⟨HB0.out, Or.inl rfl⟩
  go_enter Try.func5, Try.ntmps5
  go_wp2_with fail
  go_loopw [3] (fun i wr => ∃ k : Nat, k ≤ R.length ∧ i = .int .i64 (k : Int) ∧ (∀ j, j < k → (R.getD j GOp.nil).b.length ≤ 1500) ∧ Below w.heap.size w wr) (fun i _ => R.length - (intOf i).toNat)
  case atStart => exact ⟨0, by omega, rfl, fun j hj => by omega, HB0.out⟩
  case round =>
    obtain ⟨k, hk, rfl, hall, hb⟩ := hrel
    have HA := hide hall
    have HB := hide hb
    clear hall
    by_cases hlt : k < R.length
    · rcases HO.out with h0 | ⟨b, off, rfl, hblt, hc⟩
      · rw [h0] at hlt; simp at hlt
      have q := (hb.cell (p := ⟨b, off + k * 4 + 3, none⟩) hblt).trans (hc k hlt).2.2.2.1
      have hq := (hc k hlt).2.2.2.2.le
      have hq2 := (hc k hlt).2.2.2.2.max
      unfold maxLen at hq2
      have HSt : Hid ((R.getD k GOp.nil).b.length ≤ 1500 → ∀ j, j < k + 1 → (R.getD j GOp.nil).b.length ≤ 1500) := hide (fun h j hj => by
        by_cases e : j = k
        · subst e; exact h
        · exact HA.out j (by omega))
      generalize R.getD k GOp.nil = o at *
      clear hc hb
      by_cases hl : 1500 < o.b.length
      · go_wp2_with fail
        go_ret
        exact ⟨HB.out, Or.inl rfl⟩
      · go_wp2_with fail
        exact ⟨⟨k + 1, by omega, by go_num, HSt.out (by omega), HB.out⟩, by simp [intOf]; omega⟩
    · obtain rfl : k = R.length := by omega
      clear hb
      go_wp2_with fail
      go_ret
      exact ⟨HB.out, Or.inr ⟨rfl, by omega, HA.out⟩⟩

set_option maxRecDepth 100000 in
set_option maxHeartbeats 2000000 in
theorem Part6 (a : Option Addr) (cap : Nat) (l : List Int) (w : World) (hlen : l.length ≤ 1000000) (hs : Sl w a cap l) (hn : 0 < l.length) :
    Calls Try.prog 22 #[.slice a l.length cap, .int .i64 0, .int .i64 (l.length : Int)] w fun e w' => ∃ v, e = .returned v ∧ Own w' w.heap.size v l ∧ Below w.heap.size w w' := by
  rcases hs.lies with h0 | ⟨b, off, rfl, hb, hc⟩
  · rw [h0] at hn; simp at hn
  have hcap := hs.le
  have hmax := hs.max
  have HL := hide (Lies.mk hc)
  have hcc : ¬ cap = 0 := by omega
  unfold maxLen at hmax
  clear hs hc
  go_enter Try.func22, Try.ntmps22
  go_wp2_with (at_builtin; refine wpList_append_bytes rfl _ _ 30 rfl Try.underlying30 info5 w.heap.size _ [] rfl (by exact Own.nil _ _) _ _ _ l rfl rfl (by exact HL.out) (by simp; omega) (by exact Nat.le_refl _) ?_; intro v4 w4 ho4 hg4)
  go_ret
  exact ⟨_, rfl, by simpa using ho4, Own.behind (Own.nil _ _) (Below.refl _ _) hg4 (Nat.le_refl _)⟩

set_option maxRecDepth 100000 in
set_option maxHeartbeats 4000000 in
theorem longer6 (a : Option Addr) (cap : Nat) (l : List Int) (n : Nat) (w : World) (hlen : l.length ≤ 100000) (hn : n ≤ 100000) (hs : Sl w a cap l) (h0 : 0 < l.length) :
    Calls Try.prog 6 #[.slice a l.length cap, .int .i64 n] w fun e w' => ∃ a' c' l', e = .returned (.slice a' (List.length l') c') ∧ Sl w' a' c' l' ∧ l'.length = max l.length n ∧ (∀ i, l'.getD i 0 = l.getD i 0) ∧ Below w.heap.size w w' := by
  have HS := hide hs
  have HB0 := hide (Below.refl w.heap.size w)
  have hcap := hs.le
  have hmax := hs.max
  unfold maxLen at hmax
  by_cases hle : n ≤ l.length
  · clear hs
    have hle2 : (n : Int) ≤ (l.length : Int) := by omega
    go_enter Try.func6, Try.ntmps6
    go_wp2_with fail
    go_ret
    exact ⟨a, cap, l, rfl, HS.out, by omega, fun _ => rfl, HB0.out⟩
  · have HPa := hide (Part6 a cap l w (by omega) hs h0)
    obtain ⟨k, hk⟩ : ∃ k : Nat, n = l.length + k := ⟨n - l.length, by omega⟩
    subst hk
    have e1 : ((l.length + k : Nat) : Int) - (l.length : Int) = (k : Int) := by omega
    have e2 : (l.length : Int) + (k : Int) - (l.length : Int) = (k : Int) := by omega
    have hle2 : ¬ (((l.length + k : Nat) : Int) ≤ (l.length : Int)) := by omega
    have hle3 : ¬ ((l.length : Int) + (k : Int) ≤ (l.length : Int)) := by omega
    have HK := hide (show 0 < k by omega)
    clear hs
    go_enter Try.func6, Try.ntmps6
    go_wp2_with fail
    refine HPa.out.mono ?_
    rintro e9 w1 ⟨v1, rfl, ho1, hb1⟩
    have HO1 := hide ho1
    have HB1 := hide hb1
    have HZ := hide (Zeros_any k w1 (by omega))
    clear ho1 hb1 HPa
    go_wp2_with fail
    try rw [e2]
    refine HZ.out.mono ?_
    rintro e9 w2 ⟨v2, rfl, ho2, hb2⟩
    obtain ⟨a2, c2, rfl, hl2, _⟩ := ho2.form
    have HL2 := hide hl2
    have HO2 := hide (HO1.out.below hb2)
    have HB2 := hide (HB1.out.trans (hb2.mono HB1.out.size))
    clear ho2 hb2 hl2 HZ
    go_wp2_with (at_builtin; refine wpList_append_bytes rfl _ _ 30 rfl Try.underlying30 info5 w.heap.size _ l rfl (by exact HO2.out) _ _ _ (List.replicate k 0) rfl (by first | rfl | simp) (by exact HL2.out) (by rw [List.length_replicate]; omega) (by exact HB2.out.size) ?_; intro v4 w4 ho4 hg4; have HO4 := hide ho4; have HB4 := hide (Own.behind HO2.out HB2.out hg4 HB2.out.size); clear ho4 hg4)
    go_ret
    obtain ⟨a4, c4, rfl, hs4, _⟩ := HO4.out.sl
    refine ⟨a4, c4, _, rfl, hs4, by rw [List.length_append, List.length_replicate]; omega, fun i => ?_, HB4.out⟩
    rw [List.getD_eq_getElem?_getD, List.getD_eq_getElem?_getD, List.getElem?_append]
    split
    · rfl
    · rename_i hi
      rw [List.getElem?_replicate, List.getElem?_eq_none (by omega)]
      split <;> rfl
end Go.Proofs.Ytkhknfohcebicaa.Oct
namespace Go.Proofs.Ytkhknfohcebicaa.Oct
open Go.RowKit Go.Deep Go.Sort

/-- What is written ahead, as operations. -/
def ahdO (D : List RD) : List AO := if D = [] then [] else recO D ++ [.fl]

theorem ahd_state (S : List Int) (D : List RD) : doAll (ahdO D) ⟨S, S, []⟩ = ⟨putS S D, putS S D, []⟩ := by
  unfold ahdO
  split
  · next h => subst h; rfl
  · obtain ⟨E, h1, h2⟩ := doRecs D ⟨S, S, []⟩
    rw [doAll_append, h1]
    simp [doAll, AO.on, h2]

/-- The bytes behind a commit's own operations. -/
def txS (S : List Int) (p : Nat) (nu : Int) (D : List RD) : List Int := if D = [] then S else appS (comS S p nu D) p D

theorem tx_state (S : List Int) (p : Nat) (nu : Int) (D : List RD) : doAll (txO p nu D) ⟨S, S, []⟩ = ⟨txS S p nu D, txS S p nu D, []⟩ := by
  unfold txO txS
  split
  · rfl
  · rw [doAll_append, com_state, app_state]

/-- Records that all say the same of each byte. -/
theorem putS_by (g : Nat → Int) : ∀ (D : List RD), (∀ r ∈ D, ∀ j, j < r.2.length → r.2.getD j 0 = g (r.1.toNat + j)) → ∀ (S : List Int) (i : Nat), cov D i → (putS S D).getD i 0 = g i
  | [], _, S, i, ⟨r, hr, _⟩ => by cases hr
  | r :: D, h, S, i, hc => by
    rw [putS]
    by_cases h2 : cov D i
    · exact putS_by g D (fun x hx => h x (List.mem_cons_of_mem _ hx)) _ i h2
    · rw [putS_out D _ i h2]
      obtain ⟨x, hx, h1⟩ := hc
      rcases List.mem_cons.1 hx with rfl | hx
      · rw [wr_get, if_pos h1, h x (List.mem_cons_self ..) _ (by omega)]
        congr 1
        omega
      · exact absurd ⟨x, hx, h1⟩ h2

def covE (O : List (Int × Int)) (i : Int) : Prop := ∃ r ∈ O, r.1 ≤ i ∧ i < r.2

theorem lastO (O : List (Int × Int)) (h : O ≠ []) : ∃ O' x, O = O' ++ [x] := by
  rcases List.eq_nil_or_concat O with h0 | ⟨O', x, h1⟩
  · exact absurd h0 h
  · exact ⟨O', x, by simpa using h1⟩

theorem runS_nil (s : Int) : runS [] s = [(s * 512, s * 512 + 512)] := by simp [runS]

theorem runS_yes (O : List (Int × Int)) (a s : Int) : runS (O ++ [(a, s * 512)]) s = O ++ [(a, s * 512 + 512)] := by
  unfold runS
  rw [if_pos ⟨by simp, by simp⟩]
  simp

theorem runS_no (O : List (Int × Int)) (a b s : Int) (h : b ≠ s * 512) : runS (O ++ [(a, b)]) s = O ++ [(a, b)] ++ [(s * 512, s * 512 + 512)] := by
  unfold runS
  rw [if_neg (fun e => h (by simpa using e.2))]

/-- The three ways a sector goes behind the runs. -/
theorem runS_ways (O : List (Int × Int)) (s : Int) : (O = [] ∧ runS O s = [(s * 512, s * 512 + 512)]) ∨ (∃ O' a, O = O' ++ [(a, s * 512)] ∧ runS O s = O' ++ [(a, s * 512 + 512)]) ∨ (∃ O' a b, O = O' ++ [(a, b)] ∧ b ≠ s * 512 ∧ runS O s = O' ++ [(a, b)] ++ [(s * 512, s * 512 + 512)]) := by
  by_cases h : O = []
  · subst h
    exact Or.inl ⟨rfl, runS_nil s⟩
  · obtain ⟨O', ⟨a, b⟩, rfl⟩ := lastO O h
    by_cases hb : b = s * 512
    · subst hb
      exact Or.inr (Or.inl ⟨O', a, rfl, runS_yes O' a s⟩)
    · exact Or.inr (Or.inr ⟨O', a, b, rfl, hb, runS_no O' a b s hb⟩)

theorem runS_cov (O : List (Int × Int)) (s i : Int) (hO : ∀ r ∈ O, r.1 ≤ r.2) : covE (runS O s) i ↔ covE O i ∨ (s * 512 ≤ i ∧ i < s * 512 + 512) := by
  rcases runS_ways O s with ⟨rfl, e⟩ | ⟨O', a, rfl, e⟩ | ⟨O', a, b, rfl, hb, e⟩
  · rw [e]
    unfold covE
    simp
  · have := hO (a, s * 512) (by simp)
    rw [e]
    unfold covE
    simp only [List.mem_append, List.mem_singleton, or_and_right, exists_or, exists_eq_left]
    simp only at this
    constructor
    · rintro (h | h)
      · exact Or.inl (Or.inl h)
      · by_cases h9 : i < s * 512
        · exact Or.inl (Or.inr ⟨h.1, h9⟩)
        · exact Or.inr ⟨by omega, h.2⟩
    · rintro ((h | h) | h)
      · exact Or.inl h
      · exact Or.inr ⟨h.1, by omega⟩
      · exact Or.inr ⟨by omega, h.2⟩
  · rw [e]
    unfold covE
    simp only [List.mem_append, List.mem_singleton, or_and_right, exists_or, exists_eq_left]

theorem runS_ok (O : List (Int × Int)) (s : Int) (hO : ∀ r ∈ O, r.1 ≤ r.2) : ∀ r ∈ runS O s, r.1 ≤ r.2 := by
  rcases runS_ways O s with ⟨rfl, e⟩ | ⟨O', a, rfl, e⟩ | ⟨O', a, b, rfl, hb, e⟩
  · rw [e]
    intro r hr
    simp only [List.mem_singleton] at hr
    subst hr
    simp only
    omega
  · rw [e]
    intro r hr
    rcases List.mem_append.1 hr with h | h
    · exact hO r (List.mem_append_left _ h)
    · simp only [List.mem_singleton] at h
      subst h
      have := hO (a, s * 512) (by simp)
      simp only at this ⊢
      omega
  · rw [e]
    intro r hr
    rcases List.mem_append.1 hr with h | h
    · exact hO r h
    · simp only [List.mem_singleton] at h
      subst h
      simp only
      omega

theorem runs_cov : ∀ (K : List Int) (O : List (Int × Int)), (∀ r ∈ O, r.1 ≤ r.2) → ∀ i, covE (K.foldl runS O) i ↔ covE O i ∨ ∃ s ∈ K, s * 512 ≤ i ∧ i < s * 512 + 512
  | [], O, _, i => by simp
  | s :: K, O, hO, i => by
    rw [List.foldl_cons, runs_cov K (runS O s) (runS_ok O s hO) i, runS_cov O s i hO]
    simp only [List.mem_cons, or_and_right, exists_or, exists_eq_left]
    constructor
    · rintro ((h | h) | h)
      · exact Or.inl h
      · exact Or.inr (Or.inl h)
      · exact Or.inr (Or.inr h)
    · rintro (h | h | h)
      · exact Or.inl (Or.inl h)
      · exact Or.inl (Or.inr h)
      · exact Or.inr h

theorem runsM_cov (M : Int → List Int) (i : Nat) : covE (runsM M) i ↔ i < 4194304 ∧ 2 ∈ M ((i / 512 : Nat) : Int) := by
  unfold runsM runsL
  rw [runs_cov _ _ (fun r hr => by cases hr)]
  constructor
  · rintro (⟨r, hr, _⟩ | ⟨s, hs, h1, h2⟩)
    · cases hr
    · obtain ⟨h3, h4⟩ := (secsM_mem M s).1 hs
      have e : s = ((i / 512 : Nat) : Int) := by omega
      rw [← e]
      exact ⟨by omega, h4⟩
  · rintro ⟨h1, h2⟩
    exact Or.inr ⟨_, (secsM_mem M _).2 ⟨by omega, h2⟩, by omega, by omega⟩

theorem recs_cov (S : List Int) (B M : Int → List Int) (i : Nat) : cov (recsM S B M) i ↔ i < 4194304 ∧ 2 ∈ M ((i / 512 : Nat) : Int) := by
  rw [← runsM_cov]
  unfold cov recsM covE
  have hbd := runsM_bd M
  constructor
  · rintro ⟨r, hr, h1, h2⟩
    obtain ⟨x, hx, rfl⟩ := List.mem_map.1 hr
    have hb := hbd x hx
    rw [recD_len] at h2
    have e : (recD S B M x).1 = x.1 := rfl
    rw [e] at h1 h2
    exact ⟨x, hx, by omega, by omega⟩
  · rintro ⟨x, hx, h1, h2⟩
    have hb := hbd x hx
    refine ⟨recD S B M x, List.mem_map_of_mem hx, ?_, ?_⟩
    · have e : (recD S B M x).1 = x.1 := rfl
      rw [e]
      omega
    · rw [recD_len]
      have e : (recD S B M x).1 = x.1 := rfl
      rw [e]
      omega

theorem recs_by (S : List Int) (B M : Int → List Int) : ∀ r ∈ recsM S B M, ∀ j, j < r.2.length → r.2.getD j 0 = seeT S B M (r.1.toNat + j) := by
  intro r hr j hj
  obtain ⟨x, hx, rfl⟩ := List.mem_map.1 hr
  rw [recD_len] at hj
  show ((List.range (x.2 - x.1).toNat).map (fun i => seeT S B M (x.1.toNat + i))).getD j 0 = _
  rw [List.getD_eq_getElem?_getD, List.getElem?_map, List.getElem?_range hj]
  rfl

/-- What was written ahead is what the changes show, where no byte of a sector was put. -/
def AhdOk (S : List Int) (D : List RD) (B M : Int → List Int) : Prop := ∀ i : Nat, ¬ 2 ∈ M ((i / 512 : Nat) : Int) → (putS S D).getD i 0 = seeT S B M i

theorem putS_snoc (D : List RD) (r : RD) : ∀ S, putS S (D ++ [r]) = laidsD (putS S D) (cuts r.1.toNat r.2) := by
  induction D with
  | nil => intro S; rfl
  | cons x D ih =>
    intro S
    rw [List.cons_append, putS, ih, putS]

/-- Behind a commit all bytes are what the changes showed. -/
theorem txS_get (S : List Int) (D : List RD) (B M : Int → List Int) (p q : Nat) (nu : Int) (hah : AhdOk S D B M) (hroom : p + 512 + lenD (recsM S B M) ≤ q) (i : Nat) (hi : q ≤ i) (hi2 : i < 4194304) : (txS (putS S D) p nu (recsM S B M)).getD i 0 = seeT S B M i := by
  unfold txS
  by_cases hc : cov (recsM S B M) i
  · rw [if_neg (fun e => by rw [e] at hc; obtain ⟨r, hr, _⟩ := hc; cases hr), appS_get, if_neg (by omega)]
    exact putS_by _ _ (recs_by S B M) _ i hc
  · have h2 : ¬ 2 ∈ M ((i / 512 : Nat) : Int) := fun e => hc ((recs_cov S B M i).2 ⟨hi2, e⟩)
    split
    · exact hah i h2
    · rw [appS_get, if_neg (by omega), putS_out _ _ i hc, comS_get, if_neg (by omega), if_neg (by omega)]
      exact hah i h2

/-- No mark above 2. -/
def Mk2 (M : Int → List Int) : Prop := ∀ q, mkT M q ≤ 2

theorem Mk2.laid {B M B' M' : Int → List Int} {t m : Nat} {pl : List Int} {by_ : Int} (h : Mk2 M) (hb : by_ ≤ 2) (hl : Laid B M B' M' t m pl by_) : Mk2 M' := fun q => by
  rw [hl.2.1 q]
  have := h q
  split <;> omega

theorem mem_mk {M : Int → List Int} (hl : ∀ s, (M s).length = 512) (n : Nat) : 2 ∈ M (n : Int) ↔ ∃ q, q / 512 = n ∧ mkT M q = 2 := by
  rw [mem2 (hl _)]
  constructor
  · rintro ⟨j, hj, h⟩
    exact ⟨512 * n + j, by omega, h⟩
  · rintro ⟨q, hq, h⟩
    exact ⟨q % 512, by omega, by rw [show 512 * n + q % 512 = q by omega]; exact h⟩

theorem laid_two {B M B' M' : Int → List Int} {t m : Nat} {pl : List Int} (hl : ∀ s, (M s).length = 512) (hl' : ∀ s, (M' s).length = 512) (h2 : Mk2 M) (h : Laid B M B' M' t m pl 2) (n : Nat) : 2 ∈ M' (n : Int) ↔ 2 ∈ M (n : Int) ∨ ∃ q, t ≤ q ∧ q < t + m ∧ q / 512 = n := by
  rw [mem_mk hl', mem_mk hl]
  constructor
  · rintro ⟨q, hq, e⟩
    rw [h.2.1 q] at e
    by_cases hc : t ≤ q ∧ q < t + m
    · exact Or.inr ⟨q, hc.1, hc.2, hq⟩
    · rw [if_neg hc] at e
      exact Or.inl ⟨q, hq, e⟩
  · rintro (⟨q, hq, e⟩ | ⟨q, h3, h4, hq⟩)
    · refine ⟨q, hq, ?_⟩
      rw [h.2.1 q, e]
      split <;> simp
    · refine ⟨q, hq, ?_⟩
      rw [h.2.1 q, if_pos ⟨h3, h4⟩]
      have := h2 q
      omega

theorem laid_one {B M B' M' : Int → List Int} {t m : Nat} {pl : List Int} (hl : ∀ s, (M s).length = 512) (hl' : ∀ s, (M' s).length = 512) (h : Laid B M B' M' t m pl 1) (n : Nat) : 2 ∈ M' (n : Int) ↔ 2 ∈ M (n : Int) := by
  rw [mem_mk hl', mem_mk hl]
  have e : ∀ q, mkT M' q = 2 ↔ mkT M q = 2 := fun q => by
    rw [h.2.1 q]
    split <;> omega
  simp only [e]

theorem see_laid {S : List Int} {B M B' M' : Int → List Int} {t m : Nat} {pl : List Int} {by_ : Int} (h : Laid B M B' M' t m pl by_) (i : Nat) : seeT S B' M' i = if t ≤ i ∧ i < t + m then pl.getD (i - t) 0 else seeT S B M i := h.1 i _

theorem AhdOk.put {S : List Int} {D : List RD} {B M B' M' : Int → List Int} {t m : Nat} {pl : List Int} (hl : ∀ s, (M s).length = 512) (hl' : ∀ s, (M' s).length = 512) (h2 : Mk2 M) (h : AhdOk S D B M) (hla : Laid B M B' M' t m pl 2) : AhdOk S D B' M' := fun i hi => by
  have hn : ¬ (2 ∈ M ((i / 512 : Nat) : Int) ∨ ∃ q, t ≤ q ∧ q < t + m ∧ q / 512 = i / 512) := fun e => hi ((laid_two hl hl' h2 hla _).2 e)
  rw [see_laid hla, if_neg (fun e => hn (Or.inr ⟨i, e.1, e.2, rfl⟩))]
  exact h i (fun e => hn (Or.inl e))

theorem AhdOk.fresh {S : List Int} {D : List RD} {B M B' M' : Int → List Int} {t : Nat} {pl : List Int} (hl : ∀ s, (M s).length = 512) (hl' : ∀ s, (M' s).length = 512) (h : AhdOk S D B M) (hla : Laid B M B' M' t pl.length pl 1) : AhdOk S (D ++ [((t : Int), pl)]) B' M' := fun i hi => by
  rw [putS_snoc, wr_get, see_laid hla]
  simp only [Int.toNat_natCast]
  by_cases hc : t ≤ i ∧ i < t + pl.length
  · rw [if_pos hc, if_pos hc]
  · rw [if_neg hc, if_neg hc]
    exact h i (fun e => hi ((laid_one hl hl' hla _).2 e))

theorem AhdOk.skip {S : List Int} {D : List RD} {B M B' M' : Int → List Int} {t : Nat} {by_ : Int} (hl : ∀ s, (M s).length = 512) (hl' : ∀ s, (M' s).length = 512) (h : AhdOk S D B M) (hla : Laid B M B' M' t 0 [] by_) : AhdOk S D B' M' := fun i hi => by
  rw [see_laid hla, if_neg (by omega)]
  refine h i (fun e => hi ?_)
  rw [mem_mk hl'] 
  rw [mem_mk hl] at e
  obtain ⟨q, hq, e⟩ := e
  exact ⟨q, hq, by rw [hla.2.1 q, if_neg (by omega)]; exact e⟩

/-- How many bytes sectors take in the journal. -/
def needN (P : Int → Bool) : Nat → Int
  | 0 => 0
  | n + 1 => needN P n + (if P n then 512 else 0) + (if P n && !P ((n : Int) - 1) then 12 else 0)

def secsN (M : Int → List Int) (n : Nat) : List Int := ((List.range n).map (fun n : Nat => (n : Int))).filter (fun s => decide (2 ∈ M s))

theorem secsN_mem (M : Int → List Int) (n : Nat) (s : Int) : s ∈ secsN M n ↔ (0 ≤ s ∧ s < n) ∧ 2 ∈ M s := by
  unfold secsN
  simp only [List.mem_filter, List.mem_map, List.mem_range, decide_eq_true_eq]
  constructor
  · rintro ⟨⟨k, hk, rfl⟩, h⟩
    exact ⟨by omega, h⟩
  · rintro ⟨h1, h2⟩
    exact ⟨⟨s.toNat, by omega, by omega⟩, h2⟩

theorem secsN_succ (M : Int → List Int) (n : Nat) : secsN M (n + 1) = secsN M n ++ (if 2 ∈ M (n : Int) then [(n : Int)] else []) := by
  unfold secsN
  rw [List.range_succ, List.map_append, List.filter_append]
  congr 1
  simp only [List.map_cons, List.map_nil, List.filter_cons, List.filter_nil, decide_eq_true_eq]

theorem sizeR_yes (O : List (Int × Int)) (s : Int) (h : ∃ O' a, O = O' ++ [(a, s * 512)]) : sizeR (runS O s) = sizeR O + 512 := by
  obtain ⟨O', a, rfl⟩ := h
  rw [runS_yes, sizeR_snoc, sizeR_snoc]
  simp only
  omega

theorem sizeR_no (O : List (Int × Int)) (s : Int) (h : ¬ ∃ O' a, O = O' ++ [(a, s * 512)]) : sizeR (runS O s) = sizeR O + 512 + 12 := by
  rcases runS_ways O s with ⟨rfl, e⟩ | ⟨O', a, rfl, e⟩ | ⟨O', a, b, rfl, hb, e⟩
  · rw [e]
    simp only [sizeR, List.map_cons, List.map_nil, List.sum_cons, List.sum_nil]
    omega
  · exact absurd ⟨O', a, rfl⟩ h
  · rw [e, sizeR_snoc]
    simp only
    omega

/-- Where the last run ends. -/
theorem runsL_last (K : List Int) (k : Int) : ∃ O' a, runsL (K ++ [k]) = O' ++ [(a, k * 512 + 512)] := by
  rw [runsL_snoc]
  rcases runS_ways (runsL K) k with ⟨_, e⟩ | ⟨O', a, _, e⟩ | ⟨O', a, b, _, hb, e⟩
  · exact ⟨[], _, e⟩
  · exact ⟨O', a, e⟩
  · exact ⟨_, _, e⟩

theorem runs_size (M : Int → List Int) (hM : ∀ s : Int, s < 0 → ¬ 2 ∈ M s) : ∀ n : Nat, sizeR (runsL (secsN M n)) = needN (fun s => decide (2 ∈ M s)) n ∧ ((∃ O' a, runsL (secsN M n) = O' ++ [(a, (n : Int) * 512)]) ↔ 2 ∈ M ((n : Int) - 1)) ∧ (∀ O' a b, runsL (secsN M n) = O' ++ [(a, b)] → b ≤ (n : Int) * 512)
  | 0 => by
    refine ⟨rfl, ⟨?_, ?_⟩, ?_⟩
    · rintro ⟨O', a, h⟩
      have := congrArg List.length h
      simp [secsN, runsL] at this
    · intro h
      exact absurd h (hM _ (by omega))
    · intro O' a b h
      have := congrArg List.length h
      simp [secsN, runsL] at this
  | n + 1 => by
    obtain ⟨h1, h2, h3⟩ := runs_size M hM n
    rw [secsN_succ]
    by_cases hn : 2 ∈ M (n : Int)
    · rw [if_pos hn]
      obtain ⟨O', a, hl⟩ := runsL_last (secsN M n) n
      refine ⟨?_, ⟨fun _ => ?_, fun _ => ?_⟩, ?_⟩
      · rw [runsL_snoc]
        conv => rhs; unfold needN
        by_cases hm : 2 ∈ M ((n : Int) - 1)
        · rw [sizeR_yes _ _ (h2.2 hm), h1, if_pos (by simpa using hn), if_neg (by simp [hm])]
          omega
        · rw [sizeR_no _ _ (fun e => hm (h2.1 e)), h1, if_pos (by simpa using hn), if_pos (by simp [hn, hm])]
      · rw [show ((n + 1 : Nat) : Int) - 1 = n by omega]
        exact hn
      · exact ⟨O', a, by rw [hl, show ((n + 1 : Nat) : Int) * 512 = (n : Int) * 512 + 512 by omega]⟩
      · intro O2 a2 b2 h
        rw [hl] at h
        have h4 := List.append_inj_right' h rfl
        simp only [List.cons.injEq, Prod.mk.injEq, and_true] at h4
        omega
    · rw [if_neg hn, List.append_nil]
      refine ⟨?_, ⟨fun ⟨O', a, h⟩ => ?_, fun h => ?_⟩, fun O' a b h => ?_⟩
      · rw [h1]
        conv => rhs; unfold needN
        simp [hn]
      · have := h3 O' a _ h
        omega
      · rw [show ((n + 1 : Nat) : Int) - 1 = n by omega] at h
        exact absurd h hn
      · have := h3 O' a b h
        omega

theorem secsN_rise (M : Int → List Int) (n : Nat) : (secsN M n).Pairwise (· < ·) := by
  induction n with
  | zero => simp [secsN]
  | succ n ih =>
    rw [secsN_succ, List.pairwise_append]
    refine ⟨ih, ?_, ?_⟩
    · split <;> simp
    · intro a ha b hb
      have h1 := ((secsN_mem M n a).1 ha).1
      split at hb
      · simp only [List.mem_singleton] at hb
        omega
      · cases hb

theorem size_need (M : Int → List Int) (n : Nat) (hn : n ≤ 8192) (hM : ∀ s : Int, ¬ (0 ≤ s ∧ s < n) → ¬ 2 ∈ M s) (P : Int → Bool) (hP : ∀ s : Int, P s = true ↔ 2 ∈ M s) : sizeR (runsM M) = needN P n := by
  have e : secsM M = secsN M n := rise_eq _ _ (secsM_rise M) (secsN_rise M n) (fun x => by
    rw [secsM_mem, secsN_mem]
    constructor
    · rintro ⟨_, h⟩
      exact ⟨Classical.byContradiction (fun h9 => hM x h9 h), h⟩
    · rintro ⟨h1, h⟩
      exact ⟨by omega, h⟩)
  unfold runsM
  have e2 : P = (fun s => decide (2 ∈ M s)) := by
    funext s
    rw [Bool.eq_iff_iff, decide_eq_true_iff]
    exact hP s
  rw [e, (runs_size M (fun s hs => hM s (by omega)) n).1, e2]
end Go.Proofs.Ytkhknfohcebicaa.Oct
namespace Go.Proofs.Ytkhknfohcebicaa.Oct
open Go.RowKit Go.Deep Go.Sort

theorem Sl.chgQ {X : Nat → Prop} {w w' : World} {a : Option Addr} {c : Nat} {l : List Int} (h : Sl w a c l) (hg : Chg X w w') (hne : ∀ x, a = some x → ¬ X x.block) : Sl w' a c l := ⟨h.le, h.max, h.none, h.lies.chg hg hne⟩

set_option maxRecDepth 100000 in
set_option maxHeartbeats 8000000 in
theorem fresh_k (w : World) (T J F : Nat) (X : Nat → Prop) (f : Fs) (A : A3) (k n : Nat) (vb vm va : Value) (B M : Int → List Int) (p q : Nat) (nu : Int) (h : Txq w T J F X f A k n vb vm va B M p q nu) (Ba nL : Nat) (xs : List Value) (hva : w.ownsRow Ba 75 2 va nL xs) (hBa : Ba ≤ w.heap.size) (hLl : nL ≤ 1000) (hsep : ∀ g, va.ownBlock = some g → g ≠ T ∧ g ≠ J ∧ ¬ X g ∧ ∀ r, vb = .map (some r) ∨ vm = .map (some r) → g ≠ r)
    (a : Option Addr) (cap m : Nat) (pl : List Int) (hm : m = pl.length) (hm0 : 0 < m) (hl : Lies w a pl) (hcap : m ≤ cap ∧ cap ≤ 9223372036854775807)
    (hlT : ∀ x, a = some x → x.block ≠ T ∧ some x.block ≠ va.ownBlock ∧ ∀ r, vb = .map (some r) ∨ vm = .map (some r) → x.block ≠ r) (t : Nat) (htn : t + m ≤ 4194304) (h512 : t % 512 = 0) :
    Calls Try.prog 12 #[.pointer (some ⟨T, 0, none⟩), .int .i64 t, .slice a m cap] w fun e w' => e = .returned (.int .i64 0) ∧ (∃ vb' vm' va' B' M', Txq w' T J F X f A k n vb' vm' va' B' M' p q nu ∧ Laid B M B' M' t m pl 1 ∧ (∀ r, vb' = .map (some r) ∨ vm' = .map (some r) → (vb = .map (some r) ∨ vm = .map (some r)) ∨ w.heap.size ≤ r) ∧ (∃ aC cC g, w'.ownsRow Ba 75 2 va' (nL + 1) (xs ++ [.int .i64 (t : Int), .slice aC m cC]) ∧ Sl w' aC cC pl ∧ aC = some ⟨g, 0, none⟩ ∧ w.heap.size ≤ g ∧ g < w'.heap.size ∧ va'.ownBlock ≠ some g ∧ ∀ r, vb' = .map (some r) ∨ vm' = .map (some r) → g ≠ r) ∧ (∀ g, va'.ownBlock = some g → (g ≠ T ∧ g ≠ J ∧ ¬ X g ∧ ∀ r, vb' = .map (some r) ∨ vm' = .map (some r) → g ≠ r) ∧ (va.ownBlock = some g ∨ w.heap.size ≤ g))) ∧ Chg (fun k => k = T ∨ some k = va.ownBlock ∨ vb = .map (some k) ∨ vm = .map (some k)) w w' := by
  have HH := hide h
  have HOp := hide (open_tx w T J vb vm _ h.tx)
  have HOu := hide (outside_no w t m htn)
  have HXl := hide h.fl.x
  have HVa := hide hva
  have HSep := hide hsep
  have HlT := hide hlT
  have HL := hide hl
  have HHm := hide hm
  have hd1 : ((t : Nat) : Int).tmod 512 = 0 := by rw [Int.tmod_eq_emod_of_nonneg (by omega)]; omega
  have hd2 : ((t : Nat) : Int) % 512 = 0 := by omega
  have hTl := h.tx.lt
  have hS0 : w.drew.cell? ⟨T, 3, none⟩ = some va := h.tx.cell.2.2.2.1
  have hd0 : Below w.heap.size w w.drew := (Below.refl _ _).drew
  obtain ⟨i1, hi, hz0, hz1, hz2⟩ := info_parts info_rec
  clear h hva hsep hlT hl hm
  go_enter Try.func12, Try.ntmps12
  go_wp2_with fail
  refine HOp.out.mono ?_
  rintro e9 w9 ⟨rfl, h9⟩
  subst h9
  go_wp2_with fail
  refine HOu.out.mono ?_
  rintro e9 w9 ⟨rfl, h9⟩
  subst h9
  go_wp2_with fail
  refine wp_region_held_drew (S := (fun _ : World => True)) (by kernel_rfl) trivial (fun _ => ?_)
  refine any_take 0 (some 25) (.pointer (some ⟨T, 0, none⟩)) rfl rfl (by kernel_rfl) (by kernel_rfl) (by kernel_rfl) (fun _ _ _ h => h) (by rfl) trivial ?_ ?_
  · intro u hSu
    go_simp
  simp only [Act.put, List.setIfInBounds_toArray, List.set_cons_zero, List.set_cons_succ]
  refine any_take 1 (some 26) (.pointer (some ⟨T, 0, none⟩)) rfl rfl (by kernel_rfl) (by kernel_rfl) (by kernel_rfl) (fun _ _ _ h => h) (by rfl) trivial ?_ ?_
  · intro u hSu
    go_simp
  simp only [Act.put, List.setIfInBounds_toArray, List.set_cons_zero, List.set_cons_succ]
  refine any_take 2 (some 27) (.pointer (some ⟨T, 0, none⟩)) rfl rfl (by kernel_rfl) (by kernel_rfl) (by kernel_rfl) (fun _ _ _ h => h) (by rfl) trivial ?_ ?_
  · intro u hSu
    go_simp
  simp only [Act.put, List.setIfInBounds_toArray, List.set_cons_zero, List.set_cons_succ]
  refine any_take 3 (some 28) (.pointer (some ⟨T, 3, none⟩)) rfl rfl (by kernel_rfl) (by kernel_rfl) (by kernel_rfl) (fun _ _ _ h => h) (by rfl) trivial ?_ ?_
  · intro u hSu
    go_simp
  simp only [Act.put, List.setIfInBounds_toArray, List.set_cons_zero, List.set_cons_succ]
  refine any_take 5 (some 30) (.int .i64 (t : Int)) rfl rfl (by kernel_rfl) (by kernel_rfl) (by kernel_rfl) (fun _ _ _ h => h) (by rfl) trivial ?_ ?_
  · intro u hSu
    go_simp
  simp only [Act.put, List.setIfInBounds_toArray, List.set_cons_zero, List.set_cons_succ]
  refine any_take 6 (some 31) (.slice a m cap) rfl rfl (by kernel_rfl) (by kernel_rfl) (by kernel_rfl) (fun _ _ _ h => h) (by rfl) trivial ?_ ?_
  · intro u hSu
    go_simp
  simp only [Act.put, List.setIfInBounds_toArray, List.set_cons_zero, List.set_cons_succ]
  refine wpAnyH_ready (rs := [4, 7]) (by kernel_rfl) (by simp) ?_
  refine AllReadyH.cons (i := 4) rfl (fun K hK => ?_) (AllReadyH.cons (i := 7) rfl (fun K hK => ?_) AllReadyH.nil)
  · have cL := hS0
    go_simp
    refine hK.out _ _ trivial (fun _ => ?_)
    clear hK K
    try simp only [Act.put, List.setIfInBounds_toArray, List.set_cons_zero, List.set_cons_succ]
    clear cL
    refine wpAnyH_ready (rs := [7]) (by kernel_rfl) (by simp) ?_
    refine AllReadyH.cons (i := 7) rfl (fun K hK => ?_) AllReadyH.nil
    go_simp
    have HCl := hide (clone_any w9.drew a cap pl (HL.out.below hd0) (by have := HHm.out; omega))
    rw [← HHm.out] at HCl
    refine HCl.out.mono ?_
    rintro e9 wA ⟨vC, rfl, hoC, hbA⟩
    have hbwA : Below w9.heap.size w9 wA := hd0.trans (hbA.mono hd0.size)
    obtain ⟨aC, cC, rfl, hsC, hfC⟩ := hoC.sl
    rw [← HHm.out]
    go_simp
    refine hK.out _ _ trivial (fun _ => ?_)
    clear hK K
    try simp only [Act.put, List.setIfInBounds_toArray, List.set_cons_zero, List.set_cons_succ]
    refine any_take 8 (some 33) (.agg #[.int .i64 (t : Int), .slice aC m cC]) rfl rfl (by kernel_rfl) (by kernel_rfl) (by kernel_rfl) (fun _ _ _ h => h) (by rfl) trivial ?_ ?_
    · intro u hSu
      go_simp
    simp only [Act.put, List.setIfInBounds_toArray, List.set_cons_zero, List.set_cons_succ]
    refine wpAnyH_ready (rs := [9]) (by kernel_rfl) (by simp) ?_
    refine AllReadyH.cons (i := 9) rfl (fun K hK => ?_) AllReadyH.nil
    go_simp
    have hbB : Below wA.heap.size wA (wA.alloc (.cells #[.int .i64 (t : Int), .slice aC m cC] 75)) := (Below.refl _ _).alloc (Nat.le_refl _) _
    have hbwB : Below w9.heap.size w9 (wA.alloc (.cells #[.int .i64 (t : Int), .slice aC m cC] 75)) := hbwA.trans (hbB.mono hbwA.size)
    have hnB := new2J wA 75 (.int .i64 (t : Int)) (.slice aC m cC)
    refine hK.out _ _ trivial (fun _ => ?_)
    clear hK K
    try simp only [Act.put, List.setIfInBounds_toArray, List.set_cons_zero, List.set_cons_succ]
    generalize hWB : wA.alloc (.cells #[.int .i64 (t : Int), .slice aC m cC] 75) = wB at *
    obtain ⟨v5, w5, hr5, ho5, hg5, _, hw5⟩ := run_append_own_at (P := Try.prog) wB Ba 67 67 75 i1 (.agg #[.int .i64 0, .slice none 0 0]) 2 32 Try.underlying67 hi hz0 hz1 hz2 rfl (by decide) va nL xs (World.ownsRow.kept (row := none) HVa.out ⟨hbwB.os, hbwB.tape, hbwB.output, hbwB.size, fun k hk _ => hbwB.block k hk⟩ (by cases va.ownBlock <;> simp)) ⟨wA.heap.size, 0, none⟩ 1 1 [.int .i64 (t : Int), .slice aC m cC] rfl hnB (by simp [Value.oneCell']) (by unfold maxLen; omega) (by omega) (Nat.le_trans hBa hbwB.size)
    obtain ⟨g5', cp5, hv5⟩ : ∃ g cp, v5 = .slice (some ⟨g, 0, none⟩) (nL + 1) cp := by
      rcases ho5.2 with ⟨_, h0⟩ | ⟨g, cp, cur, h0, _⟩
      · omega
      · exact ⟨g, cp, h0⟩
    subst hv5
    have hnT : some T ≠ va.ownBlock := fun e => (HSep.out T e.symm).1 rfl
    refine ready_val 10 (some 35) (.slice (some ⟨g5', 0, none⟩) (nL + 1) cp5) w5 (by kernel_rfl) rfl rfl rfl (exec_append rfl rfl rfl hr5) trivial ?_
    try simp only [Act.put, List.setIfInBounds_toArray, List.set_cons_zero, List.set_cons_succ]
    refine any_take 11 (some 36) (.pointer (some ⟨T, 0, none⟩)) rfl rfl (by kernel_rfl) (by kernel_rfl) (by kernel_rfl) (fun _ _ _ h => h) (by rfl) trivial ?_ ?_
    · intro u hSu
      go_simp
    simp only [Act.put, List.setIfInBounds_toArray, List.set_cons_zero, List.set_cons_succ]
    refine any_take 12 (some 37) (.pointer (some ⟨T, 3, none⟩)) rfl rfl (by kernel_rfl) (by kernel_rfl) (by kernel_rfl) (fun _ _ _ h => h) (by rfl) trivial ?_ ?_
    · intro u hSu
      go_simp
    simp only [Act.put, List.setIfInBounds_toArray, List.set_cons_zero, List.set_cons_succ]
    refine wpAnyH_ready (rs := [13]) (by kernel_rfl) (by simp) ?_
    refine AllReadyH.cons (i := 13) rfl (fun K hK => ?_) AllReadyH.nil
    have hgB : ∀ g, (Value.slice (some ⟨g5', 0, none⟩) (nL + 1) cp5).ownBlock = some g → (va.ownBlock = some g ∨ (w9.heap.size ≤ g ∧ g < w5.heap.size)) := fun g hg => by
      rcases hw5 with e | e
      · exact Or.inl (e ▸ hg)
      · rw [e] at hg
        have e3 : wB.heap.size = g := by simpa using hg
        have e4 := (World.ownsRow.lt ho5 g (by rw [e]; exact hg)).2
        exact Or.inr ⟨by have := hbwB.size; omega, e4⟩
    have hc5 : Chg (fun k => k = T ∨ some k = va.ownBlock) w9 w5 := (Chg.of_below hbwB).trans ((Chg.of_grown hg5).mono (fun i _ e => Or.inr e))
    have ht5 : Txs w5 T J vb vm va false := (hg5.block T (Nat.lt_of_lt_of_le hTl hbwB.size) hnT).trans ((hbwB.block T hTl).trans HH.out.tx)
    have g5 := (show Blk w5 T #[.pointer (some ⟨J, 0, none⟩), vb, vm, va, .bool false] 69 from ht5).frozen 3
    have s5 : w5.cell? ⟨T, 3, none⟩ = some va := ht5.cell.2.2.2.1
    have ht6 : Txs (w5.setCell ⟨T, 3, none⟩ (.slice (some ⟨g5', 0, none⟩) (nL + 1) cp5)) T J vb vm (.slice (some ⟨g5', 0, none⟩) (nL + 1) cp5) false := heap_setCell_same _ T 3 _ _ (.slice (some ⟨g5', 0, none⟩) (nL + 1) cp5) ht5
    have hc6 : Chg (fun k => k = T ∨ some k = va.ownBlock) w9 (w5.setCell ⟨T, 3, none⟩ (.slice (some ⟨g5', 0, none⟩) (nL + 1) cp5)) := hc5.setCell T 3 _ (fun _ => Or.inl rfl)
    go_simp
    refine hK.out _ _ trivial (fun _ => ?_)
    clear hK K
    try simp only [Act.put, List.setIfInBounds_toArray, List.set_cons_zero, List.set_cons_succ]
    refine wpAnyH_done (by kernel_rfl) ?_ _
    have hcT : Chg (fun k => k = T) w5 (w5.setCell ⟨T, 3, none⟩ (.slice (some ⟨g5', 0, none⟩) (nL + 1) cp5)) := (Chg.refl (fun k => k = T) w5).setCell T 3 _ (fun _ => rfl)
    generalize w5.setCell ⟨T, 3, none⟩ (.slice (some ⟨g5', 0, none⟩) (nL + 1) cp5) = w6 at *
    have hm6 : ∀ r, vb = .map (some r) ∨ vm = .map (some r) → ¬ (r = T ∨ some r = va.ownBlock) := fun r hr e => by
      rcases e with e | e
      · have h1 : w9.heap[T]? = _ := HH.out.tx
        rcases hr with h | h
        · obtain ⟨_, es, cc, he⟩ := HH.out.ov.b.lt r h
          rw [e] at he; rw [he] at h1; cases h1
        · obtain ⟨_, es, cc, he⟩ := HH.out.ov.m.lt r h
          rw [e] at he; rw [he] at h1; cases h1
      · exact (HSep.out r e.symm).2.2.2 r hr rfl
    have hJ6 : ¬ (J = T ∨ some J = va.ownBlock) := fun e => by
      rcases e with e | e
      · exact HH.out.jt e
      · exact (HSep.out J e.symm).2.1 rfl
    have hq6 : Txq w6 T J F X f A k n vb vm (.slice (some ⟨g5', 0, none⟩) (nL + 1) cp5) B M p q nu :=
      ⟨ht6, HH.out.ov.chg hc6 hm6, HH.out.mm, (hc6.block J HH.out.jr.lt hJ6).trans HH.out.jr, HH.out.fl.chg hc6 (fun i _ hX e => by
        rcases e with e | e
        · exact HH.out.xT (e ▸ hX)
        · exact (HSep.out i e.symm).2.2.1 hX), HH.out.xT, HH.out.xJ, HH.out.xM, HH.out.jt⟩
    have hl6 : Lies w6 a pl := HL.out.chg hc6 (fun x hx e => by
      have := HlT.out x hx
      rcases e with e | e
      · exact this.1 e
      · exact this.2.1 e)
    have HLy := hide (lay_by 1 (by omega) w6 T J vb vm _ false B M hq6.tx hq6.ov hq6.mm a cap m pl HHm.out hl6 hcap (fun _ x hx => ⟨(HlT.out x hx).1, (HlT.out x hx).2.2⟩) t htn)
    have HQ6 := hide hq6
    have HC6 := hide hc6
    have hs6 := hc6.size
    have HoR := hide ho5
    have HgB := hide hgB
    have HcT := hide (show Chg (fun k => k = T) w5 w6 from hcT)
    have hw56 := HcT.out.size
    have HSc : Hid (Sl w6 aC cC pl ∧ ∃ g, aC = some ⟨g, 0, none⟩ ∧ w9.heap.size ≤ g ∧ g < w6.heap.size ∧ g5' ≠ g) := hide (by
      obtain ⟨g, eg, hg1, hg2⟩ := hfC (fun e => by have := HHm.out; rw [e] at this; simp at this; omega)
      have hg1' : w9.heap.size ≤ g := hg1
      have hvl : ∀ k, some k = va.ownBlock → k < w9.heap.size := fun k hk => (World.ownsRow.lt HVa.out k hk.symm).2
      have h1 : Sl wB aC cC pl := hsC.below hbB
      have h2 : Sl w5 aC cC pl := h1.chgQ (Chg.of_grown hg5) (fun x hx e => by
        rw [eg] at hx
        cases hx
        have := hvl _ e
        simp only at this
        omega)
      have h3 : Sl w6 aC cC pl := h2.chgQ hcT (fun x hx e => by
        rw [eg] at hx
        cases hx
        simp only at e
        omega)
      have hBs := hbB.size
      refine ⟨h3, g, eg, hg1', by have := hcT.size; have := hg5.size; omega, fun e => ?_⟩
      rcases hw5 with e9 | e9
      · have h9 : some g = va.ownBlock := by rw [← e9, ← e]; simp [Value.ownBlock]
        have := hvl g h9
        omega
      · have h9 : g5' = wB.heap.size := by simpa [Value.ownBlock] using e9
        omega)
    clear hcT hgB hr5 ho5 hg5 hw5 hc5 ht5 g5 s5 ht6 hc6 hm6 hJ6 hq6 hl6 hnB hbwB hbwA hoC hbA hsC hfC HCl
    apply_assumption
    go_wp2_with fail
    refine HLy.out.mono ?_
    rintro e9 w10 ⟨rfl, ⟨r1, r2, B', M', ht, ho, hr, hrr, hv⟩, hc⟩
    have HRr := hide hrr
    have HT := hide ht
    have HO := hide ho
    have HV := hide hv
    have HC := hide hc
    clear ht ho hv hc hrr HLy
    go_wp2_with fail
    go_ret
    have hnY : ∀ k, k < w6.heap.size → X k → ¬ (k = T ∨ vb = .map (some k) ∨ vm = .map (some k)) := fun k _ hk e => by
      rcases e with rfl | e | e
      · exact HH.out.xT hk
      · exact HH.out.xM k (Or.inl e) hk
      · exact HH.out.xM k (Or.inr e) hk
    have hJn : ¬ (J = T ∨ vb = .map (some J) ∨ vm = .map (some J)) := fun e => by
      have hj : w9.heap[J]? = _ := HH.out.jr
      rcases e with e | e | e
      · exact HH.out.jt e
      · obtain ⟨_, es, c, he⟩ := HH.out.ov.b.lt J e
        rw [he] at hj; cases hj
      · obtain ⟨_, es, c, he⟩ := HH.out.ov.m.lt J e
        rw [he] at hj; cases hj
    have hr12 : ∀ r, (r = r1 ∨ r = r2) → ¬ X r := by
      intro r hrr hx
      rcases HRr.out r hrr with h | h
      · exact HH.out.xM r h hx
      · have := HXl.out r hx
        omega
    have hgN : ∀ g, (Value.slice (some ⟨g5', 0, none⟩) (nL + 1) cp5).ownBlock = some g → (g ≠ T ∧ g ≠ J ∧ ¬ X g ∧ ∀ r, vb = .map (some r) ∨ vm = .map (some r) → g ≠ r) := fun g hg => by
      rcases HgB.out g hg with h | ⟨h1, h2⟩
      · exact HSep.out g h
      · refine ⟨by omega, by have := HH.out.jr.lt; omega, fun e => by have := HXl.out g e; omega, fun r hr e => ?_⟩
        have : r < w9.heap.size := hr.elim (fun e => (HH.out.ov.b.lt r e).1) (fun e => (HH.out.ov.m.lt r e).1)
        omega
    have hgL : ∀ g, (Value.slice (some ⟨g5', 0, none⟩) (nL + 1) cp5).ownBlock = some g → g < w6.heap.size := fun g hg => by have := (World.ownsRow.lt HoR.out g hg).2; omega
    have hoN : w10.ownsRow Ba 75 2 (.slice (some ⟨g5', 0, none⟩) (nL + 1) cp5) (nL + 1) _ := ownsRow_chg (ownsRow_chg HoR.out HcT.out (fun g hg => (hgN g hg).1)) HC.out (fun g hg e => by
      rcases e with e | e | e
      · exact (hgN g hg).1 e
      · exact (hgN g hg).2.2.2 g (Or.inl e) rfl
      · exact (hgN g hg).2.2.2 g (Or.inr e) rfl)
    refine ⟨rfl, ⟨.map (some r1), .map (some r2), _, B', M', ⟨HT.out, HO.out, Or.inr ⟨r1, r2, rfl, rfl, hr⟩, (HC.out.block J HQ6.out.jr.lt hJn).trans HQ6.out.jr, HQ6.out.fl.chg HC.out hnY, HH.out.xT, HH.out.xJ, fun r e => hr12 r (by simpa [eq_comm] using e), HH.out.jt⟩, HV.out, fun r e => (HRr.out r (by simpa [eq_comm] using e)).imp id (fun h => Nat.le_trans hs6 h), (by
      obtain ⟨hs6', g, eg, hg1, hg2, hg3⟩ := HSc.out
      refine ⟨aC, cC, g, hoN, hs6'.chgQ HC.out (fun x hx e => ?_), eg, hg1, Nat.lt_of_lt_of_le hg2 HC.out.size, fun e => hg3 (by simpa [Value.ownBlock] using e), fun r e e9 => by
        rcases HRr.out r (by simpa [eq_comm] using e) with h | h
        · have : r < w9.heap.size := h.elim (fun e => (HH.out.ov.b.lt r e).1) (fun e => (HH.out.ov.m.lt r e).1)
          omega
        · omega⟩
      rw [eg] at hx
      cases hx
      have hlt : ∀ r, (vb = .map (some r) ∨ vm = .map (some r)) → r < w9.heap.size := fun r hr => hr.elim (fun e => (HH.out.ov.b.lt r e).1) (fun e => (HH.out.ov.m.lt r e).1)
      simp only at e
      rcases e with e | e | e
      · omega
      · have := hlt g (Or.inl e); omega
      · have := hlt g (Or.inr e); omega), fun g hg => ⟨⟨(hgN g hg).1, (hgN g hg).2.1, (hgN g hg).2.2.1, fun r e => by
      rcases HRr.out r (by simpa [eq_comm] using e) with h | h
      · exact (hgN g hg).2.2.2 r h
      · have := hgL g hg; omega⟩, (HgB.out g hg).imp id (fun h => h.1)⟩⟩, ?_⟩
    refine (HC6.out.mono (fun i _ e => e.imp id Or.inl)).trans (HC.out.mono (fun i _ e => ?_))
    rcases e with e | e
    · exact Or.inl e
    · exact Or.inr (Or.inr e)
  · go_simp
    have HCl := hide (clone_any w9.drew a cap pl (HL.out.below hd0) (by have := HHm.out; omega))
    rw [← HHm.out] at HCl
    refine HCl.out.mono ?_
    rintro e9 wA ⟨vC, rfl, hoC, hbA⟩
    have hbwA : Below w9.heap.size w9 wA := hd0.trans (hbA.mono hd0.size)
    obtain ⟨aC, cC, rfl, hsC, hfC⟩ := hoC.sl
    rw [← HHm.out]
    go_simp
    refine hK.out _ _ trivial (fun _ => ?_)
    clear hK K
    try simp only [Act.put, List.setIfInBounds_toArray, List.set_cons_zero, List.set_cons_succ]
    refine any_take 8 (some 33) (.agg #[.int .i64 (t : Int), .slice aC m cC]) rfl rfl (by kernel_rfl) (by kernel_rfl) (by kernel_rfl) (fun _ _ _ h => h) (by rfl) trivial ?_ ?_
    · intro u hSu
      go_simp
    simp only [Act.put, List.setIfInBounds_toArray, List.set_cons_zero, List.set_cons_succ]
    refine wpAnyH_ready (rs := [4, 9]) (by kernel_rfl) (by simp) ?_
    refine AllReadyH.cons (i := 4) rfl (fun K hK => ?_) (AllReadyH.cons (i := 9) rfl (fun K hK => ?_) AllReadyH.nil)
    · have cL := (hbwA.cell (p := ⟨T, 3, none⟩) hTl).trans hS0
      go_simp
      refine hK.out _ _ trivial (fun _ => ?_)
      clear hK K
      try simp only [Act.put, List.setIfInBounds_toArray, List.set_cons_zero, List.set_cons_succ]
      clear cL
      refine wpAnyH_ready (rs := [9]) (by kernel_rfl) (by simp) ?_
      refine AllReadyH.cons (i := 9) rfl (fun K hK => ?_) AllReadyH.nil
      go_simp
      have hbB : Below wA.heap.size wA (wA.alloc (.cells #[.int .i64 (t : Int), .slice aC m cC] 75)) := (Below.refl _ _).alloc (Nat.le_refl _) _
      have hbwB : Below w9.heap.size w9 (wA.alloc (.cells #[.int .i64 (t : Int), .slice aC m cC] 75)) := hbwA.trans (hbB.mono hbwA.size)
      have hnB := new2J wA 75 (.int .i64 (t : Int)) (.slice aC m cC)
      refine hK.out _ _ trivial (fun _ => ?_)
      clear hK K
      try simp only [Act.put, List.setIfInBounds_toArray, List.set_cons_zero, List.set_cons_succ]
      generalize hWB : wA.alloc (.cells #[.int .i64 (t : Int), .slice aC m cC] 75) = wB at *
      obtain ⟨v5, w5, hr5, ho5, hg5, _, hw5⟩ := run_append_own_at (P := Try.prog) wB Ba 67 67 75 i1 (.agg #[.int .i64 0, .slice none 0 0]) 2 32 Try.underlying67 hi hz0 hz1 hz2 rfl (by decide) va nL xs (World.ownsRow.kept (row := none) HVa.out ⟨hbwB.os, hbwB.tape, hbwB.output, hbwB.size, fun k hk _ => hbwB.block k hk⟩ (by cases va.ownBlock <;> simp)) ⟨wA.heap.size, 0, none⟩ 1 1 [.int .i64 (t : Int), .slice aC m cC] rfl hnB (by simp [Value.oneCell']) (by unfold maxLen; omega) (by omega) (Nat.le_trans hBa hbwB.size)
      obtain ⟨g5', cp5, hv5⟩ : ∃ g cp, v5 = .slice (some ⟨g, 0, none⟩) (nL + 1) cp := by
        rcases ho5.2 with ⟨_, h0⟩ | ⟨g, cp, cur, h0, _⟩
        · omega
        · exact ⟨g, cp, h0⟩
      subst hv5
      have hnT : some T ≠ va.ownBlock := fun e => (HSep.out T e.symm).1 rfl
      refine ready_val 10 (some 35) (.slice (some ⟨g5', 0, none⟩) (nL + 1) cp5) w5 (by kernel_rfl) rfl rfl rfl (exec_append rfl rfl rfl hr5) trivial ?_
      try simp only [Act.put, List.setIfInBounds_toArray, List.set_cons_zero, List.set_cons_succ]
      refine any_take 11 (some 36) (.pointer (some ⟨T, 0, none⟩)) rfl rfl (by kernel_rfl) (by kernel_rfl) (by kernel_rfl) (fun _ _ _ h => h) (by rfl) trivial ?_ ?_
      · intro u hSu
        go_simp
      simp only [Act.put, List.setIfInBounds_toArray, List.set_cons_zero, List.set_cons_succ]
      refine any_take 12 (some 37) (.pointer (some ⟨T, 3, none⟩)) rfl rfl (by kernel_rfl) (by kernel_rfl) (by kernel_rfl) (fun _ _ _ h => h) (by rfl) trivial ?_ ?_
      · intro u hSu
        go_simp
      simp only [Act.put, List.setIfInBounds_toArray, List.set_cons_zero, List.set_cons_succ]
      refine wpAnyH_ready (rs := [13]) (by kernel_rfl) (by simp) ?_
      refine AllReadyH.cons (i := 13) rfl (fun K hK => ?_) AllReadyH.nil
      have hgB : ∀ g, (Value.slice (some ⟨g5', 0, none⟩) (nL + 1) cp5).ownBlock = some g → (va.ownBlock = some g ∨ (w9.heap.size ≤ g ∧ g < w5.heap.size)) := fun g hg => by
        rcases hw5 with e | e
        · exact Or.inl (e ▸ hg)
        · rw [e] at hg
          have e3 : wB.heap.size = g := by simpa using hg
          have e4 := (World.ownsRow.lt ho5 g (by rw [e]; exact hg)).2
          exact Or.inr ⟨by have := hbwB.size; omega, e4⟩
      have hc5 : Chg (fun k => k = T ∨ some k = va.ownBlock) w9 w5 := (Chg.of_below hbwB).trans ((Chg.of_grown hg5).mono (fun i _ e => Or.inr e))
      have ht5 : Txs w5 T J vb vm va false := (hg5.block T (Nat.lt_of_lt_of_le hTl hbwB.size) hnT).trans ((hbwB.block T hTl).trans HH.out.tx)
      have g5 := (show Blk w5 T #[.pointer (some ⟨J, 0, none⟩), vb, vm, va, .bool false] 69 from ht5).frozen 3
      have s5 : w5.cell? ⟨T, 3, none⟩ = some va := ht5.cell.2.2.2.1
      have ht6 : Txs (w5.setCell ⟨T, 3, none⟩ (.slice (some ⟨g5', 0, none⟩) (nL + 1) cp5)) T J vb vm (.slice (some ⟨g5', 0, none⟩) (nL + 1) cp5) false := heap_setCell_same _ T 3 _ _ (.slice (some ⟨g5', 0, none⟩) (nL + 1) cp5) ht5
      have hc6 : Chg (fun k => k = T ∨ some k = va.ownBlock) w9 (w5.setCell ⟨T, 3, none⟩ (.slice (some ⟨g5', 0, none⟩) (nL + 1) cp5)) := hc5.setCell T 3 _ (fun _ => Or.inl rfl)
      go_simp
      refine hK.out _ _ trivial (fun _ => ?_)
      clear hK K
      try simp only [Act.put, List.setIfInBounds_toArray, List.set_cons_zero, List.set_cons_succ]
      refine wpAnyH_done (by kernel_rfl) ?_ _
      have hcT : Chg (fun k => k = T) w5 (w5.setCell ⟨T, 3, none⟩ (.slice (some ⟨g5', 0, none⟩) (nL + 1) cp5)) := (Chg.refl (fun k => k = T) w5).setCell T 3 _ (fun _ => rfl)
      generalize w5.setCell ⟨T, 3, none⟩ (.slice (some ⟨g5', 0, none⟩) (nL + 1) cp5) = w6 at *
      have hm6 : ∀ r, vb = .map (some r) ∨ vm = .map (some r) → ¬ (r = T ∨ some r = va.ownBlock) := fun r hr e => by
        rcases e with e | e
        · have h1 : w9.heap[T]? = _ := HH.out.tx
          rcases hr with h | h
          · obtain ⟨_, es, cc, he⟩ := HH.out.ov.b.lt r h
            rw [e] at he; rw [he] at h1; cases h1
          · obtain ⟨_, es, cc, he⟩ := HH.out.ov.m.lt r h
            rw [e] at he; rw [he] at h1; cases h1
        · exact (HSep.out r e.symm).2.2.2 r hr rfl
      have hJ6 : ¬ (J = T ∨ some J = va.ownBlock) := fun e => by
        rcases e with e | e
        · exact HH.out.jt e
        · exact (HSep.out J e.symm).2.1 rfl
      have hq6 : Txq w6 T J F X f A k n vb vm (.slice (some ⟨g5', 0, none⟩) (nL + 1) cp5) B M p q nu :=
        ⟨ht6, HH.out.ov.chg hc6 hm6, HH.out.mm, (hc6.block J HH.out.jr.lt hJ6).trans HH.out.jr, HH.out.fl.chg hc6 (fun i _ hX e => by
          rcases e with e | e
          · exact HH.out.xT (e ▸ hX)
          · exact (HSep.out i e.symm).2.2.1 hX), HH.out.xT, HH.out.xJ, HH.out.xM, HH.out.jt⟩
      have hl6 : Lies w6 a pl := HL.out.chg hc6 (fun x hx e => by
        have := HlT.out x hx
        rcases e with e | e
        · exact this.1 e
        · exact this.2.1 e)
      have HLy := hide (lay_by 1 (by omega) w6 T J vb vm _ false B M hq6.tx hq6.ov hq6.mm a cap m pl HHm.out hl6 hcap (fun _ x hx => ⟨(HlT.out x hx).1, (HlT.out x hx).2.2⟩) t htn)
      have HQ6 := hide hq6
      have HC6 := hide hc6
      have hs6 := hc6.size
      have HoR := hide ho5
      have HgB := hide hgB
      have HcT := hide (show Chg (fun k => k = T) w5 w6 from hcT)
      have hw56 := HcT.out.size
      have HSc : Hid (Sl w6 aC cC pl ∧ ∃ g, aC = some ⟨g, 0, none⟩ ∧ w9.heap.size ≤ g ∧ g < w6.heap.size ∧ g5' ≠ g) := hide (by
        obtain ⟨g, eg, hg1, hg2⟩ := hfC (fun e => by have := HHm.out; rw [e] at this; simp at this; omega)
        have hg1' : w9.heap.size ≤ g := hg1
        have hvl : ∀ k, some k = va.ownBlock → k < w9.heap.size := fun k hk => (World.ownsRow.lt HVa.out k hk.symm).2
        have h1 : Sl wB aC cC pl := hsC.below hbB
        have h2 : Sl w5 aC cC pl := h1.chgQ (Chg.of_grown hg5) (fun x hx e => by
          rw [eg] at hx
          cases hx
          have := hvl _ e
          simp only at this
          omega)
        have h3 : Sl w6 aC cC pl := h2.chgQ hcT (fun x hx e => by
          rw [eg] at hx
          cases hx
          simp only at e
          omega)
        have hBs := hbB.size
        refine ⟨h3, g, eg, hg1', by have := hcT.size; have := hg5.size; omega, fun e => ?_⟩
        rcases hw5 with e9 | e9
        · have h9 : some g = va.ownBlock := by rw [← e9, ← e]; simp [Value.ownBlock]
          have := hvl g h9
          omega
        · have h9 : g5' = wB.heap.size := by simpa [Value.ownBlock] using e9
          omega)
      clear hcT hgB hr5 ho5 hg5 hw5 hc5 ht5 g5 s5 ht6 hc6 hm6 hJ6 hq6 hl6 hnB hbwB hbwA hoC hbA hsC hfC HCl
      apply_assumption
      go_wp2_with fail
      refine HLy.out.mono ?_
      rintro e9 w10 ⟨rfl, ⟨r1, r2, B', M', ht, ho, hr, hrr, hv⟩, hc⟩
      have HRr := hide hrr
      have HT := hide ht
      have HO := hide ho
      have HV := hide hv
      have HC := hide hc
      clear ht ho hv hc hrr HLy
      go_wp2_with fail
      go_ret
      have hnY : ∀ k, k < w6.heap.size → X k → ¬ (k = T ∨ vb = .map (some k) ∨ vm = .map (some k)) := fun k _ hk e => by
        rcases e with rfl | e | e
        · exact HH.out.xT hk
        · exact HH.out.xM k (Or.inl e) hk
        · exact HH.out.xM k (Or.inr e) hk
      have hJn : ¬ (J = T ∨ vb = .map (some J) ∨ vm = .map (some J)) := fun e => by
        have hj : w9.heap[J]? = _ := HH.out.jr
        rcases e with e | e | e
        · exact HH.out.jt e
        · obtain ⟨_, es, c, he⟩ := HH.out.ov.b.lt J e
          rw [he] at hj; cases hj
        · obtain ⟨_, es, c, he⟩ := HH.out.ov.m.lt J e
          rw [he] at hj; cases hj
      have hr12 : ∀ r, (r = r1 ∨ r = r2) → ¬ X r := by
        intro r hrr hx
        rcases HRr.out r hrr with h | h
        · exact HH.out.xM r h hx
        · have := HXl.out r hx
          omega
      have hgN : ∀ g, (Value.slice (some ⟨g5', 0, none⟩) (nL + 1) cp5).ownBlock = some g → (g ≠ T ∧ g ≠ J ∧ ¬ X g ∧ ∀ r, vb = .map (some r) ∨ vm = .map (some r) → g ≠ r) := fun g hg => by
        rcases HgB.out g hg with h | ⟨h1, h2⟩
        · exact HSep.out g h
        · refine ⟨by omega, by have := HH.out.jr.lt; omega, fun e => by have := HXl.out g e; omega, fun r hr e => ?_⟩
          have : r < w9.heap.size := hr.elim (fun e => (HH.out.ov.b.lt r e).1) (fun e => (HH.out.ov.m.lt r e).1)
          omega
      have hgL : ∀ g, (Value.slice (some ⟨g5', 0, none⟩) (nL + 1) cp5).ownBlock = some g → g < w6.heap.size := fun g hg => by have := (World.ownsRow.lt HoR.out g hg).2; omega
      have hoN : w10.ownsRow Ba 75 2 (.slice (some ⟨g5', 0, none⟩) (nL + 1) cp5) (nL + 1) _ := ownsRow_chg (ownsRow_chg HoR.out HcT.out (fun g hg => (hgN g hg).1)) HC.out (fun g hg e => by
        rcases e with e | e | e
        · exact (hgN g hg).1 e
        · exact (hgN g hg).2.2.2 g (Or.inl e) rfl
        · exact (hgN g hg).2.2.2 g (Or.inr e) rfl)
      refine ⟨rfl, ⟨.map (some r1), .map (some r2), _, B', M', ⟨HT.out, HO.out, Or.inr ⟨r1, r2, rfl, rfl, hr⟩, (HC.out.block J HQ6.out.jr.lt hJn).trans HQ6.out.jr, HQ6.out.fl.chg HC.out hnY, HH.out.xT, HH.out.xJ, fun r e => hr12 r (by simpa [eq_comm] using e), HH.out.jt⟩, HV.out, fun r e => (HRr.out r (by simpa [eq_comm] using e)).imp id (fun h => Nat.le_trans hs6 h), (by
      obtain ⟨hs6', g, eg, hg1, hg2, hg3⟩ := HSc.out
      refine ⟨aC, cC, g, hoN, hs6'.chgQ HC.out (fun x hx e => ?_), eg, hg1, Nat.lt_of_lt_of_le hg2 HC.out.size, fun e => hg3 (by simpa [Value.ownBlock] using e), fun r e e9 => by
        rcases HRr.out r (by simpa [eq_comm] using e) with h | h
        · have : r < w9.heap.size := h.elim (fun e => (HH.out.ov.b.lt r e).1) (fun e => (HH.out.ov.m.lt r e).1)
          omega
        · omega⟩
      rw [eg] at hx
      cases hx
      have hlt : ∀ r, (vb = .map (some r) ∨ vm = .map (some r)) → r < w9.heap.size := fun r hr => hr.elim (fun e => (HH.out.ov.b.lt r e).1) (fun e => (HH.out.ov.m.lt r e).1)
      simp only at e
      rcases e with e | e | e
      · omega
      · have := hlt g (Or.inl e); omega
      · have := hlt g (Or.inr e); omega), fun g hg => ⟨⟨(hgN g hg).1, (hgN g hg).2.1, (hgN g hg).2.2.1, fun r e => by
        rcases HRr.out r (by simpa [eq_comm] using e) with h | h
        · exact (hgN g hg).2.2.2 r h
        · have := hgL g hg; omega⟩, (HgB.out g hg).imp id (fun h => h.1)⟩⟩, ?_⟩
      refine (HC6.out.mono (fun i _ e => e.imp id Or.inl)).trans (HC.out.mono (fun i _ e => ?_))
      rcases e with e | e
      · exact Or.inl e
      · exact Or.inr (Or.inr e)
    · go_simp
      have hbB : Below wA.heap.size wA (wA.alloc (.cells #[.int .i64 (t : Int), .slice aC m cC] 75)) := (Below.refl _ _).alloc (Nat.le_refl _) _
      have hbwB : Below w9.heap.size w9 (wA.alloc (.cells #[.int .i64 (t : Int), .slice aC m cC] 75)) := hbwA.trans (hbB.mono hbwA.size)
      have hnB := new2J wA 75 (.int .i64 (t : Int)) (.slice aC m cC)
      refine hK.out _ _ trivial (fun _ => ?_)
      clear hK K
      try simp only [Act.put, List.setIfInBounds_toArray, List.set_cons_zero, List.set_cons_succ]
      generalize hWB : wA.alloc (.cells #[.int .i64 (t : Int), .slice aC m cC] 75) = wB at *
      refine wpAnyH_ready (rs := [4]) (by kernel_rfl) (by simp) ?_
      refine AllReadyH.cons (i := 4) rfl (fun K hK => ?_) AllReadyH.nil
      have cL := (hbwB.cell (p := ⟨T, 3, none⟩) hTl).trans hS0
      go_simp
      refine hK.out _ _ trivial (fun _ => ?_)
      clear hK K
      try simp only [Act.put, List.setIfInBounds_toArray, List.set_cons_zero, List.set_cons_succ]
      clear cL
      obtain ⟨v5, w5, hr5, ho5, hg5, _, hw5⟩ := run_append_own_at (P := Try.prog) wB Ba 67 67 75 i1 (.agg #[.int .i64 0, .slice none 0 0]) 2 32 Try.underlying67 hi hz0 hz1 hz2 rfl (by decide) va nL xs (World.ownsRow.kept (row := none) HVa.out ⟨hbwB.os, hbwB.tape, hbwB.output, hbwB.size, fun k hk _ => hbwB.block k hk⟩ (by cases va.ownBlock <;> simp)) ⟨wA.heap.size, 0, none⟩ 1 1 [.int .i64 (t : Int), .slice aC m cC] rfl hnB (by simp [Value.oneCell']) (by unfold maxLen; omega) (by omega) (Nat.le_trans hBa hbwB.size)
      obtain ⟨g5', cp5, hv5⟩ : ∃ g cp, v5 = .slice (some ⟨g, 0, none⟩) (nL + 1) cp := by
        rcases ho5.2 with ⟨_, h0⟩ | ⟨g, cp, cur, h0, _⟩
        · omega
        · exact ⟨g, cp, h0⟩
      subst hv5
      have hnT : some T ≠ va.ownBlock := fun e => (HSep.out T e.symm).1 rfl
      refine ready_val 10 (some 35) (.slice (some ⟨g5', 0, none⟩) (nL + 1) cp5) w5 (by kernel_rfl) rfl rfl rfl (exec_append rfl rfl rfl hr5) trivial ?_
      try simp only [Act.put, List.setIfInBounds_toArray, List.set_cons_zero, List.set_cons_succ]
      refine any_take 11 (some 36) (.pointer (some ⟨T, 0, none⟩)) rfl rfl (by kernel_rfl) (by kernel_rfl) (by kernel_rfl) (fun _ _ _ h => h) (by rfl) trivial ?_ ?_
      · intro u hSu
        go_simp
      simp only [Act.put, List.setIfInBounds_toArray, List.set_cons_zero, List.set_cons_succ]
      refine any_take 12 (some 37) (.pointer (some ⟨T, 3, none⟩)) rfl rfl (by kernel_rfl) (by kernel_rfl) (by kernel_rfl) (fun _ _ _ h => h) (by rfl) trivial ?_ ?_
      · intro u hSu
        go_simp
      simp only [Act.put, List.setIfInBounds_toArray, List.set_cons_zero, List.set_cons_succ]
      refine wpAnyH_ready (rs := [13]) (by kernel_rfl) (by simp) ?_
      refine AllReadyH.cons (i := 13) rfl (fun K hK => ?_) AllReadyH.nil
      have hgB : ∀ g, (Value.slice (some ⟨g5', 0, none⟩) (nL + 1) cp5).ownBlock = some g → (va.ownBlock = some g ∨ (w9.heap.size ≤ g ∧ g < w5.heap.size)) := fun g hg => by
        rcases hw5 with e | e
        · exact Or.inl (e ▸ hg)
        · rw [e] at hg
          have e3 : wB.heap.size = g := by simpa using hg
          have e4 := (World.ownsRow.lt ho5 g (by rw [e]; exact hg)).2
          exact Or.inr ⟨by have := hbwB.size; omega, e4⟩
      have hc5 : Chg (fun k => k = T ∨ some k = va.ownBlock) w9 w5 := (Chg.of_below hbwB).trans ((Chg.of_grown hg5).mono (fun i _ e => Or.inr e))
      have ht5 : Txs w5 T J vb vm va false := (hg5.block T (Nat.lt_of_lt_of_le hTl hbwB.size) hnT).trans ((hbwB.block T hTl).trans HH.out.tx)
      have g5 := (show Blk w5 T #[.pointer (some ⟨J, 0, none⟩), vb, vm, va, .bool false] 69 from ht5).frozen 3
      have s5 : w5.cell? ⟨T, 3, none⟩ = some va := ht5.cell.2.2.2.1
      have ht6 : Txs (w5.setCell ⟨T, 3, none⟩ (.slice (some ⟨g5', 0, none⟩) (nL + 1) cp5)) T J vb vm (.slice (some ⟨g5', 0, none⟩) (nL + 1) cp5) false := heap_setCell_same _ T 3 _ _ (.slice (some ⟨g5', 0, none⟩) (nL + 1) cp5) ht5
      have hc6 : Chg (fun k => k = T ∨ some k = va.ownBlock) w9 (w5.setCell ⟨T, 3, none⟩ (.slice (some ⟨g5', 0, none⟩) (nL + 1) cp5)) := hc5.setCell T 3 _ (fun _ => Or.inl rfl)
      go_simp
      refine hK.out _ _ trivial (fun _ => ?_)
      clear hK K
      try simp only [Act.put, List.setIfInBounds_toArray, List.set_cons_zero, List.set_cons_succ]
      refine wpAnyH_done (by kernel_rfl) ?_ _
      have hcT : Chg (fun k => k = T) w5 (w5.setCell ⟨T, 3, none⟩ (.slice (some ⟨g5', 0, none⟩) (nL + 1) cp5)) := (Chg.refl (fun k => k = T) w5).setCell T 3 _ (fun _ => rfl)
      generalize w5.setCell ⟨T, 3, none⟩ (.slice (some ⟨g5', 0, none⟩) (nL + 1) cp5) = w6 at *
      have hm6 : ∀ r, vb = .map (some r) ∨ vm = .map (some r) → ¬ (r = T ∨ some r = va.ownBlock) := fun r hr e => by
        rcases e with e | e
        · have h1 : w9.heap[T]? = _ := HH.out.tx
          rcases hr with h | h
          · obtain ⟨_, es, cc, he⟩ := HH.out.ov.b.lt r h
            rw [e] at he; rw [he] at h1; cases h1
          · obtain ⟨_, es, cc, he⟩ := HH.out.ov.m.lt r h
            rw [e] at he; rw [he] at h1; cases h1
        · exact (HSep.out r e.symm).2.2.2 r hr rfl
      have hJ6 : ¬ (J = T ∨ some J = va.ownBlock) := fun e => by
        rcases e with e | e
        · exact HH.out.jt e
        · exact (HSep.out J e.symm).2.1 rfl
      have hq6 : Txq w6 T J F X f A k n vb vm (.slice (some ⟨g5', 0, none⟩) (nL + 1) cp5) B M p q nu :=
        ⟨ht6, HH.out.ov.chg hc6 hm6, HH.out.mm, (hc6.block J HH.out.jr.lt hJ6).trans HH.out.jr, HH.out.fl.chg hc6 (fun i _ hX e => by
          rcases e with e | e
          · exact HH.out.xT (e ▸ hX)
          · exact (HSep.out i e.symm).2.2.1 hX), HH.out.xT, HH.out.xJ, HH.out.xM, HH.out.jt⟩
      have hl6 : Lies w6 a pl := HL.out.chg hc6 (fun x hx e => by
        have := HlT.out x hx
        rcases e with e | e
        · exact this.1 e
        · exact this.2.1 e)
      have HLy := hide (lay_by 1 (by omega) w6 T J vb vm _ false B M hq6.tx hq6.ov hq6.mm a cap m pl HHm.out hl6 hcap (fun _ x hx => ⟨(HlT.out x hx).1, (HlT.out x hx).2.2⟩) t htn)
      have HQ6 := hide hq6
      have HC6 := hide hc6
      have hs6 := hc6.size
      have HoR := hide ho5
      have HgB := hide hgB
      have HcT := hide (show Chg (fun k => k = T) w5 w6 from hcT)
      have hw56 := HcT.out.size
      have HSc : Hid (Sl w6 aC cC pl ∧ ∃ g, aC = some ⟨g, 0, none⟩ ∧ w9.heap.size ≤ g ∧ g < w6.heap.size ∧ g5' ≠ g) := hide (by
        obtain ⟨g, eg, hg1, hg2⟩ := hfC (fun e => by have := HHm.out; rw [e] at this; simp at this; omega)
        have hg1' : w9.heap.size ≤ g := hg1
        have hvl : ∀ k, some k = va.ownBlock → k < w9.heap.size := fun k hk => (World.ownsRow.lt HVa.out k hk.symm).2
        have h1 : Sl wB aC cC pl := hsC.below hbB
        have h2 : Sl w5 aC cC pl := h1.chgQ (Chg.of_grown hg5) (fun x hx e => by
          rw [eg] at hx
          cases hx
          have := hvl _ e
          simp only at this
          omega)
        have h3 : Sl w6 aC cC pl := h2.chgQ hcT (fun x hx e => by
          rw [eg] at hx
          cases hx
          simp only at e
          omega)
        have hBs := hbB.size
        refine ⟨h3, g, eg, hg1', by have := hcT.size; have := hg5.size; omega, fun e => ?_⟩
        rcases hw5 with e9 | e9
        · have h9 : some g = va.ownBlock := by rw [← e9, ← e]; simp [Value.ownBlock]
          have := hvl g h9
          omega
        · have h9 : g5' = wB.heap.size := by simpa [Value.ownBlock] using e9
          omega)
      clear hcT hgB hr5 ho5 hg5 hw5 hc5 ht5 g5 s5 ht6 hc6 hm6 hJ6 hq6 hl6 hnB hbwB hbwA hoC hbA hsC hfC HCl
      apply_assumption
      go_wp2_with fail
      refine HLy.out.mono ?_
      rintro e9 w10 ⟨rfl, ⟨r1, r2, B', M', ht, ho, hr, hrr, hv⟩, hc⟩
      have HRr := hide hrr
      have HT := hide ht
      have HO := hide ho
      have HV := hide hv
      have HC := hide hc
      clear ht ho hv hc hrr HLy
      go_wp2_with fail
      go_ret
      have hnY : ∀ k, k < w6.heap.size → X k → ¬ (k = T ∨ vb = .map (some k) ∨ vm = .map (some k)) := fun k _ hk e => by
        rcases e with rfl | e | e
        · exact HH.out.xT hk
        · exact HH.out.xM k (Or.inl e) hk
        · exact HH.out.xM k (Or.inr e) hk
      have hJn : ¬ (J = T ∨ vb = .map (some J) ∨ vm = .map (some J)) := fun e => by
        have hj : w9.heap[J]? = _ := HH.out.jr
        rcases e with e | e | e
        · exact HH.out.jt e
        · obtain ⟨_, es, c, he⟩ := HH.out.ov.b.lt J e
          rw [he] at hj; cases hj
        · obtain ⟨_, es, c, he⟩ := HH.out.ov.m.lt J e
          rw [he] at hj; cases hj
      have hr12 : ∀ r, (r = r1 ∨ r = r2) → ¬ X r := by
        intro r hrr hx
        rcases HRr.out r hrr with h | h
        · exact HH.out.xM r h hx
        · have := HXl.out r hx
          omega
      have hgN : ∀ g, (Value.slice (some ⟨g5', 0, none⟩) (nL + 1) cp5).ownBlock = some g → (g ≠ T ∧ g ≠ J ∧ ¬ X g ∧ ∀ r, vb = .map (some r) ∨ vm = .map (some r) → g ≠ r) := fun g hg => by
        rcases HgB.out g hg with h | ⟨h1, h2⟩
        · exact HSep.out g h
        · refine ⟨by omega, by have := HH.out.jr.lt; omega, fun e => by have := HXl.out g e; omega, fun r hr e => ?_⟩
          have : r < w9.heap.size := hr.elim (fun e => (HH.out.ov.b.lt r e).1) (fun e => (HH.out.ov.m.lt r e).1)
          omega
      have hgL : ∀ g, (Value.slice (some ⟨g5', 0, none⟩) (nL + 1) cp5).ownBlock = some g → g < w6.heap.size := fun g hg => by have := (World.ownsRow.lt HoR.out g hg).2; omega
      have hoN : w10.ownsRow Ba 75 2 (.slice (some ⟨g5', 0, none⟩) (nL + 1) cp5) (nL + 1) _ := ownsRow_chg (ownsRow_chg HoR.out HcT.out (fun g hg => (hgN g hg).1)) HC.out (fun g hg e => by
        rcases e with e | e | e
        · exact (hgN g hg).1 e
        · exact (hgN g hg).2.2.2 g (Or.inl e) rfl
        · exact (hgN g hg).2.2.2 g (Or.inr e) rfl)
      refine ⟨rfl, ⟨.map (some r1), .map (some r2), _, B', M', ⟨HT.out, HO.out, Or.inr ⟨r1, r2, rfl, rfl, hr⟩, (HC.out.block J HQ6.out.jr.lt hJn).trans HQ6.out.jr, HQ6.out.fl.chg HC.out hnY, HH.out.xT, HH.out.xJ, fun r e => hr12 r (by simpa [eq_comm] using e), HH.out.jt⟩, HV.out, fun r e => (HRr.out r (by simpa [eq_comm] using e)).imp id (fun h => Nat.le_trans hs6 h), (by
      obtain ⟨hs6', g, eg, hg1, hg2, hg3⟩ := HSc.out
      refine ⟨aC, cC, g, hoN, hs6'.chgQ HC.out (fun x hx e => ?_), eg, hg1, Nat.lt_of_lt_of_le hg2 HC.out.size, fun e => hg3 (by simpa [Value.ownBlock] using e), fun r e e9 => by
        rcases HRr.out r (by simpa [eq_comm] using e) with h | h
        · have : r < w9.heap.size := h.elim (fun e => (HH.out.ov.b.lt r e).1) (fun e => (HH.out.ov.m.lt r e).1)
          omega
        · omega⟩
      rw [eg] at hx
      cases hx
      have hlt : ∀ r, (vb = .map (some r) ∨ vm = .map (some r)) → r < w9.heap.size := fun r hr => hr.elim (fun e => (HH.out.ov.b.lt r e).1) (fun e => (HH.out.ov.m.lt r e).1)
      simp only at e
      rcases e with e | e | e
      · omega
      · have := hlt g (Or.inl e); omega
      · have := hlt g (Or.inr e); omega), fun g hg => ⟨⟨(hgN g hg).1, (hgN g hg).2.1, (hgN g hg).2.2.1, fun r e => by
        rcases HRr.out r (by simpa [eq_comm] using e) with h | h
        · exact (hgN g hg).2.2.2 r h
        · have := hgL g hg; omega⟩, (HgB.out g hg).imp id (fun h => h.1)⟩⟩, ?_⟩
      refine (HC6.out.mono (fun i _ e => e.imp id Or.inl)).trans (HC.out.mono (fun i _ e => ?_))
      rcases e with e | e
      · exact Or.inl e
      · exact Or.inr (Or.inr e)
end Go.Proofs.Ytkhknfohcebicaa.Oct
namespace Go.Proofs.Ytkhknfohcebicaa.Oct
open Go.RowKit Go.Deep Go.Sort

/-- A block that is none of the changes', the journal's and the file's. -/
def Apt (T J : Nat) (X : Nat → Prop) (vb vm : Value) (g : Nat) : Prop := g ≠ T ∧ g ≠ J ∧ ¬ X g ∧ ∀ r, vb = .map (some r) ∨ vm = .map (some r) → g ≠ r

/-- Changes as they stand, what was written ahead, and the bytes that they are held against. -/
structure Plk (w3 w : World) (T J F : Nat) (X : Nat → Prop) (S : List Int) (k : Nat) (v : Value) (Mm : List Int) (B M : Int → List Int) (L : List JR) (vp : Value) (P : List Int) : Prop where
  m : ∃ am cm, v = .slice am Mm.length cm ∧ Sl w am cm Mm ∧ ∀ x, am = some x → x.block < w.heap.size ∧ (x.block < w3.heap.size ∨ (x.block ≠ T ∧ x.block ≠ J ∧ ¬ X x.block))
  by_ : Byts Mm
  lo : 10752 ≤ Mm.length
  hi : Mm.length ≤ 20000
  bel : Below w3.heap.size w3 w
  xlo : ∀ i, X i → w3.heap.size ≤ i
  tlo : w3.heap.size ≤ T
  jlo : w3.heap.size ≤ J
  ml : ∀ s, (M s).length = 512
  st : ∃ f kk nn vb vm va, Txq w T J F X f ⟨S, S, []⟩ kk nn vb vm va B M 512 10752 0 ∧ 1000000 ≤ kk + k ∧ nn ≤ k ∧ L.length ≤ k ∧ OwnK w w3.heap.size va L ∧
    (∀ g, va.ownBlock = some g → Apt T J X vb vm g) ∧ (∀ r, vb = .map (some r) ∨ vm = .map (some r) → w3.heap.size ≤ r) ∧
    (∀ am cm, v = .slice am Mm.length cm → ∀ x, am = some x → w3.heap.size ≤ x.block → some x.block ≠ va.ownBlock ∧ ∀ r, vb = .map (some r) ∨ vm = .map (some r) → x.block ≠ r) ∧
    (∀ r ∈ L, r.b ≠ [] ∧ ∀ x, r.a = some x → Apt T J X vb vm x.block) ∧ w.ownsRow w3.heap.size 3 1 vp P.length (P.map (Value.int .i64)) ∧
    (∀ i, vp.ownBlock = some i → Apt T J X vb vm i ∧ va.ownBlock ≠ some i ∧ (∀ r ∈ L, ∀ x, r.a = some x → x.block ≠ i) ∧ (∀ am cm, v = .slice am Mm.length cm → ∀ x, am = some x → x.block ≠ i))

theorem OwnK.chgP {X : Nat → Prop} {w w' : World} {B : Nat} {v : Value} {R : List JR} (h : OwnK w B v R) (hc : Chg X w w') (hv : ∀ g, v.ownBlock = some g → ¬ X g) (hr : ∀ r ∈ R, ∀ x, r.a = some x → ¬ X x.block) : OwnK w' B v R :=
  ⟨ownsRow_chg h.row hc hv, fun r hm => ⟨(h.far r hm).1.chgQ hc (hr r hm), fun hn => by
    obtain ⟨g, h1, h2, h3, h4⟩ := (h.far r hm).2 hn
    exact ⟨g, h1, h2, Nat.lt_of_lt_of_le h3 hc.size, h4⟩⟩⟩

theorem Plk.below {w3 w w' : World} {T J F : Nat} {X : Nat → Prop} {S : List Int} {k : Nat} {v : Value} {Mm : List Int} {B M : Int → List Int} {L : List JR} {vp : Value} {P : List Int} (h : Plk w3 w T J F X S k v Mm B M L vp P) (hb : Below w.heap.size w w') : Plk w3 w' T J F X S k v Mm B M L vp P := by
  obtain ⟨am, cm, e1, h1, h2⟩ := h.m
  obtain ⟨f, kk, nn, vb, vm, va, hq, a1, a2, a3, a4, a5, a6, a7, a8, a9, aY⟩ := h.st
  exact ⟨⟨am, cm, e1, h1.below hb, fun x hx => ⟨Nat.lt_of_lt_of_le (h2 x hx).1 hb.size, (h2 x hx).2⟩⟩, h.by_, h.lo, h.hi, h.bel.trans (hb.mono h.bel.size), h.xlo, h.tlo, h.jlo, h.ml, f, kk, nn, vb, vm, va, hq.below hb, a1, a2, a3, a4.below hb, a5, a6, a7, a8, World.ownsRow.kept (row := none) a9 ⟨hb.os, hb.tape, hb.output, hb.size, fun k hk _ => hb.block k hk⟩ (by cases vp.ownBlock <;> simp), aY⟩

theorem Plk.more {w3 w : World} {T J F : Nat} {X : Nat → Prop} {S : List Int} {k : Nat} {v : Value} {Mm : List Int} {B M : Int → List Int} {L : List JR} {vp : Value} {P : List Int} (h : Plk w3 w T J F X S k v Mm B M L vp P) : Plk w3 w T J F X S (k + 1) v Mm B M L vp P := by
  obtain ⟨f, kk, nn, vb, vm, va, hq, a1, a2, a3, a4, a5, a6, a7, a8, a9, aY⟩ := h.st
  exact ⟨h.m, h.by_, h.lo, h.hi, h.bel, h.xlo, h.tlo, h.jlo, h.ml, f, kk, nn, vb, vm, va, hq, by omega, by omega, by omega, a4, a5, a6, a7, a8, a9, aY⟩

theorem plk_put {w3 w : World} {T J F : Nat} {X : Nat → Prop} {S : List Int} {k : Nat} {v : Value} {Mm : List Int} {B M : Int → List Int} {L : List JR} {vp : Value} {P : List Int} (h : Plk w3 w T J F X S k v Mm B M L vp P) (a : Option Addr) (cap : Nat) (pl : List Int) (hl : Lies w3 a pl) (hcap : pl.length ≤ cap ∧ cap ≤ 9223372036854775807) (t : Nat) (htn : t + pl.length ≤ 4194304) :
    Calls Try.prog 11 #[.pointer (some ⟨T, 0, none⟩), .int .i64 t, .slice a pl.length cap] w fun e w' => e = .returned (.int .i64 0) ∧ ∃ B' M', Plk w3 w' T J F X S (k + 1) v Mm B' M' L vp P ∧ Laid B M B' M' t pl.length pl 2 := by
  obtain ⟨am, cm, e1, h1, h2⟩ := h.m
  obtain ⟨f, kk, nn, vb, vm, va, hq, a1, a2, a3, a4, a5, a6, a7, a8, a9, aY⟩ := h.st
  have hs3 := h.bel.size
  refine (put_q w T J F X f _ kk nn vb vm va B M 512 10752 0 hq a cap pl.length pl rfl (hl.below h.bel) hcap (fun h0 x hx => ?_) t htn).mono ?_
  · have hxb : x.block < w3.heap.size := by
      rcases hl with h9 | ⟨b, off, e, hb, _⟩
      · rw [h9] at h0; simp at h0
      · rw [hx] at e; cases e; exact hb
    exact ⟨by have := h.tlo; omega, fun r hr => by have := a6 r hr; omega⟩
  rintro e w' ⟨rfl, ⟨vb', vm', B', M', hq', hla, hmp⟩, hc⟩
  have hX : ∀ i, i < w3.heap.size → ¬ (i = T ∨ vb = .map (some i) ∨ vm = .map (some i)) := fun i hi e => by
    rcases e with e | e | e
    · have := h.tlo; omega
    · have := a6 i (Or.inl e); omega
    · have := a6 i (Or.inr e); omega
  have hmx : ∀ x, am = some x → ¬ (x.block = T ∨ vb = .map (some x.block) ∨ vm = .map (some x.block)) := fun x hx e => by
    rcases (h2 x hx).2 with h3 | h3
    · exact hX _ h3 e
    · by_cases hlt : x.block < w3.heap.size
      · exact hX _ hlt e
      · have h7 := a7 am cm e1 x hx (by omega)
        rcases e with e | e | e
        · exact h3.1 e
        · exact h7.2 _ (Or.inl e) rfl
        · exact h7.2 _ (Or.inr e) rfl
  have hap : ∀ g, Apt T J X vb vm g → ¬ (g = T ∨ vb = .map (some g) ∨ vm = .map (some g)) := fun g h5 e => by
    rcases e with e | e | e
    · exact h5.1 e
    · exact h5.2.2.2 g (Or.inl e) rfl
    · exact h5.2.2.2 g (Or.inr e) rfl
  have hmp2 : ∀ r, vb' = .map (some r) ∨ vm' = .map (some r) → (vb = .map (some r) ∨ vm = .map (some r)) ∨ w.heap.size ≤ r := hmp
  have hap2 : ∀ g, g < w.heap.size → Apt T J X vb vm g → Apt T J X vb' vm' g := fun g hg h5 => ⟨h5.1, h5.2.1, h5.2.2.1, fun r hr => by
    rcases hmp2 r hr with h9 | h9
    · exact h5.2.2.2 r h9
    · omega⟩
  have hlr : ∀ r ∈ L, ∀ x, r.a = some x → x.block < w.heap.size := fun r hr x hx => by
    obtain ⟨g, g1, g2, g3, g4⟩ := (a4.far r hr).2 (a8 r hr).1
    rw [hx] at g1; cases g1; exact g3
  refine ⟨rfl, B', M', ⟨⟨am, cm, e1, h1.chgQ hc hmx, fun x hx => ⟨Nat.lt_of_lt_of_le (h2 x hx).1 hc.size, (h2 x hx).2⟩⟩, h.by_, h.lo, h.hi, h.bel.trans (hc.below _ hs3 hX), h.xlo, h.tlo, h.jlo, hq'.ov.ml, f, kk, nn, vb', vm', va, hq', by omega, by omega, by omega, a4.chgP hc (fun g hg => hap g (a5 g hg)) (fun r hr x hx => hap _ ((a8 r hr).2 x hx)), fun g hg => hap2 g (World.ownsRow.lt a4.row g hg).2 (a5 g hg), fun r hr => ?_, fun am' cm' e2 x hx hlo => ?_, fun r hr => ⟨(a8 r hr).1, fun x hx => hap2 _ (hlr r hr x hx) ((a8 r hr).2 x hx)⟩, ownsRow_chg a9 hc (fun g hg => hap g (aY g hg).1), fun i hi => ⟨hap2 i (World.ownsRow.lt a9 i hi).2 (aY i hi).1, (aY i hi).2⟩⟩, hla⟩
  · rcases hmp2 r hr with h9 | h9
    · exact a6 r h9
    · omega
  · have h7 := a7 am' cm' e2 x hx hlo
    refine ⟨h7.1, fun r hr => ?_⟩
    rcases hmp2 r hr with h9 | h9
    · exact h7.2 r h9
    · have e3 : am' = am := by rw [e1] at e2; simp only [Value.slice.injEq] at e2; exact e2.1.symm
      have := (h2 x (e3 ▸ hx)).1
      omega

/-- Other bytes to be held against. -/
theorem Plk.new {w3 w w' : World} {T J F : Nat} {X : Nat → Prop} {S : List Int} {k : Nat} {v : Value} {Mm : List Int} {B M : Int → List Int} {L : List JR} {vp : Value} {P : List Int} (h : Plk w3 w T J F X S k v Mm B M L vp P) (hb : Below w.heap.size w w') {v' : Value} {l : List Int} (ho : Own w' w.heap.size v' l) (hby : Byts l) (h1 : 10752 ≤ l.length) (h2 : l.length ≤ 20000) : Plk w3 w' T J F X S k v' l B M L vp P := by
  have hp := h.below hb
  obtain ⟨f, kk, nn, vb, vm, va, hq, a1, a2, a3, a4, a5, a6, a7, a8, a9, aY⟩ := h.st
  obtain ⟨a', c', e1, hs', hg'⟩ := ho.sl
  obtain ⟨g, rfl, hg1, hg2⟩ := hg' (fun e => by rw [e] at h1; simp at h1)
  have hXl := hq.fl.x
  refine ⟨⟨_, _, e1, hs', fun x hx => ?_⟩, hby, h1, h2, hp.bel, h.xlo, h.tlo, h.jlo, h.ml, f, kk, nn, vb, vm, va, hq.below hb, a1, a2, a3, a4.below hb, a5, a6, fun am cm e2 x hx _ => ?_, a8, World.ownsRow.kept (row := none) a9 ⟨hb.os, hb.tape, hb.output, hb.size, fun k hk _ => hb.block k hk⟩ (by cases vp.ownBlock <;> simp), fun i hi => ⟨(aY i hi).1, (aY i hi).2.1, (aY i hi).2.2.1, fun am cm e2 x hx e => ?_⟩⟩
  · cases hx
    refine ⟨hg2, Or.inr ⟨?_, ?_, ?_⟩⟩
    · have := hq.tx.lt; simp; omega
    · have := hq.jr.lt; simp; omega
    · intro e; have := hXl _ e; simp at this; omega
  · rw [e1] at e2
    simp only [Value.slice.injEq] at e2
    have hx2 : x = ⟨g, 0, none⟩ := by have := e2.1; rw [hx] at this; simpa using this.symm
    subst hx2
    refine ⟨fun e => ?_, fun r hr => ?_⟩
    · have := (World.ownsRow.lt a4.row g e.symm).2; omega
    · have : r < w.heap.size := hr.elim (fun e => (hq.ov.b.lt r e).1) (fun e => (hq.ov.m.lt r e).1)
      simp; omega
  · rw [e1] at e2
    simp only [Value.slice.injEq] at e2
    have hx2 : x = ⟨g, 0, none⟩ := by have := e2.1; rw [hx] at this; simpa using this.symm
    subst hx2
    have := (World.ownsRow.lt a9 i hi).2
    simp only at e
    omega

/-- One more number behind the row of the law's own. -/
theorem Plk.grow {w3 w w' : World} {T J F : Nat} {X : Nat → Prop} {S : List Int} {k : Nat} {v : Value} {Mm : List Int} {B M : Int → List Int} {L : List JR} {vp vp' : Value} {P P' : List Int} (h : Plk w3 w T J F X S k v Mm B M L vp P) (hg : w.grownBy w' vp.ownBlock) (hr : w'.ownsRow w3.heap.size 3 1 vp' P'.length (P'.map (Value.int .i64))) (hb : vp'.ownBlock = vp.ownBlock ∨ vp'.ownBlock = some w.heap.size) : Plk w3 w' T J F X S k v Mm B M L vp' P' := by
  obtain ⟨am, cm, e1, h1, h2⟩ := h.m
  obtain ⟨f, kk, nn, vb, vm, va, hq, a1, a2, a3, a4, a5, a6, a7, a8, a9, aY⟩ := h.st
  have hs3 := h.bel.size
  have hc : Chg (fun i => some i = vp.ownBlock) w w' := Chg.of_grown hg
  have hlo : ∀ i, some i = vp.ownBlock → w3.heap.size ≤ i := fun i hi => (World.ownsRow.lt a9 i hi.symm).1
  have hlr : ∀ r ∈ L, ∀ x, r.a = some x → x.block < w.heap.size := fun r hr x hx => by
    obtain ⟨g, g1, g2, g3, g4⟩ := (a4.far r hr).2 (a8 r hr).1
    rw [hx] at g1; cases g1; exact g3
  have hXl := hq.fl.x
  refine ⟨⟨am, cm, e1, h1.chgQ hc (fun x hx e => (aY _ e.symm).2.2.2 am cm e1 x hx rfl), fun x hx => ⟨Nat.lt_of_lt_of_le (h2 x hx).1 hc.size, (h2 x hx).2⟩⟩, h.by_, h.lo, h.hi, h.bel.trans (hc.below _ hs3 (fun i hi e => by have := hlo i e; omega)), h.xlo, h.tlo, h.jlo, h.ml, f, kk, nn, vb, vm, va, hq.chg hc (fun e => (aY _ e.symm).1.1 rfl) (fun e => (aY _ e.symm).1.2.1 rfl) (fun r hr e => (aY _ e.symm).1.2.2.2 r hr rfl) (fun i _ hX e => (aY _ e.symm).1.2.2.1 hX), a1, a2, a3, a4.chgP hc (fun g hg e => (aY _ e.symm).2.1 hg) (fun r hr x hx e => (aY _ e.symm).2.2.1 r hr x hx rfl), a5, a6, a7, a8, hr, fun i hi => ?_⟩
  rcases hb with hb | hb
  · rw [hb] at hi
    exact aY i hi
  · rw [hb] at hi
    cases hi
    refine ⟨⟨?_, ?_, fun e => ?_, fun r hr e => ?_⟩, fun e => ?_, fun r hr x hx e => ?_, fun am' cm' e2 x hx e => ?_⟩
    · have := hq.tx.lt; omega
    · have := hq.jr.lt; omega
    · have := hXl _ e; omega
    · have : r < w.heap.size := hr.elim (fun e => (hq.ov.b.lt r e).1) (fun e => (hq.ov.m.lt r e).1)
      omega
    · have := (World.ownsRow.lt a4.row _ e).2; omega
    · have := hlr r hr x hx; omega
    · have e3 : am' = am := by rw [e1] at e2; simp only [Value.slice.injEq] at e2; exact e2.1.symm
      have := (h2 x (e3 ▸ hx)).1
      omega

theorem plk_fresh {w3 w : World} {T J F : Nat} {X : Nat → Prop} {S : List Int} {k : Nat} {v : Value} {Mm : List Int} {B M : Int → List Int} {L : List JR} {vp : Value} {P : List Int} (h : Plk w3 w T J F X S k v Mm B M L vp P) (hk : k ≤ 100) (a : Option Addr) (cap : Nat) (pl : List Int) (hl : Lies w3 a pl) (hcap : pl.length ≤ cap ∧ cap ≤ 9223372036854775807) (t : Nat) (htn : t + pl.length ≤ 4194304) (h512 : t % 512 = 0) :
    Calls Try.prog 12 #[.pointer (some ⟨T, 0, none⟩), .int .i64 t, .slice a pl.length cap] w fun e w' => e = .returned (.int .i64 0) ∧ ∃ B' M' L', Plk w3 w' T J F X S (k + 1) v Mm B' M' L' vp P ∧ Laid B M B' M' t pl.length pl 1 ∧ ((pl = [] ∧ L' = L) ∨ (pl ≠ [] ∧ ∃ aC cC, L' = L ++ [⟨(t : Int), aC, cC, pl⟩])) := by
  obtain ⟨am, cm, e1, h1, h2⟩ := h.m
  obtain ⟨f, kk, nn, vb, vm, va, hq, a1, a2, a3, a4, a5, a6, a7, a8, a9, aY⟩ := h.st
  have hs3 := h.bel.size
  by_cases h0 : pl = []
  · subst h0
    refine (fresh_none w T J vb vm va hq.tx t a cap (by omega) h512).mono ?_
    rintro e w' ⟨rfl, rfl⟩
    exact ⟨rfl, B, M, L, h.more, Laid.start B M t [] 1, Or.inl ⟨rfl, rfl⟩⟩
  have h0' := List.length_pos_iff.2 h0
  have hxb : ∀ x, a = some x → x.block < w3.heap.size := fun x hx => by
    rcases hl with h9 | ⟨b, off, e, hb, _⟩
    · exact absurd h9 h0
    · rw [hx] at e; cases e; exact hb
  refine (fresh_k w T J F X f _ kk nn vb vm va B M 512 10752 0 hq w3.heap.size L.length _ a4.row hs3 (by omega) a5 a cap pl.length pl rfl h0' (hl.below h.bel) hcap (fun x hx => ⟨by have := hxb x hx; have := h.tlo; omega, fun e => by have := (World.ownsRow.lt a4.row x.block e.symm).1; have := hxb x hx; omega, fun r hr => by have := a6 r hr; have := hxb x hx; omega⟩) t htn h512).mono ?_
  rintro e w' ⟨rfl, ⟨vb', vm', va', B', M', hq', hla, hmp, ⟨aC, cC, gC, hoC, hsC, eC, hC1, hC2, hC3, hC4⟩, hsp⟩, hc⟩
  have hX : ∀ i, i < w3.heap.size → ¬ (i = T ∨ some i = va.ownBlock ∨ vb = .map (some i) ∨ vm = .map (some i)) := fun i hi e => by
    rcases e with e | e | e | e
    · have := h.tlo; omega
    · have := (World.ownsRow.lt a4.row i e.symm).1; omega
    · have := a6 i (Or.inl e); omega
    · have := a6 i (Or.inr e); omega
  have hmx : ∀ x, am = some x → ¬ (x.block = T ∨ some x.block = va.ownBlock ∨ vb = .map (some x.block) ∨ vm = .map (some x.block)) := fun x hx e => by
    by_cases hlt : x.block < w3.heap.size
    · exact hX _ hlt e
    · have h7 := a7 am cm e1 x hx (by omega)
      rcases (h2 x hx).2 with h3 | h3
      · omega
      · rcases e with e | e | e | e
        · exact h3.1 e
        · exact h7.1 e
        · exact h7.2 _ (Or.inl e) rfl
        · exact h7.2 _ (Or.inr e) rfl
  have hrg : ∀ r ∈ L, ∃ g, r.a = some ⟨g, 0, none⟩ ∧ w3.heap.size ≤ g ∧ g < w.heap.size ∧ va.ownBlock ≠ some g := fun r hr => (a4.far r hr).2 (a8 r hr).1
  have hrn : ∀ r ∈ L, ∀ x, r.a = some x → ¬ (x.block = T ∨ some x.block = va.ownBlock ∨ vb = .map (some x.block) ∨ vm = .map (some x.block)) := fun r hr x hx e => by
    have h5 := (a8 r hr).2 x hx
    obtain ⟨g, g1, g2, g3, g4⟩ := hrg r hr
    rw [hx] at g1
    cases g1
    rcases e with e | e | e | e
    · exact h5.1 e
    · exact g4 e.symm
    · exact h5.2.2.2 _ (Or.inl e) rfl
    · exact h5.2.2.2 _ (Or.inr e) rfl
  have hap2 : ∀ g, g < w.heap.size → Apt T J X vb vm g → Apt T J X vb' vm' g := fun g hg h5 => ⟨h5.1, h5.2.1, h5.2.2.1, fun r hr => by
    rcases hmp r hr with h9 | h9
    · exact h5.2.2.2 r h9
    · omega⟩
  have hvpn : ∀ g, vp.ownBlock = some g → ¬ (g = T ∨ some g = va.ownBlock ∨ vb = .map (some g) ∨ vm = .map (some g)) := fun g hg e => by
    have h5 := aY g hg
    rcases e with e | e | e | e
    · exact h5.1.1 e
    · exact h5.2.1 e.symm
    · exact h5.1.2.2.2 g (Or.inl e) rfl
    · exact h5.1.2.2.2 g (Or.inr e) rfl
  have hXl := hq.fl.x
  have hok : OwnK w' w3.heap.size va' (L ++ [⟨(t : Int), aC, cC, pl⟩]) := by
    refine ⟨?_, fun r hr => ?_⟩
    · rw [List.length_append, List.flatMap_append]
      simpa [JR.cells] using hoC
    · rcases List.mem_append.1 hr with hr | hr
      · refine ⟨(a4.far r hr).1.chgQ hc (hrn r hr), fun _ => ?_⟩
        obtain ⟨g, g1, g2, g3, g4⟩ := hrg r hr
        refine ⟨g, g1, g2, Nat.lt_of_lt_of_le g3 hc.size, fun e => ?_⟩
        rcases (hsp g e).2 with h9 | h9
        · exact g4 h9
        · omega
      · simp only [List.mem_singleton] at hr
        subst hr
        exact ⟨hsC, fun _ => ⟨gC, eC, by omega, hC2, hC3⟩⟩
  refine ⟨rfl, B', M', L ++ [⟨(t : Int), aC, cC, pl⟩], ⟨⟨am, cm, e1, h1.chgQ hc hmx, fun x hx => ⟨Nat.lt_of_lt_of_le (h2 x hx).1 hc.size, (h2 x hx).2⟩⟩, h.by_, h.lo, h.hi, h.bel.trans (hc.below _ hs3 hX), h.xlo, h.tlo, h.jlo, hq'.ov.ml, f, kk, nn, vb', vm', va', hq', by omega, by omega, by simp; omega, hok, fun g hg => (hsp g hg).1, fun r hr => ?_, fun am' cm' e2 x hx hlo => ?_, fun r hr => ?_, ownsRow_chg a9 hc hvpn, fun i hi => ⟨hap2 i (World.ownsRow.lt a9 i hi).2 (aY i hi).1, fun e => ?_, fun r hr x hx e => ?_, (aY i hi).2.2.2⟩⟩, hla, Or.inr ⟨h0, aC, cC, rfl⟩⟩
  · rcases hmp r hr with h9 | h9
    · exact a6 r h9
    · omega
  · have h7 := a7 am' cm' e2 x hx hlo
    have e3 : am' = am := by rw [e1] at e2; simp only [Value.slice.injEq] at e2; exact e2.1.symm
    have hlt := (h2 x (e3 ▸ hx)).1
    refine ⟨fun e => ?_, fun r hr => ?_⟩
    · rcases (hsp x.block e.symm).2 with h9 | h9
      · exact h7.1 h9.symm
      · omega
    · rcases hmp r hr with h9 | h9
      · exact h7.2 r h9
      · omega
  · rcases List.mem_append.1 hr with hr | hr
    · refine ⟨(a8 r hr).1, fun x hx => hap2 _ ?_ ((a8 r hr).2 x hx)⟩
      obtain ⟨g, g1, g2, g3, g4⟩ := hrg r hr
      rw [hx] at g1
      cases g1
      exact g3
    · simp only [List.mem_singleton] at hr
      subst hr
      refine ⟨h0, fun x hx => ?_⟩
      simp only at hx
      rw [eC] at hx
      cases hx
      refine ⟨?_, ?_, fun e => ?_, fun r' hr' => hC4 r' hr'⟩
      · have := hq.tx.lt; simp only; omega
      · have := hq.jr.lt; simp only; omega
      · have := hXl _ e; simp only at this; omega
  · have hil := (World.ownsRow.lt a9 i hi).2
    rcases (hsp i e).2 with h9 | h9
    · exact (aY i hi).2.1 h9
    · omega
  · have hil := (World.ownsRow.lt a9 i hi).2
    rcases List.mem_append.1 hr with hr | hr
    · exact (aY i hi).2.2.1 r hr x hx e
    · simp only [List.mem_singleton] at hr
      subst hr
      simp only at hx
      rw [eC] at hx
      cases hx
      simp only at e
      omega

/-- What the changes are, beside the memory: what was written ahead, the marks, the sectors that were put. -/
structure Pur (S : List Int) (B M : Int → List Int) (D : List RD) (P : List Int) : Prop where
  ah : AhdOk S D B M
  m2 : Mk2 M
  put : ∀ s : Int, s ∈ P ↔ 2 ∈ M s
  lim : ∀ s : Int, s ∈ P → 21 ≤ s ∧ s < 36
  at_ : ∀ r ∈ D, 10752 ≤ r.1 ∧ r.1 + r.2.length ≤ 18252 ∧ r.2.length ≤ 1500 ∧ Byts r.2

theorem nob_pur (S : List Int) : Pur S nobM nobM [] [] :=
  ⟨fun i _ => by unfold seeT; rw [nob_val]; rfl, fun q => by rw [nob_mk]; omega, fun s => ⟨fun h => (by cases h), fun h => absurd h (nob_no s)⟩, fun s h => (by cases h), fun r h => (by cases h)⟩

/-- The sectors of bytes at a place. -/
def secsP (t m : Nat) : List Int := if m = 0 then [] else (List.range ((t + m + 511) / 512 - t / 512)).map (fun i => ((t / 512 + i : Nat) : Int))

theorem secsP_mem (t m : Nat) (s : Int) : s ∈ secsP t m ↔ ∃ q : Nat, t ≤ q ∧ q < t + m ∧ ((q / 512 : Nat) : Int) = s := by
  unfold secsP
  by_cases h : m = 0
  · rw [if_pos h]
    constructor
    · intro h; cases h
    · rintro ⟨q, h1, h2, _⟩; omega
  · rw [if_neg h, List.mem_map]
    constructor
    · rintro ⟨i, hi, rfl⟩
      rw [List.mem_range] at hi
      refine ⟨max t (512 * (t / 512 + i)), by omega, by omega, ?_⟩
      congr 1
      omega
    · rintro ⟨q, h1, h2, rfl⟩
      exact ⟨q / 512 - t / 512, by rw [List.mem_range]; omega, by congr 1; omega⟩

theorem Pur.put_ {S : List Int} {B M B' M' : Int → List Int} {D : List RD} {P : List Int} {t : Nat} {pl : List Int} (h : Pur S B M D P) (hl : ∀ s, (M s).length = 512) (hl' : ∀ s, (M' s).length = 512) (hla : Laid B M B' M' t pl.length pl 2) (ht : 10752 ≤ t) (ht2 : t + pl.length ≤ 18252) : Pur S B' M' D (P ++ secsP t pl.length) := by
  have hin : ∀ s ∈ secsP t pl.length, 21 ≤ s ∧ s < 36 := fun s hs => by
    obtain ⟨q, h1, h2, rfl⟩ := (secsP_mem t _ s).1 hs
    omega
  refine ⟨h.ah.put hl hl' h.m2 hla, h.m2.laid (by omega) hla, fun s => ?_, fun s hs => ?_, h.at_⟩
  · rw [List.mem_append, h.put s, secsP_mem]
    by_cases hs : 0 ≤ s ∧ s < 8192
    · obtain ⟨n, rfl⟩ := Int.eq_ofNat_of_zero_le hs.1
      rw [laid_two hl hl' h.m2 hla n]
      constructor
      · rintro (h9 | ⟨q, h1, h2, h3⟩)
        · exact Or.inl h9
        · exact Or.inr ⟨q, h1, h2, by omega⟩
      · rintro (h9 | ⟨q, h1, h2, h3⟩)
        · exact Or.inl h9
        · exact Or.inr ⟨q, h1, h2, by omega⟩
    · rw [hla.2.2 s hs]
      constructor
      · rintro (h9 | ⟨q, h1, h2, h3⟩)
        · exact h9
        · omega
      · intro h9
        exact Or.inl h9
  · rcases List.mem_append.1 hs with hs | hs
    · exact h.lim s hs
    · exact hin s hs

theorem Pur.fresh_ {S : List Int} {B M B' M' : Int → List Int} {D : List RD} {P : List Int} {t : Nat} {pl : List Int} (h : Pur S B M D P) (hl : ∀ s, (M s).length = 512) (hl' : ∀ s, (M' s).length = 512) (hla : Laid B M B' M' t pl.length pl 1) (ht : 10752 ≤ t) (ht2 : t + pl.length ≤ 18252) (hp : pl.length ≤ 1500) (hby : Byts pl) : Pur S B' M' (D ++ [((t : Int), pl)]) P := by
  refine ⟨h.ah.fresh hl hl' hla, h.m2.laid (by omega) hla, fun s => ?_, h.lim, fun r hr => ?_⟩
  · rw [h.put s]
    by_cases hs : 0 ≤ s ∧ s < 8192
    · obtain ⟨n, rfl⟩ := Int.eq_ofNat_of_zero_le hs.1
      rw [laid_one hl hl' hla n]
    · rw [hla.2.2 s hs]
  · rcases List.mem_append.1 hr with hr | hr
    · exact h.at_ r hr
    · simp only [List.mem_singleton] at hr
      subst hr
      exact ⟨by simp only; omega, by simp only; omega, hp, hby⟩

theorem Pur.skip_ {S : List Int} {B M B' M' : Int → List Int} {D : List RD} {P : List Int} {t : Nat} {by_ : Int} (h : Pur S B M D P) (hl : ∀ s, (M s).length = 512) (hl' : ∀ s, (M' s).length = 512) (hla : Laid B M B' M' t 0 [] by_) (hb : by_ ≤ 2) : Pur S B' M' D P := by
  refine ⟨h.ah.skip hl hl' hla, h.m2.laid hb hla, fun s => ?_, h.lim, h.at_⟩
  rw [h.put s]
  by_cases hs : 0 ≤ s ∧ s < 8192
  · obtain ⟨n, rfl⟩ := Int.eq_ofNat_of_zero_le hs.1
    rw [mem_mk hl, mem_mk hl']
    have e : ∀ q, mkT M' q = mkT M q := fun q => by rw [hla.2.1 q, if_neg (by omega)]
    simp only [e]
  · rw [hla.2.2 s hs]
end Go.Proofs.Ytkhknfohcebicaa.Oct
namespace Go.Proofs.Ytkhknfohcebicaa.Oct
open Go.RowKit Go.Deep Go.Sort

set_option maxRecDepth 100000 in
theorem ahead_none (w : World) (t : Value) (a : Option Addr) (c : Nat) : Calls Try.prog 37 #[t, .slice a 0 c] w fun e w' => e = .returned (.int .i64 0) ∧ w' = w := by
  go_enter Try.func37, Try.ntmps37
  go_wp2_with fail
  go_ret
  exact ⟨rfl, rfl⟩

theorem ahead_all (w : World) (T J F p q : Nat) (nu : Int) (vb vm va : Value) (d : Bool) (ht : Txs w T J vb vm va d) (hJ : Jrn w J F p q nu) (X : Nat → Prop) (f : Fs) (A : A3) (k n : Nat) (h : Fl w X F f A k n) (hXT : ¬ X T) (hXJ : ¬ X J) (a : Option Addr) (cap : Nat) (R : List JR) (hR : LiesJ w a R) (hap : ApJ X a R)
    (hat : ∀ r ∈ R, 0 ≤ r.at_ ∧ r.at_ + r.b.length ≤ 4194304) (hn : R.length ≤ 1000000) (hlen : lenD (R.map JR.dat) ≤ 100000) (hnn : n ≤ 400000) :
    Calls Try.prog 37 #[.pointer (some ⟨T, 0, none⟩), .slice a R.length cap] w fun e w' => e = .returned (.int .i64 (cod (ahdO (R.map JR.dat)).length k)) ∧ Ran w w' X F A k n (ahdO (R.map JR.dat)) := by
  by_cases hR0 : R = []
  · subst hR0
    refine (ahead_none w _ a cap).mono ?_
    rintro e w' ⟨rfl, rfl⟩
    exact ⟨rfl, Ran.nil h⟩
  · have e : ahdO (R.map JR.dat) = recO (R.map JR.dat) ++ [.fl] := by
      unfold ahdO
      rw [if_neg (fun e => hR0 (by simpa using e))]
    rw [e]
    have hl : (recO (R.map JR.dat) ++ [AO.fl]).length = R.length + 1 := by simp [recO_length]
    rw [hl]
    exact ahead_any w T J F p q nu vb vm va d ht hJ X f A k n h hXT hXJ a cap R hR hap (List.length_pos_iff.2 hR0) hat hn hlen hnn

set_option maxRecDepth 100000 in
set_option maxHeartbeats 8000000 in
theorem commit_a (w : World) (T J F : Nat) (X : Nat → Prop) (f : Fs) (A : A3) (k n : Nat) (vb vm : Value) (aA : Option Addr) (cA : Nat) (L0 : List JR) (B M : Int → List Int) (p q : Nat) (nu : Int) (h : Txq w T J F X f A k n vb vm (.slice aA L0.length cA) B M p q nu) (hLi : LiesJ w aA L0) (hAp : ApJ (fun i => X i ∨ i = T) aA L0) (hL0 : L0.length ≤ 1000) (hLat : ∀ r ∈ L0, 0 ≤ r.at_ ∧ r.at_ + r.b.length ≤ 4194304) (hLd : lenD (L0.map JR.dat) ≤ 90000) (hn : n ≤ 100000) (hp : p + 1024 ≤ q) (hq : q ≤ 4194304) (hqp : q - p ≤ 90000) (hM : ∀ s : Int, ¬ (0 ≤ s ∧ s < 8192) → ¬ 2 ∈ M s) (hno : ∀ r ∈ runsM M, ¬ (r.1 < q ∧ (p : Int) < r.2)) (hsee : ∀ i, 0 ≤ seeT A.S B M i ∧ seeT A.S B M i < 256) :
    Calls Try.prog 17 #[.pointer (some ⟨T, 0, none⟩)] w fun e w' =>
      ((q : Int) - ((p : Int) + 512) < sizeR (runsM M) ∧ e = .returned (.int .i64 15) ∧ Below w.heap.size w w') ∨
      (sizeR (runsM M) ≤ (q : Int) - ((p : Int) + 512) ∧ ¬ rdR A.S (runsM M) ≤ k ∧ e = .returned (.int .i64 5) ∧ (∃ f' n', Fl w' X F f' A 0 n' ∧ n' ≤ n + 8192 ∧ Jrn w' J F p q nu) ∧ Chg X w w') ∨
      (sizeR (runsM M) ≤ (q : Int) - ((p : Int) + 512) ∧ rdR A.S (runsM M) ≤ k ∧ e = .returned (.int .i64 (cod (ahdO (L0.map JR.dat) ++ txO p nu (recsM A.S B M)).length (k - rdR A.S (runsM M)))) ∧ Txs w' T J (.map none) (.map none) (.slice none 0 0) true ∧
        ∃ nu' n', n' ≤ n + 8192 ∧ ∃ X' f', Fl w' X' F f' (doAll ((ahdO (L0.map JR.dat) ++ txO p nu (recsM A.S B M)).take (k - rdR A.S (runsM M))) A) (k - rdR A.S (runsM M) - (ahdO (L0.map JR.dat) ++ txO p nu (recsM A.S B M)).length) (n' + costs (ahdO (L0.map JR.dat) ++ txO p nu (recsM A.S B M))) ∧ (∀ q, X' q → X q ∨ w.heap.size ≤ q) ∧ Chg (fun i => X i ∨ i = J ∨ i = T) w w' ∧ Jrn w' J F p q nu' ∧ ¬ X' J) := by
  have HH := hide h
  have HLi := hide hLi
  have HAp := hide hAp
  have HLat := hide hLat
  have HOp := hide (open_tx w T J vb vm _ h.tx)
  have HSz := fun u (hu : Below w.heap.size w u) => hide (size_q u T J vb vm _ false B M (h.below hu).tx (h.below hu).ov h.mm hM)
  have HRo := fun u (hu : Below w.heap.size w u) => hide (room_j u J F p q nu (h.below hu).jr hp hq)
  have HRe := fun u (hu : Below w.heap.size w u) => hide (records_q u T J F X f A k n vb vm _ B M p q nu (h.below hu) (by omega) hp hM hno)
  have HBd := hide (runsM_bd M)
  have hRl := runsM_len M
  have HNo := hide hno
  have HSee := hide hsee
  have HLn := hide (recs_len A.S B M (runsM M) (runsM_bd M))
  have HXl := hide h.fl.x
  have hTl := h.tx.lt
  have hS0 : (fun u : World => u.cell? ⟨T, 0, none⟩ = some (.pointer (some ⟨J, 0, none⟩))) w.drew := h.tx.cell.1
  have hd0 : Below w.heap.size w w.drew := (Below.refl _ _).drew
  have hsb := (sizeR_bd _ (runsM_bd M))
  clear hno h hM hsee hLi hAp hLat
  obtain ⟨D0, hD0⟩ : ∃ D0, D0 = L0.map JR.dat := ⟨_, rfl⟩
  rw [← hD0] at hLd ⊢
  have HD0 := hide hD0
  clear hD0
  unfold recsM at *
  generalize runsM M = R at *
  go_enter Try.func17, Try.ntmps17
  go_wp2_with fail
  refine HOp.out.mono ?_
  rintro e9 w9 ⟨rfl, h9⟩
  subst h9
  go_wp2_with fail
  refine wp_region_held_drew (S := (fun u : World => u.cell? ⟨T, 0, none⟩ = some (.pointer (some ⟨J, 0, none⟩)))) (by kernel_rfl) hS0 (fun _ => ?_)
  refine any_take 0 (some 14) (.pointer (some ⟨T, 0, none⟩)) rfl rfl (by kernel_rfl) (by kernel_rfl) (by kernel_rfl) (fun _ _ _ h => h) (by rfl) hS0 ?_ ?_
  · intro u hSu
    go_simp
  simp only [Act.put, List.setIfInBounds_toArray, List.set_cons_zero, List.set_cons_succ]
  refine any_take 2 (some 16) (.pointer (some ⟨T, 0, none⟩)) rfl rfl (by kernel_rfl) (by kernel_rfl) (by kernel_rfl) (fun _ _ _ h => h) (by rfl) hS0 ?_ ?_
  · intro u hSu
    go_simp
  simp only [Act.put, List.setIfInBounds_toArray, List.set_cons_zero, List.set_cons_succ]
  refine any_take 3 (some 17) (.pointer (some ⟨T, 0, none⟩)) rfl rfl (by kernel_rfl) (by kernel_rfl) (by kernel_rfl) (fun _ _ _ h => h) (by rfl) hS0 ?_ ?_
  · intro u hSu
    go_simp
  simp only [Act.put, List.setIfInBounds_toArray, List.set_cons_zero, List.set_cons_succ]
  refine any_take 4 (some 18) (.pointer (some ⟨T, 0, none⟩)) rfl rfl (by kernel_rfl) (by kernel_rfl) (by kernel_rfl) (fun _ _ _ h => h) (by rfl) hS0 ?_ ?_
  · intro u hSu
    go_simp
  simp only [Act.put, List.setIfInBounds_toArray, List.set_cons_zero, List.set_cons_succ]
  refine any_take 5 (some 19) (.pointer (some ⟨J, 0, none⟩)) rfl rfl (by kernel_rfl) (by kernel_rfl) (by kernel_rfl) (fun _ _ _ h => h) (by rfl) hS0 ?_ ?_
  · intro u hSu
    go_simp
  simp only [Act.put, List.setIfInBounds_toArray, List.set_cons_zero, List.set_cons_succ]
  refine wpAnyH_ready (rs := [1]) (by kernel_rfl) (by simp) ?_
  refine AllReadyH.cons (i := 1) rfl (fun K hK => ?_) AllReadyH.nil
  go_simp
  refine ((HSz _ hd0).out).mono ?_
  rintro e9 wA ⟨rfl, hbA⟩
  have hbwA := hd0.trans (hbA.mono hd0.size)
  go_simp
  refine hK.out _ _ (show (fun u : World => u.cell? ⟨T, 0, none⟩ = some (.pointer (some ⟨J, 0, none⟩))) wA from (hbwA.cell (p := ⟨T, 0, none⟩) hTl).trans hS0) (fun _ => ?_)
  clear hK K
  try simp only [Act.put, List.setIfInBounds_toArray, List.set_cons_zero, List.set_cons_succ]
  refine wpAnyH_ready (rs := [6]) (by kernel_rfl) (by simp) ?_
  refine AllReadyH.cons (i := 6) rfl (fun K hK => ?_) AllReadyH.nil
  go_simp
  refine ((HRo wA hbwA).out).mono ?_
  rintro e9 wB ⟨rfl, hbB⟩
  have hbwB := hbwA.trans (hbB.mono hbwA.size)
  go_simp
  refine hK.out _ _ (show (fun u : World => u.cell? ⟨T, 0, none⟩ = some (.pointer (some ⟨J, 0, none⟩))) wB from (hbwB.cell (p := ⟨T, 0, none⟩) hTl).trans hS0) (fun _ => ?_)
  clear hK K
  try simp only [Act.put, List.setIfInBounds_toArray, List.set_cons_zero, List.set_cons_succ]
  obtain ⟨z, hz⟩ : ∃ z, z = sizeR R := ⟨_, rfl⟩
  rw [← hz] at hsb HLn ⊢
  have HzE := hide hz
  clear hz
  refine any_take 7 (some 21) (.bool (decide ((q : Int) - ((p : Int) + 512) < z))) rfl rfl (by kernel_rfl) (by kernel_rfl) (by kernel_rfl) (fun _ _ _ h => h) (by rfl) (show (fun u : World => u.cell? ⟨T, 0, none⟩ = some (.pointer (some ⟨J, 0, none⟩))) wB from (hbwB.cell (p := ⟨T, 0, none⟩) hTl).trans hS0) ?_ ?_
  · intro u hSu
    go_simp
  simp only [Act.put, List.setIfInBounds_toArray, List.set_cons_zero, List.set_cons_succ]
  refine wpAnyH_done (by kernel_rfl) ?_ _
  have HbwB := hide hbwB
  clear hbA hbB hbwA hbwB HSz HRo HOp hS0 hd0
  apply_assumption
  by_cases hfull : (q : Int) - ((p : Int) + 512) < z
  · rw [decide_eq_true hfull]
    have HFu := hide hfull
    clear hfull
    go_wp2_with fail
    go_ret
    exact Or.inl ⟨by rw [← HzE.out]; exact HFu.out, rfl, HbwB.out⟩
  · rw [decide_eq_false hfull]
    have HFu : Hid (z ≤ (q : Int) - ((p : Int) + 512)) := hide (by omega)
    have HRe1 := HRe wB HbwB.out
    clear hfull HRe
    go_wp2_with fail
    refine HRe1.out.mono ?_
    rintro e9 w2 ⟨⟨f2, k2, n2, ht2, hk2, hk2', hn2⟩, hc2, ⟨hrk, v2, L, rfl, ho2, hd2⟩ | ⟨hrk, rfl⟩⟩
    · have hk2e := hk2 hrk
      have HRk := hide hrk
      have HDe := hide hd2
      have hLl : L.length = R.length := by have := congrArg List.length hd2; rw [List.length_map, List.length_map] at this; exact this
      have hLb : L.length ≤ 8192 := by omega
      clear hLl
      have HMem : Hid (∀ r ∈ L, ∃ x ∈ R, r.at_ = x.1 ∧ r.b = (List.range (x.2 - x.1).toNat).map (fun i => seeT A.S B M (x.1.toNat + i))) := hide (fun r hr => by
        have hm : r.dat ∈ R.map (recD A.S B M) := by rw [← hd2]; exact List.mem_map_of_mem hr
        obtain ⟨x, hx, e⟩ := List.mem_map.1 hm
        refine ⟨x, hx, ?_, ?_⟩
        · exact (congrArg Prod.fst e).symm
        · exact (congrArg Prod.snd e).symm)
      have HL5 : Hid (lenD (L.map JR.dat) ≤ 100000 ∧ (lenD (L.map JR.dat) : Int) ≤ (q : Int) - ((p : Int) + 512)) := hide (by
        rw [hd2]
        have h1 := HLn.out
        have h2 := HFu.out
        omega)
      have Hat : Hid (∀ r ∈ L, 0 ≤ r.at_ ∧ r.at_ + r.b.length ≤ 4194304) := hide (fun r hr => by
        obtain ⟨x, hx, e1, e2⟩ := HMem.out r hr
        have hb := HBd.out x hx
        rw [e1, e2, List.length_map, List.length_range]
        omega)
      have Hby : Hid (∀ r ∈ L, Byts r.b) := hide (fun r hr i => by
        obtain ⟨x, hx, e1, e2⟩ := HMem.out r hr
        rw [e2, List.getD_eq_getElem?_getD]
        by_cases hi : i < (x.2 - x.1).toNat
        · simp only [List.getElem?_map, List.getElem?_range hi, Option.map_some, Option.getD_some]
          exact HSee.out _
        · rw [List.getElem?_eq_none (by simp; omega)]
          simp)
      have HBar : Hid (anyB p q L = false) := hide (by
        unfold anyB
        rw [List.any_eq_false]
        intro r hr
        obtain ⟨x, hx, e1, e2⟩ := HMem.out r hr
        have hb := HBd.out x hx
        have hnx := HNo.out x hx
        have hl : r.b.length = (x.2 - x.1).toNat := by rw [e2, List.length_map, List.length_range]
        unfold barB
        rw [e1, hl]
        simp
        omega)
      have hTw : T < w2.heap.size := ht2.tx.lt
      have hT2 : Blk w2 T #[.pointer (some ⟨J, 0, none⟩), vb, vm, .slice aA L0.length cA, .bool false] 69 := ht2.tx
      have c0 := hT2.cell 0 _ rfl
      have c1 := hT2.cell 1 _ rfl
      have c2 := hT2.cell 2 _ rfl
      have c3 := hT2.cell 3 _ rfl
      have c4 := hT2.cell 4 _ rfl
      have hT3 := hT2.set 1 (.map none)
      have hT4 := hT3.set 2 (.map none)
      have hT5 := hT4.set 3 (.slice none 0 0)
      have hT6 := hT5.set 4 (.bool true)
      have f1 := hT2.frozen 1
      have f2' := hT3.frozen 2
      have f3 := hT4.frozen 3
      have f4 := hT5.frozen 4
      have hc3 : Chg (fun i => i = T) w2 ((((w2.setCell ⟨T, 1, none⟩ (.map none)).setCell ⟨T, 2, none⟩ (.map none)).setCell ⟨T, 3, none⟩ (.slice none 0 0)).setCell ⟨T, 4, none⟩ (.bool true))     := ((((Chg.refl (fun i => i = T) w2).setCell T 1 _ (fun _ => rfl)).setCell T 2 _ (fun _ => rfl)).setCell T 3 _ (fun _ => rfl)).setCell T 4 _ (fun _ => rfl)
      have HT6 : Hid (Txs ((((w2.setCell ⟨T, 1, none⟩ (.map none)).setCell ⟨T, 2, none⟩ (.map none)).setCell ⟨T, 3, none⟩ (.slice none 0 0)).setCell ⟨T, 4, none⟩ (.bool true)) T J (.map none) (.map none) (.slice none 0 0) true) := hide hT6
      have HC3 := hide hc3
      have HF3 : Hid (Fl ((((w2.setCell ⟨T, 1, none⟩ (.map none)).setCell ⟨T, 2, none⟩ (.map none)).setCell ⟨T, 3, none⟩ (.slice none 0 0)).setCell ⟨T, 4, none⟩ (.bool true)) X F f2 A k2 n2) := hide (ht2.fl.chg hc3 (fun i _ hX e => ht2.xT (e ▸ hX)))
      have HJ3 : Hid (Jrn ((((w2.setCell ⟨T, 1, none⟩ (.map none)).setCell ⟨T, 2, none⟩ (.map none)).setCell ⟨T, 3, none⟩ (.slice none 0 0)).setCell ⟨T, 4, none⟩ (.bool true)) J F p q nu) := hide ((hc3.block J ht2.jr.lt (fun e => ht2.jt e)).trans ht2.jr)
      have HO3 : Hid (OwnK ((((w2.setCell ⟨T, 1, none⟩ (.map none)).setCell ⟨T, 2, none⟩ (.map none)).setCell ⟨T, 3, none⟩ (.slice none 0 0)).setCell ⟨T, 4, none⟩ (.bool true)) wB.heap.size v2 L) := hide (ho2.chg hc3 (fun i hi e => by have := HbwB.out.size; omega))
      have HXT := hide ht2.xT
      have HXJ := hide ht2.xJ
      have HJT := hide ht2.jt
      have HC2 : Hid (Chg X w9 w2) := hide ((Chg.of_below HbwB.out).trans hc2)
      obtain ⟨aL, cL, rfl, _, hLc, hLm, _⟩ := ho2.form
      clear hT2 hT3 hT4 hT5 hT6 hc3 ht2 hk2 hk2' hc2 hd2 ho2 hrk
      go_wp2_with fail
      generalize (((w2.setCell ⟨T, 1, none⟩ (.map none)).setCell ⟨T, 2, none⟩ (.map none)).setCell ⟨T, 3, none⟩ (.slice none 0 0)).setCell ⟨T, 4, none⟩ (.bool true) = w3 at *
      clear c0 c1 c2 c3 c4 f1 f2' f3 f4
      have Hc3' : Hid (Chg (fun i => X i ∨ i = T) w9 w3) := hide ((HC2.out.mono (fun i _ h => Or.inl h)).trans (HC3.out.mono (fun i _ h => Or.inr h)))
      have hw93 : w9.heap.size ≤ w3.heap.size := Hc3'.out.size
      have HAh := hide (ahead_all w3 T J F p q nu _ _ _ _ HT6.out HJ3.out X f2 A k2 n2 HF3.out HXT.out HXJ.out aA cA L0 (HLi.out.chg Hc3'.out HAp.out) ⟨fun hne x hx e => HAp.out.row hne x hx (Or.inl e), fun r hr hne x hx e => HAp.out.bytes r hr hne x hx (Or.inl e)⟩ HLat.out (by omega) (by rw [← HD0.out]; omega) (by omega))
      rw [← HD0.out] at HAh
      have HD0c : Hid (costs (ahdO D0) ≤ 90001) := hide (by
        unfold ahdO
        split
        · simp [costs]
        · rw [costs_append]
          have := recO_cost D0
          simp [costs, AO.cost] at this ⊢
          omega)
      refine HAh.out.mono ?_
      rintro e9 wa ⟨rfl, hra⟩
      clear HAh
      have HFin : Hid (∀ (w' : World) (nu' : Int), RanJ w3 w' J p q nu' X F A k2 n2 (ahdO D0 ++ txO p nu (R.map (recD A.S B M))) → Txs w' T J (.map none) (.map none) (.slice none 0 0) true → (cod (ahdO D0 ++ txO p nu (R.map (recD A.S B M))).length k2 = cod (ahdO D0 ++ txO p nu (R.map (recD A.S B M))).length (k - rdR A.S R)) ∧ ∃ nu' n', n' ≤ n + 8192 ∧ ∃ X' f', Fl w' X' F f' (doAll ((ahdO D0 ++ txO p nu (R.map (recD A.S B M))).take (k - rdR A.S R)) A) (k - rdR A.S R - (ahdO D0 ++ txO p nu (R.map (recD A.S B M))).length) (n' + costs (ahdO D0 ++ txO p nu (R.map (recD A.S B M)))) ∧ (∀ q, X' q → X q ∨ w9.heap.size ≤ q) ∧ Chg (fun i => X i ∨ i = J ∨ i = T) w9 w' ∧ Jrn w' J F p q nu' ∧ ¬ X' J) := hide (fun w' nu' hr _ => by
        obtain ⟨X6, f6, hf6, hx6, hc6, hj6, hn6⟩ := hr
        rw [← hk2e]
        refine ⟨rfl, nu', n2, hn2, X6, f6, hf6, fun q hq => (hx6 q hq).imp id (fun h => Nat.le_trans hw93 h), (Hc3'.out.mono (fun i _ h => h.imp id Or.inr)).trans (hc6.mono (fun i _ h => h.imp id Or.inl)), hj6, hn6⟩)
      have Hz3 : Hid (sizeR R ≤ (q : Int) - ((p : Int) + 512)) := hide (by rw [← HzE.out]; exact HFu.out)
      by_cases hka : (ahdO D0).length ≤ k2
      · rw [cod_ok hka]
        obtain ⟨X3, f3, hF3a, hx3, hc3a⟩ := hra
        have HMo : Hid (∀ (w' : World) (nu' : Int) (ps : List AO), RanJ wa w' J p q nu' X3 F (doAll ((ahdO D0).take k2) A) (k2 - (ahdO D0).length) (n2 + costs (ahdO D0)) ps → RanJ w3 w' J p q nu' X F A k2 n2 (ahdO D0 ++ ps)) := hide (fun w' nu' ps hr => RanJ.more hF3a hx3 (hc3a.mono (fun i _ h => Or.inl h)) HJ3.out hr)
        have hn3 : n2 + costs (ahdO D0) ≤ n + 98193 := by have := HD0c.out; omega
        have HT7 : Hid (Txs wa T J (.map none) (.map none) (.slice none 0 0) true) := hide ((hc3a.block T HT6.out.lt HXT.out).trans HT6.out)
        have HJ7 : Hid (Jrn wa J F p q nu) := hide ((hc3a.block J HJ3.out.lt HXJ.out).trans HJ3.out)
        have HO7 : Hid (OwnK wa wB.heap.size (.slice aL L.length cL) L) := hide (HO3.out.chg hc3a (fun i hi e => by have := HXl.out i e; have := HbwB.out.size; omega))
        have HXT7 : Hid (¬ X3 T) := hide (fun e => (hx3 T e).elim HXT.out (fun e => by have := HT6.out.lt; omega))
        have HXJ7 : Hid (¬ X3 J) := hide (fun e => (hx3 J e).elim HXJ.out (fun e => by have := HJ3.out.lt; omega))
        have HXl7 : Hid (∀ i, X3 i → i < w9.heap.size ∨ w3.heap.size ≤ i) := hide (fun i e => (hx3 i e).imp (HXl.out i) id)
        have HrL : Hid (∀ x : Addr, aL = some x → L ≠ [] → wB.heap.size ≤ x.block ∧ x.block < w3.heap.size) := hide (fun x hx hne => by
          have h1 := World.ownsRow.lt HO3.out.row x.block (by rw [hx]; rfl)
          exact h1)
        have HrB : Hid (∀ r ∈ L, r.b ≠ [] → ∀ x, r.a = some x → wB.heap.size ≤ x.block ∧ x.block < w3.heap.size) := hide (fun r hr hne x hx => by
          obtain ⟨g, h1, h2, h3, h4⟩ := (HO3.out.far r hr).2 hne
          rw [hx] at h1
          cases h1
          exact ⟨h2, h3⟩)
        have HF7 := hide hF3a
        have hk3 : k2 - (ahdO D0).length + (ahdO D0).length = k2 := by omega
        have HCs : Hid (∀ l, cod l (k2 - (ahdO D0).length) = cod ((ahdO D0).length + l) k2) := hide (fun l => cod_sub l _ k2 hka)
        clear hF3a hx3 hc3a hka HO3 HT6 HJ3 HF3
        generalize hA3 : doAll ((ahdO D0).take k2) A = A3' at *
        generalize hK3 : k2 - (ahdO D0).length = k3 at *
        generalize hN3 : n2 + costs (ahdO D0) = n3 at *
        clear hA3 hK3 hN3 hk3
        by_cases hL0' : L.length = 0
        · have HtO : Hid (txO p nu (R.map (recD A.S B M)) = []) := hide (by
            unfold txO
            rw [if_pos (by rw [← HDe.out]; simp [List.length_eq_zero_iff.1 hL0'])])
          have HR5 : Hid (RanJ w3 wa J p q nu X F A k2 n2 (ahdO D0 ++ txO p nu (R.map (recD A.S B M)))) := hide (HMo.out _ _ _ (by
            rw [HtO.out]
            exact ⟨X3, f3, by simpa [doAll, costs] using HF7.out, fun _ h => Or.inl h, Chg.refl _ _, HJ7.out, HXJ7.out⟩))
          have HCk : Hid (cod (ahdO D0 ++ txO p nu (R.map (recD A.S B M))).length k2 = 0) := hide (by
            rw [HtO.out, List.append_nil]
            have := HCs.out 0
            rw [Nat.add_zero] at this
            rw [← this]
            exact cod_ok (Nat.zero_le _))
          rw [hL0']
          go_wp2_with fail
          go_ret
          obtain ⟨e1, e2⟩ := HFin.out _ _ HR5.out HT7.out
          refine Or.inr (Or.inr ⟨Hz3.out, HRk.out, ?_, HT7.out, e2⟩)
          rw [← e1, HCk.out]
          rfl
        · have HtO : Hid (txO p nu (R.map (recD A.S B M)) = comO p nu (L.map JR.dat) ++ appO p (L.map JR.dat)) := hide (by
            unfold txO
            rw [if_neg (by rw [← HDe.out]; intro e; have := congrArg List.length e; rw [List.length_map] at this; exact hL0' this), HDe.out])
          have HtL : Hid ((txO p nu (R.map (recD A.S B M))).length = 4 + (L.length + 3)) := hide (by
            rw [HtO.out, List.length_append]
            unfold appO clrO comO
            simp [recO_length])
          have hL1 : ¬ ((L.length : Int) = 0) := by omega
          have HLn : Hid (L ≠ []) := hide (fun e => hL0' (by rw [e]; rfl))
          obtain ⟨aL', cL', eL, hlL, _, _, _⟩ := HO7.out.form
          have eL' : aL' = aL ∧ cL' = cL := by
            simp only [Value.slice.injEq, true_and] at eL
            exact ⟨eL.1.symm, eL.2.symm⟩
          obtain ⟨rfl, rfl⟩ := eL'
          have HlL := hide hlL
          have HapJ : Hid (ApJ (fun i => X3 i ∨ i = J) aL' L) := hide (by
            have h9 := HbwB.out.size
            have hj := HH.out.jr.lt
            refine ⟨fun hne x hx e => ?_, fun r hr hne x hx e => ?_⟩
            · have h1 := HrL.out x hx hne
              rcases e with e | e
              · rcases HXl7.out _ e with h | h <;> omega
              · omega
            · have h1 := HrB.out r hr hne x hx
              rcases e with e | e
              · rcases HXl7.out _ e with h | h <;> omega
              · omega)
          have HCo := hide (commit_j wa J F p q nu HJ7.out hp hq X3 f3 A3' k3 n3 HF7.out HXJ7.out aL' cL' L hlL (fun r hr => by have := Hat.out r hr; omega) Hby.out (by omega) HL5.out.1 (by omega) HBar.out HL5.out.2)
          have j0 := HT7.out.cell.1
          clear hlL eL
          go_wp2_with fail
          refine HCo.out.mono ?_
          rintro e9 w4 ⟨rfl, hr4⟩
          have hT4 : Txs w4 T J (.map none) (.map none) (.slice none 0 0) true := by
            obtain ⟨X4, f4, _, _, hc4, _⟩ := hr4
            exact (hc4.block T HT7.out.lt (fun e => e.elim HXT7.out (fun e => HJT.out e.symm))).trans HT7.out
          have HT4 := hide hT4
          clear HCo j0
          by_cases h4 : 4 ≤ k3
          · rw [cod_ok h4]
            obtain ⟨X4, f4, hf4, hx4, hc4, hj4, hn4⟩ := hr4
            have hcost : costs (comO p nu (L.map JR.dat)) ≤ 150000 := by
              have h1 := encD_length (L.map JR.dat)
              have h2 := signOf_len nu (L.map JR.dat)
              have h3 := HL5.out.1
              simp [costs, comO, AO.cost]
              omega
            have HAp' := hide (apply_j w4 J F p q _ hj4 hp hq X4 f4 _ _ _ hf4 hn4 aL' cL' L (HlL.out.chg hc4 HapJ.out) (HapJ.out.more HlL.out (fun q hq => by
              rcases hq with h | h
              · exact (hx4 q h).imp Or.inl id
              · exact Or.inl (Or.inr h))) Hat.out (by omega) HL5.out.1 (by omega))
            have HFi : Hid (∀ w', RanJ w4 w' J p q (numJ nu k3) X4 F _ _ _ (appO p (L.map JR.dat)) → RanJ wa w' J p q (numJ nu k3) X3 F A3' k3 n3 (comO p nu (L.map JR.dat) ++ appO p (L.map JR.dat))) := hide (fun w' hr => RanJ.more hf4 hx4 hc4 HJ7.out hr)
            have HT5 : Hid (∀ (w' : World) (A' : A3) (k' n' : Nat), RanJ w4 w' J p q (numJ nu k3) X4 F A' k' n' (appO p (L.map JR.dat)) → Txs w' T J (.map none) (.map none) (.slice none 0 0) true) := hide (fun w' A' k' n' hr => by
              obtain ⟨X5, f5, _, _, hc5, _⟩ := hr
              refine (hc5.block T HT4.out.lt (fun e => ?_)).trans HT4.out
              rcases e with e | e
              · rcases hx4 T e with h | h
                · exact HXT7.out h
                · have := HT7.out.lt; omega
              · exact HJT.out e.symm)
            have j0 := HT4.out.cell.1
            have hcl : (comO p nu (L.map JR.dat)).length = 4 := rfl
            rw [hcl] at HAp' HFi
            clear hf4 hx4 hc4 hj4 hn4 hT4
            go_wp2_with fail
            refine HAp'.out.mono ?_
            rintro e9 w5 ⟨rfl, hr5⟩
            have HT6' := hide (HT5.out w5 _ _ _ hr5)
            have HR5 := hide (HMo.out _ _ _ (HFi.out w5 hr5))
            clear hr5 HAp' HFi HT5
            go_wp2_with fail
            go_ret
            have HR6 := HR5.out
            rw [← HtO.out] at HR6
            obtain ⟨e1, e2⟩ := HFin.out _ _ HR6 HT6'.out
            refine Or.inr (Or.inr ⟨Hz3.out, HRk.out, ?_, HT6'.out, e2⟩)
            rw [← e1, List.length_append, ← HCs.out, HtL.out, ← cod_sub (L.length + 3) 4 k3 h4]
            rfl
          · rw [cod_no h4]
            have HR5 : Hid (RanJ w3 w4 J p q (numJ nu k3) X F A k2 n2 (ahdO D0 ++ (comO p nu (L.map JR.dat) ++ appO p (L.map JR.dat)))) := hide (HMo.out _ _ _ (hr4.stop (show ¬ (comO p nu (L.map JR.dat)).length ≤ k3 from h4) _))
            clear hr4 hT4
            go_wp2_with fail
            go_ret
            have HR6 := HR5.out
            rw [← HtO.out] at HR6
            obtain ⟨e1, e2⟩ := HFin.out _ _ HR6 HT4.out
            refine Or.inr (Or.inr ⟨Hz3.out, HRk.out, ?_, HT4.out, e2⟩)
            rw [← e1, List.length_append, ← HCs.out, HtL.out, cod_no (by omega)]
            rfl
      · rw [cod_no hka]
        have HR5 : Hid (RanJ w3 wa J p q nu X F A k2 n2 (ahdO D0 ++ txO p nu (R.map (recD A.S B M)))) := hide ((hra.jrn HJ3.out HXJ.out).stop hka _)
        have HT7 : Hid (Txs wa T J (.map none) (.map none) (.slice none 0 0) true) := hide (by
          obtain ⟨X3, f3, _, _, hc3a⟩ := hra
          exact (hc3a.block T HT6.out.lt HXT.out).trans HT6.out)
        have HCn : Hid (cod (ahdO D0 ++ txO p nu (R.map (recD A.S B M))).length k2 = 5) := hide (cod_no (by rw [List.length_append]; omega))
        clear hra hka
        go_wp2_with fail
        go_ret
        obtain ⟨e1, e2⟩ := HFin.out _ _ HR5.out HT7.out
        refine Or.inr (Or.inr ⟨Hz3.out, HRk.out, ?_, HT7.out, e2⟩)
        rw [← e1, HCn.out]
        rfl
    · have HT2 := hide ht2
      have HC2 : Hid (Chg X w9 w2) := hide ((Chg.of_below HbwB.out).trans hc2)
      have HK2 := hide (hk2' hrk)
      have HRk := hide hrk
      clear ht2 hc2 hk2 hk2' hrk
      go_wp2_with fail
      go_ret
      exact Or.inr (Or.inl ⟨by rw [← HzE.out]; exact HFu.out, HRk.out, rfl, ⟨f2, n2, by rw [← HK2.out]; exact HT2.out.fl, hn2, HT2.out.jr⟩, HC2.out⟩)
end Go.Proofs.Ytkhknfohcebicaa.Oct
namespace Go.Proofs.Ytkhknfohcebicaa.Oct
open Go.RowKit Go.Deep Go.Sort

theorem needN_bd (P : Int → Bool) : ∀ n : Nat, 0 ≤ needN P n ∧ needN P n ≤ 524 * (n : Int)
  | 0 => by simp [needN]
  | n + 1 => by
    have := needN_bd P n
    unfold needN
    split <;> split <;> omega

/-- Ints lie from the address on. -/
def LiesN (w : World) (a : Option Addr) (l : List Int) : Prop := l = [] ∨ ∃ b off, a = some ⟨b, off, none⟩ ∧ b < w.heap.size ∧ ∀ k, k < l.length → w.cell? ⟨b, off + k, none⟩ = some (.int .i64 (l.getD k 0))

theorem rowN {w : World} {B : Nat} {v : Value} {P : List Int} (h : w.ownsRow B 3 1 v P.length (P.map (Value.int .i64))) : ∃ a c, v = .slice a P.length c ∧ LiesN w a P ∧ P.length ≤ c ∧ c ≤ maxLen := by
  rcases h.2 with ⟨rfl, hn⟩ | ⟨g, cap, cur, rfl, hB, hg, hnc, hcm, _⟩
  · have hP : P = [] := List.length_eq_zero_iff.1 hn
    subst hP
    exact ⟨none, 0, rfl, Or.inl rfl, by simp, by unfold maxLen; omega⟩
  · refine ⟨some ⟨g, 0, none⟩, cap, rfl, Or.inr ⟨g, 0, rfl, (Array.getElem?_eq_some_iff.1 hg).1, fun k hk => ?_⟩, hnc, hcm⟩
    have := World.ownsRow.cellAt h k (by omega)
    rw [Nat.zero_add, this]
    simp [hk]

theorem mem_take_succ (P : List Int) (k : Nat) (hk : k < P.length) (t : Int) : decide (t ∈ P.take (k + 1)) = (decide (t ∈ P.take k) || decide (P.getD k 0 = t)) := by
  rw [List.take_succ_eq_append_getElem hk, Bool.eq_iff_iff]
  simp only [Bool.or_eq_true, decide_eq_true_eq, List.mem_append, List.mem_singleton]
  have e : P.getD k 0 = P[k] := by simp [hk]
  rw [e]
  constructor
  · rintro (h | h)
    · exact Or.inl h
    · exact Or.inr h.symm
  · rintro (h | h)
    · exact Or.inl h
    · exact Or.inr h.symm

theorem commit_done (w : World) (T J : Nat) (vb vm va : Value) (ht : Txs w T J vb vm va true) :
    Calls Try.prog 17 #[.pointer (some ⟨T, 0, none⟩)] w fun e w' => e = .returned (.int .i64 6) ∧ w' = w := by
  have HNo := hide (none_tx w T J vb vm va true ht)
  obtain ⟨c0, c1, c2, c3, c4⟩ := ht.cell
  have HOp : Hid (Calls Try.prog 27 #[.pointer (some ⟨T, 0, none⟩)] w fun e w' => e = .returned (.int .i64 6) ∧ w' = w) := hide (by
    clear ht
    go_enter Try.func27, Try.ntmps27
    go_wp2_with fail
    refine HNo.out.mono ?_
    rintro e w' ⟨rfl, h2⟩
    subst h2
    go_wp2_with fail
    go_ret
    exact ⟨rfl, rfl⟩)
  clear ht HNo
  go_enter Try.func17, Try.ntmps17
  go_wp2_with fail
  refine HOp.out.mono ?_
  rintro e w' ⟨rfl, h2⟩
  subst h2
  go_wp2_with fail
  go_ret
  exact ⟨rfl, rfl⟩

theorem waiting_fl (w : World) (X : Nat → Prop) (F : Nat) (f : Fs) (A : A3) (k n : Nat) (h : Fl w X F f A k n) :
    Calls Try.prog 42 #[.pointer (some ⟨F, 0, none⟩)] w fun e w' => e = .returned (.int .i64 A.D.length) ∧ w' = w := by
  obtain ⟨R, hf, hR⟩ := h.has
  refine (waiting_file w X F f A.S A.T R hf).mono ?_
  rintro e w' ⟨rfl, rfl⟩
  exact ⟨by rw [← hR, List.length_map], rfl⟩

theorem lenD_small : ∀ (D : List RD) (m : Nat), (∀ r ∈ D, r.2.length ≤ m) → lenD D ≤ (12 + m) * D.length
  | [], m, _ => by simp [lenD]
  | r :: D, m, h => by
    have ih := lenD_small D m (fun x hx => h x (List.mem_cons_of_mem _ hx))
    have h1 := h r (List.mem_cons_self ..)
    simp only [lenD, List.map_cons, List.sum_cons, List.length_cons, Nat.mul_succ] at *
    omega

theorem ahdO_len (D : List RD) : (ahdO D).length ≤ D.length + 1 := by
  unfold ahdO
  split
  · simp
  · simp [recO_length]

theorem txO_len (p : Nat) (nu : Int) (D : List RD) : (txO p nu D).length ≤ D.length + 7 := by
  unfold txO
  split
  · simp
  · rw [List.length_append]
    unfold appO clrO comO
    simp [recO_length]
    omega

theorem rdR_len (S : List Int) : ∀ (R : List (Int × Int)), rdR S R ≤ R.length
  | [] => by simp [rdR]
  | r :: R => by
    have ih := rdR_len S R
    unfold rdR at *
    simp only [List.map_cons, List.sum_cons, List.length_cons]
    have : rdc S r.1.toNat (r.2 - r.1).toNat ≤ 1 := by unfold rdc; split <;> omega
    omega

theorem Pur.runs {S : List Int} {B M : Int → List Int} {D : List RD} {P : List Int} (h : Pur S B M D P) : (∀ s : Int, ¬ (0 ≤ s ∧ s < 8192) → ¬ 2 ∈ M s) ∧ (∀ r ∈ runsM M, ¬ (r.1 < 10752 ∧ (512 : Int) < r.2)) := by
  refine ⟨fun s hs e => ?_, fun r hr e => ?_⟩
  · have := h.lim s ((h.put s).2 e)
    omega
  · have hb := runsM_bd M r hr
    obtain ⟨n, hn⟩ := Int.eq_ofNat_of_zero_le hb.1
    have h2 := ((runsM_cov M n).1 ⟨r, hr, by omega, by omega⟩).2
    have := h.lim _ ((h.put _).2 h2)
    omega

theorem Pur.size {S : List Int} {B M : Int → List Int} {D : List RD} {P : List Int} (h : Pur S B M D P) : sizeR (runsM M) = needN (fun s => decide (s ∈ P)) 80 :=
  size_need M 80 (by omega) (fun s hs e => hs (by have := h.lim s ((h.put s).2 e); omega)) _ (fun s => by rw [decide_eq_true_iff]; exact h.put s)

/-- The premises of a Commit. -/
theorem plk_commit {w3 w : World} {T J F : Nat} {X : Nat → Prop} {S : List Int} {k : Nat} {v : Value} {Mm : List Int} {B M : Int → List Int} {L : List JR} {vp : Value} {P : List Int} (h : Plk w3 w T J F X S k v Mm B M L vp P) (hk : k ≤ 50) (hsee : ∀ j, Mm.getD j 0 = seeT S B M j) (hpu : Pur S B M (L.map JR.dat) P) :
    Calls Try.prog 17 #[.pointer (some ⟨T, 0, none⟩)] w fun e w' =>
      (9728 < sizeR (runsM M) ∧ e = .returned (.int .i64 15) ∧ Below w.heap.size w w') ∨
      (sizeR (runsM M) ≤ 9728 ∧ e = .returned (.int .i64 0) ∧ Txs w' T J (.map none) (.map none) (.slice none 0 0) true ∧ Below w3.heap.size w3 w' ∧
        (∃ nu', Jrn w' J F (512 : Nat) (10752 : Nat) nu') ∧ (∃ am cm, v = .slice am Mm.length cm ∧ Sl w' am cm Mm) ∧
        ∃ X' f' k' n', Fl w' X' F f' ⟨txS (putS S (L.map JR.dat)) 512 0 (recsM S B M), txS (putS S (L.map JR.dat)) 512 0 (recsM S B M), []⟩ k' n') := by
  obtain ⟨am, cm, e1, h1, h2⟩ := h.m
  obtain ⟨f, kk, nn, vb, vm, va, hq, a1, a2, a3, a4, a5, a6, a7, a8, a9, aY⟩ := h.st
  obtain ⟨aA, cA, e2, hLi, _, _, _⟩ := a4.form
  subst e2
  have hAp : ApJ (fun i => X i ∨ i = T) aA L := ⟨fun hne x hx e => by
      have h9 := a5 x.block (by rw [hx]; rfl)
      exact e.elim h9.2.2.1 h9.1, fun r hr hne x hx e => by
      have h9 := (a8 r hr).2 x hx
      exact e.elim h9.2.2.1 h9.1⟩
  obtain ⟨hM, hno⟩ := hpu.runs
  have hD : ∀ r ∈ L.map JR.dat, r.2.length ≤ 1500 := fun r hr => (hpu.at_ r hr).2.2.1
  have hlD := lenD_small _ _ hD
  rw [List.length_map] at hlD
  have hAt : ∀ r ∈ L, 0 ≤ r.at_ ∧ r.at_ + r.b.length ≤ 4194304 := fun r hr => by
    have := hpu.at_ r.dat (List.mem_map_of_mem hr)
    have e3 : r.dat.1 = r.at_ := rfl
    have e4 : r.dat.2 = r.b := rfl
    rw [e3, e4] at this
    omega
  have hby : ∀ i, 0 ≤ seeT S B M i ∧ seeT S B M i < 256 := fun i => by
    rw [← hsee i]
    exact h.by_ i
  refine (commit_a w T J F X f _ kk nn vb vm aA cA L B M 512 10752 0 hq hLi hAp (by omega) hAt (by omega) (by omega) (by omega) (by omega) (by omega) hM hno hby).mono ?_
  have hrl := runsM_len M
  have hrd := rdR_len S (runsM M)
  have hto := txO_len 512 0 (recsM S B M)
  have hah := ahdO_len (L.map JR.dat)
  have hrm : (recsM S B M).length = (runsM M).length := by unfold recsM; rw [List.length_map]
  rw [List.length_map] at hah
  rintro e w' (⟨g1, rfl, hb⟩ | ⟨g1, g2, rfl, _⟩ | ⟨g1, g2, rfl, ht, nu', n', hn', X', f', hf, hx, hc, hj, hxj⟩)
  · exact Or.inl ⟨by omega, rfl, hb⟩
  · exact absurd (show rdR S (runsM M) ≤ kk by omega) g2
  · have hk9 : (ahdO (L.map JR.dat) ++ txO 512 0 (recsM S B M)).length ≤ kk - rdR S (runsM M) := by
      rw [List.length_append]
      omega
    have e3 := hf
    rw [List.take_of_length_le hk9, doAll_append, ahd_state, tx_state] at e3
    refine Or.inr ⟨by omega, ?_, ht, ?_, ⟨nu', hj⟩, ⟨am, cm, e1, h1.chgQ hc ?_⟩, X', f', _, _, e3⟩
    · show Ending.returned (.int .i64 (cod (ahdO (L.map JR.dat) ++ txO 512 0 (recsM S B M)).length (kk - rdR S (runsM M)))) = _
      rw [cod_ok hk9]
    · refine h.bel.trans (hc.below _ h.bel.size (fun i hi e => ?_))
      rcases e with e | e | e
      · have := h.xlo i e; omega
      · have := h.jlo; omega
      · have := h.tlo; omega
    · intro x hx9 e
      rcases (h2 x hx9).2 with h3 | h3
      · rcases e with e | e | e
        · have := h.xlo _ e; omega
        · have := h.jlo; omega
        · have := h.tlo; omega
      · rcases e with e | e | e
        · exact h3.2.2 e
        · exact h3.2.1 e
        · exact h3.1 e
end Go.Proofs.Ytkhknfohcebicaa.Oct
