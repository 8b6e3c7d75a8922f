/- A Commit of changes of which nothing was written ahead. -/
import Derived.Test.YtibkhgmmjhlpmaaGreatPTyi
namespace Go.Proofs.YtibkhgmmjhlpmaaGreat.Oct
open Go.RowKit Go.Deep Go.Sort

set_option maxRecDepth 100000 in
theorem ahead_nil (w : World) (t : Value) : Calls Tryz.prog 43 #[t, .slice none 0 0] w fun e w' => e = .returned (.int .i64 0) ∧ w' = w := by
  go_enter Tryz.func43, Tryz.ntmps43
  go_wp2_with fail
  go_ret
  exact ⟨rfl, rfl⟩

/-- The records of changes. -/
def recsM (S : List Int) (B M : Int → List Int) : List RD := (runsM M).map (recD S B M)

theorem recD_len (S : List Int) (B M : Int → List Int) (r : Int × Int) : (recD S B M r).2.length = (r.2 - r.1).toNat := by simp [recD]

theorem recs_len (S : List Int) (B M : Int → List Int) : ∀ (R : List (Int × Int)), BdE R → (lenD (R.map (recD S B M)) : Int) = sizeR R
  | [], _ => by simp [lenD, sizeR]
  | r :: R, h => by
    have ih := recs_len S B M R (fun x hx => h x (List.mem_cons_of_mem _ hx))
    have hr := h r (List.mem_cons_self ..)
    unfold lenD sizeR at *
    simp only [List.map_cons, List.sum_cons, recD_len]
    omega

/-- A commit's operations behind the reads. -/
def txO (p : Nat) (nu : Int) (D : List RD) : List AO := if D = [] then [] else comO p nu D ++ appO p D

set_option maxRecDepth 100000 in
set_option maxHeartbeats 8000000 in
theorem commit_q (w : World) (T J F : Nat) (X : Nat → Prop) (f : Fs) (A : A3) (k n : Nat) (vb vm : Value) (B M : Int → List Int) (p q : Nat) (nu : Int) (h : Txq w T J F X f A k n vb vm (.slice none 0 0) B M p q nu) (hn : n ≤ 200000) (hp : p + 1024 ≤ q) (hq : q ≤ 4194304) (hqp : q - p ≤ 90000) (hM : ∀ s : Int, ¬ (0 ≤ s ∧ s < 8192) → ¬ 2 ∈ M s) (hno : ∀ r ∈ runsM M, ¬ (r.1 < q ∧ (p : Int) < r.2)) (hsee : ∀ i, 0 ≤ seeT A.S B M i ∧ seeT A.S B M i < 256) :
    Calls Tryz.prog 14 #[.pointer (some ⟨T, 0, none⟩)] w fun e w' =>
      ((q : Int) - ((p : Int) + 512) < sizeR (runsM M) ∧ e = .returned (.int .i64 15) ∧ Below w.heap.size w w') ∨
      (sizeR (runsM M) ≤ (q : Int) - ((p : Int) + 512) ∧ ¬ rdR A.S (runsM M) ≤ k ∧ e = .returned (.int .i64 5) ∧ (∃ f' n', Fl w' X F f' A 0 n' ∧ n' ≤ n + 8192 ∧ Jrn w' J F p q nu) ∧ Chg X w w') ∨
      (sizeR (runsM M) ≤ (q : Int) - ((p : Int) + 512) ∧ rdR A.S (runsM M) ≤ k ∧ e = .returned (.int .i64 (cod (txO p nu (recsM A.S B M)).length (k - rdR A.S (runsM M)))) ∧ Txs w' T J (.map none) (.map none) (.slice none 0 0) true ∧
        ∃ nu' n', n' ≤ n + 8192 ∧ ∃ X' f', Fl w' X' F f' (doAll ((txO p nu (recsM A.S B M)).take (k - rdR A.S (runsM M))) A) (k - rdR A.S (runsM M) - (txO p nu (recsM A.S B M)).length) (n' + costs (txO p nu (recsM A.S B M))) ∧ (∀ q, X' q → X q ∨ w.heap.size ≤ q) ∧ Chg (fun i => X i ∨ i = J ∨ i = T) w w' ∧ Jrn w' J F p q nu' ∧ ¬ X' J) := by
  have HH := hide h
  have HOp := hide (open_tx w T J vb vm _ h.tx)
  have HSz := fun u (hu : Below w.heap.size w u) => hide (size_q u T J vb vm _ false B M (h.below hu).tx (h.below hu).ov h.mm hM)
  have HRo := fun u (hu : Below w.heap.size w u) => hide (room_j u J F p q nu (h.below hu).jr hp hq)
  have HRe := fun u (hu : Below w.heap.size w u) => hide (records_q u T J F X f A k n vb vm _ B M p q nu (h.below hu) (by omega) hp hM hno)
  have HBd := hide (runsM_bd M)
  have hRl := runsM_len M
  have HNo := hide hno
  have HSee := hide hsee
  have HLn := hide (recs_len A.S B M (runsM M) (runsM_bd M))
  have HXl := hide h.fl.x
  have hTl := h.tx.lt
  have hS0 : (fun u : World => u.cell? ⟨T, 0, none⟩ = some (.pointer (some ⟨J, 0, none⟩))) w.drew := h.tx.cell.1
  have hd0 : Below w.heap.size w w.drew := (Below.refl _ _).drew
  have hsb := (sizeR_bd _ (runsM_bd M))
  clear hno h hM hsee
  unfold recsM at *
  generalize runsM M = R at *
  go_enter Tryz.func14, Tryz.ntmps14
  go_wp2_with fail
  refine HOp.out.mono ?_
  rintro e9 w9 ⟨rfl, h9⟩
  subst h9
  go_wp2_with fail
  refine wp_region_held_drew (S := (fun u : World => u.cell? ⟨T, 0, none⟩ = some (.pointer (some ⟨J, 0, none⟩)))) (by kernel_rfl) hS0 (fun _ => ?_)
  refine any_take 0 (some 14) (.pointer (some ⟨T, 0, none⟩)) rfl rfl (by kernel_rfl) (by kernel_rfl) (by kernel_rfl) (fun _ _ _ h => h) (by rfl) hS0 ?_ ?_
  · intro u hSu
    go_simp
  simp only [Act.put, List.setIfInBounds_toArray, List.set_cons_zero, List.set_cons_succ]
  refine any_take 2 (some 16) (.pointer (some ⟨T, 0, none⟩)) rfl rfl (by kernel_rfl) (by kernel_rfl) (by kernel_rfl) (fun _ _ _ h => h) (by rfl) hS0 ?_ ?_
  · intro u hSu
    go_simp
  simp only [Act.put, List.setIfInBounds_toArray, List.set_cons_zero, List.set_cons_succ]
  refine any_take 3 (some 17) (.pointer (some ⟨T, 0, none⟩)) rfl rfl (by kernel_rfl) (by kernel_rfl) (by kernel_rfl) (fun _ _ _ h => h) (by rfl) hS0 ?_ ?_
  · intro u hSu
    go_simp
  simp only [Act.put, List.setIfInBounds_toArray, List.set_cons_zero, List.set_cons_succ]
  refine any_take 4 (some 18) (.pointer (some ⟨T, 0, none⟩)) rfl rfl (by kernel_rfl) (by kernel_rfl) (by kernel_rfl) (fun _ _ _ h => h) (by rfl) hS0 ?_ ?_
  · intro u hSu
    go_simp
  simp only [Act.put, List.setIfInBounds_toArray, List.set_cons_zero, List.set_cons_succ]
  refine any_take 5 (some 19) (.pointer (some ⟨J, 0, none⟩)) rfl rfl (by kernel_rfl) (by kernel_rfl) (by kernel_rfl) (fun _ _ _ h => h) (by rfl) hS0 ?_ ?_
  · intro u hSu
    go_simp
  simp only [Act.put, List.setIfInBounds_toArray, List.set_cons_zero, List.set_cons_succ]
  refine wpAnyH_ready (rs := [1]) (by kernel_rfl) (by simp) ?_
  refine AllReadyH.cons (i := 1) rfl (fun K hK => ?_) AllReadyH.nil
  go_simp
  refine ((HSz _ hd0).out).mono ?_
  rintro e9 wA ⟨rfl, hbA⟩
  have hbwA := hd0.trans (hbA.mono hd0.size)
  go_simp
  refine hK.out _ _ (show (fun u : World => u.cell? ⟨T, 0, none⟩ = some (.pointer (some ⟨J, 0, none⟩))) wA from (hbwA.cell (p := ⟨T, 0, none⟩) hTl).trans hS0) (fun _ => ?_)
  clear hK K
  try simp only [Act.put, List.setIfInBounds_toArray, List.set_cons_zero, List.set_cons_succ]
  refine wpAnyH_ready (rs := [6]) (by kernel_rfl) (by simp) ?_
  refine AllReadyH.cons (i := 6) rfl (fun K hK => ?_) AllReadyH.nil
  go_simp
  refine ((HRo wA hbwA).out).mono ?_
  rintro e9 wB ⟨rfl, hbB⟩
  have hbwB := hbwA.trans (hbB.mono hbwA.size)
  go_simp
  refine hK.out _ _ (show (fun u : World => u.cell? ⟨T, 0, none⟩ = some (.pointer (some ⟨J, 0, none⟩))) wB from (hbwB.cell (p := ⟨T, 0, none⟩) hTl).trans hS0) (fun _ => ?_)
  clear hK K
  try simp only [Act.put, List.setIfInBounds_toArray, List.set_cons_zero, List.set_cons_succ]
  obtain ⟨z, hz⟩ : ∃ z, z = sizeR R := ⟨_, rfl⟩
  rw [← hz] at hsb HLn ⊢
  have HzE := hide hz
  clear hz
  refine any_take 7 (some 21) (.bool (decide ((q : Int) - ((p : Int) + 512) < z))) rfl rfl (by kernel_rfl) (by kernel_rfl) (by kernel_rfl) (fun _ _ _ h => h) (by rfl) (show (fun u : World => u.cell? ⟨T, 0, none⟩ = some (.pointer (some ⟨J, 0, none⟩))) wB from (hbwB.cell (p := ⟨T, 0, none⟩) hTl).trans hS0) ?_ ?_
  · intro u hSu
    go_simp
  simp only [Act.put, List.setIfInBounds_toArray, List.set_cons_zero, List.set_cons_succ]
  refine wpAnyH_done (by kernel_rfl) ?_ _
  have HbwB := hide hbwB
  clear hbA hbB hbwA hbwB HSz HRo HOp hS0 hd0
  apply_assumption
  by_cases hfull : (q : Int) - ((p : Int) + 512) < z
  · rw [decide_eq_true hfull]
    have HFu := hide hfull
    clear hfull
    go_wp2_with fail
    go_ret
    exact Or.inl ⟨by rw [← HzE.out]; exact HFu.out, rfl, HbwB.out⟩
  · rw [decide_eq_false hfull]
    have HFu : Hid (z ≤ (q : Int) - ((p : Int) + 512)) := hide (by omega)
    have HRe1 := HRe wB HbwB.out
    clear hfull HRe
    go_wp2_with fail
    refine HRe1.out.mono ?_
    rintro e9 w2 ⟨⟨f2, k2, n2, ht2, hk2, hk2', hn2⟩, hc2, ⟨hrk, v2, L, rfl, ho2, hd2⟩ | ⟨hrk, rfl⟩⟩
    · have hk2e := hk2 hrk
      have HRk := hide hrk
      have HDe := hide hd2
      have hLl : L.length = R.length := by have := congrArg List.length hd2; rw [List.length_map, List.length_map] at this; exact this
      have hLb : L.length ≤ 8192 := by omega
      clear hLl
      have HMem : Hid (∀ r ∈ L, ∃ x ∈ R, r.at_ = x.1 ∧ r.b = (List.range (x.2 - x.1).toNat).map (fun i => seeT A.S B M (x.1.toNat + i))) := hide (fun r hr => by
        have hm : r.dat ∈ R.map (recD A.S B M) := by rw [← hd2]; exact List.mem_map_of_mem hr
        obtain ⟨x, hx, e⟩ := List.mem_map.1 hm
        refine ⟨x, hx, ?_, ?_⟩
        · exact (congrArg Prod.fst e).symm
        · exact (congrArg Prod.snd e).symm)
      have HL5 : Hid (lenD (L.map JR.dat) ≤ 100000 ∧ (lenD (L.map JR.dat) : Int) ≤ (q : Int) - ((p : Int) + 512)) := hide (by
        rw [hd2]
        have h1 := HLn.out
        have h2 := HFu.out
        omega)
      have Hat : Hid (∀ r ∈ L, 0 ≤ r.at_ ∧ r.at_ + r.b.length ≤ 4194304) := hide (fun r hr => by
        obtain ⟨x, hx, e1, e2⟩ := HMem.out r hr
        have hb := HBd.out x hx
        rw [e1, e2, List.length_map, List.length_range]
        omega)
      have Hby : Hid (∀ r ∈ L, Byts r.b) := hide (fun r hr i => by
        obtain ⟨x, hx, e1, e2⟩ := HMem.out r hr
        rw [e2, List.getD_eq_getElem?_getD]
        by_cases hi : i < (x.2 - x.1).toNat
        · simp only [List.getElem?_map, List.getElem?_range hi, Option.map_some, Option.getD_some]
          exact HSee.out _
        · rw [List.getElem?_eq_none (by simp; omega)]
          simp)
      have HBar : Hid (anyB p q L = false) := hide (by
        unfold anyB
        rw [List.any_eq_false]
        intro r hr
        obtain ⟨x, hx, e1, e2⟩ := HMem.out r hr
        have hb := HBd.out x hx
        have hnx := HNo.out x hx
        have hl : r.b.length = (x.2 - x.1).toNat := by rw [e2, List.length_map, List.length_range]
        unfold barB
        rw [e1, hl]
        simp
        omega)
      have hTw : T < w2.heap.size := ht2.tx.lt
      have hT2 : Blk w2 T #[.pointer (some ⟨J, 0, none⟩), vb, vm, .slice none 0 0, .bool false] 92 := ht2.tx
      have c0 := hT2.cell 0 _ rfl
      have c1 := hT2.cell 1 _ rfl
      have c2 := hT2.cell 2 _ rfl
      have c3 := hT2.cell 3 _ rfl
      have c4 := hT2.cell 4 _ rfl
      have hT3 := hT2.set 1 (.map none)
      have hT4 := hT3.set 2 (.map none)
      have hT5 := hT4.set 3 (.slice none 0 0)
      have hT6 := hT5.set 4 (.bool true)
      have f1 := hT2.frozen 1
      have f2' := hT3.frozen 2
      have f3 := hT4.frozen 3
      have f4 := hT5.frozen 4
      have hc3 : Chg (fun i => i = T) w2 ((((w2.setCell ⟨T, 1, none⟩ (.map none)).setCell ⟨T, 2, none⟩ (.map none)).setCell ⟨T, 3, none⟩ (.slice none 0 0)).setCell ⟨T, 4, none⟩ (.bool true))     := ((((Chg.refl (fun i => i = T) w2).setCell T 1 _ (fun _ => rfl)).setCell T 2 _ (fun _ => rfl)).setCell T 3 _ (fun _ => rfl)).setCell T 4 _ (fun _ => rfl)
      have HT6 : Hid (Txs ((((w2.setCell ⟨T, 1, none⟩ (.map none)).setCell ⟨T, 2, none⟩ (.map none)).setCell ⟨T, 3, none⟩ (.slice none 0 0)).setCell ⟨T, 4, none⟩ (.bool true)) T J (.map none) (.map none) (.slice none 0 0) true) := hide hT6
      have HC3 := hide hc3
      have HF3 : Hid (Fl ((((w2.setCell ⟨T, 1, none⟩ (.map none)).setCell ⟨T, 2, none⟩ (.map none)).setCell ⟨T, 3, none⟩ (.slice none 0 0)).setCell ⟨T, 4, none⟩ (.bool true)) X F f2 A k2 n2) := hide (ht2.fl.chg hc3 (fun i _ hX e => ht2.xT (e ▸ hX)))
      have HJ3 : Hid (Jrn ((((w2.setCell ⟨T, 1, none⟩ (.map none)).setCell ⟨T, 2, none⟩ (.map none)).setCell ⟨T, 3, none⟩ (.slice none 0 0)).setCell ⟨T, 4, none⟩ (.bool true)) J F p q nu) := hide ((hc3.block J ht2.jr.lt (fun e => ht2.jt e)).trans ht2.jr)
      have HO3 : Hid (OwnK ((((w2.setCell ⟨T, 1, none⟩ (.map none)).setCell ⟨T, 2, none⟩ (.map none)).setCell ⟨T, 3, none⟩ (.slice none 0 0)).setCell ⟨T, 4, none⟩ (.bool true)) wB.heap.size v2 L) := hide (ho2.chg hc3 (fun i hi e => by have := HbwB.out.size; omega))
      have HXT := hide ht2.xT
      have HXJ := hide ht2.xJ
      have HJT := hide ht2.jt
      have HC2 : Hid (Chg X w9 w2) := hide ((Chg.of_below HbwB.out).trans hc2)
      obtain ⟨aL, cL, rfl, _, hLc, hLm, _⟩ := ho2.form
      clear hT2 hT3 hT4 hT5 hT6 hc3 ht2 hk2 hk2' hc2 hd2 ho2 hrk
      go_wp2_with fail
      generalize (((w2.setCell ⟨T, 1, none⟩ (.map none)).setCell ⟨T, 2, none⟩ (.map none)).setCell ⟨T, 3, none⟩ (.slice none 0 0)).setCell ⟨T, 4, none⟩ (.bool true) = w3 at *
      refine (ahead_nil _ _).mono ?_
      rintro e9 w3' ⟨rfl, h3'⟩
      rw [h3']
      clear h3' c0 c1 c2 c3 c4 f1 f2' f3 f4
      have Hc3' : Hid (Chg (fun i => X i ∨ i = J ∨ i = T) w9 w3) := hide ((HC2.out.mono (fun i _ h => Or.inl h)).trans (HC3.out.mono (fun i _ h => Or.inr (Or.inr h))))
      have hw93 : w9.heap.size ≤ w3.heap.size := Hc3'.out.size
      by_cases hL0 : L.length = 0
      · have HtO : Hid (txO p nu (R.map (recD A.S B M)) = []) := hide (by
          unfold txO
          rw [if_pos (by rw [← HDe.out]; simp [List.length_eq_zero_iff.1 hL0])])
        rw [hL0]
        go_wp2_with fail
        go_ret
        refine Or.inr (Or.inr ⟨by rw [← HzE.out]; exact HFu.out, HRk.out, ?_, HT6.out, nu, n2, hn2, X, f2, ?_, fun q hq => Or.inl hq, Hc3'.out, HJ3.out, HXJ.out⟩)
        · rw [HtO.out]
          rfl
        · rw [HtO.out, ← hk2e]
          simpa [doAll, costs] using HF3.out
      · have HtO : Hid (txO p nu (R.map (recD A.S B M)) = comO p nu (L.map JR.dat) ++ appO p (L.map JR.dat)) := hide (by
          unfold txO
          rw [if_neg (by rw [← HDe.out]; intro e; have := congrArg List.length e; rw [List.length_map] at this; exact hL0 this), HDe.out])
        have HtL : Hid ((txO p nu (R.map (recD A.S B M))).length = 4 + (L.length + 3)) := hide (by
          rw [HtO.out, List.length_append]
          unfold appO clrO comO
          simp [recO_length])
        have hL1 : ¬ ((L.length : Int) = 0) := by omega
        obtain ⟨aL', cL', eL, hlL, _, _, _⟩ := HO3.out.form
        have eL' : aL' = aL ∧ cL' = cL := by
          simp only [Value.slice.injEq, true_and] at eL
          exact ⟨eL.1.symm, eL.2.symm⟩
        obtain ⟨rfl, rfl⟩ := eL'
        have HlL := hide hlL
        have HapJ : Hid (ApJ (fun i => X i ∨ i = J) aL' L) := hide (by
          refine ⟨fun hne x hx e => ?_, fun r hr hne x hx e => ?_⟩
          · have h1 := (World.ownsRow.lt HO3.out.row x.block (by rw [hx]; rfl)).1
            have h2 := HbwB.out.size
            rcases e with e | e
            · have := HXl.out _ e; omega
            · have := HH.out.jr.lt; omega
          · obtain ⟨g, h1, h2, h3, h4⟩ := (HO3.out.far r hr).2 hne
            rw [hx] at h1
            cases h1
            have h5 := HbwB.out.size
            rcases e with e | e
            · have := HXl.out _ e; simp at this; omega
            · have := HH.out.jr.lt; simp at e; omega)
        have HCo := hide (commit_j w3 J F p q nu HJ3.out hp hq X f2 A k2 n2 HF3.out HXJ.out aL' cL' L hlL (fun r hr => by have := Hat.out r hr; omega) Hby.out (by omega) HL5.out.1 (by omega) HBar.out HL5.out.2)
        have j0 := HT6.out.cell.1
        clear hlL eL
        go_wp2_with fail
        refine HCo.out.mono ?_
        rintro e9 w4 ⟨rfl, hr4⟩
        have hT4 : Txs w4 T J (.map none) (.map none) (.slice none 0 0) true := by
          obtain ⟨X4, f4, _, _, hc4, _⟩ := hr4
          exact (hc4.block T HT6.out.lt (fun e => e.elim HXT.out (fun e => HJT.out e.symm))).trans HT6.out
        have HT4 := hide hT4
        clear HCo j0
        by_cases h4 : 4 ≤ k2
        · rw [cod_ok h4]
          obtain ⟨X4, f4, hf4, hx4, hc4, hj4, hn4⟩ := hr4
          have hcost : costs (comO p nu (L.map JR.dat)) ≤ 150000 := by
            have h1 := encD_length (L.map JR.dat)
            have h2 := signOf_len nu (L.map JR.dat)
            have h3 := HL5.out.1
            simp [costs, comO, AO.cost]
            omega
          have HAp := hide (apply_j w4 J F p q _ hj4 hp hq X4 f4 _ _ _ hf4 hn4 aL' cL' L (HlL.out.chg hc4 HapJ.out) (HapJ.out.more HlL.out (fun q hq => by
            rcases hq with h | h
            · exact (hx4 q h).imp Or.inl id
            · exact Or.inl (Or.inr h))) Hat.out (by omega) HL5.out.1 (by omega))
          have HFi : Hid (∀ w', RanJ w4 w' J p q (numJ nu k2) X4 F _ _ _ (appO p (L.map JR.dat)) → RanJ w3 w' J p q (numJ nu k2) X F A k2 n2 (comO p nu (L.map JR.dat) ++ appO p (L.map JR.dat))) := hide (fun w' hr => RanJ.more hf4 hx4 hc4 HJ3.out hr)
          have HT5 : Hid (∀ (w' : World) (A' : A3) (k' n' : Nat), RanJ w4 w' J p q (numJ nu k2) X4 F A' k' n' (appO p (L.map JR.dat)) → Txs w' T J (.map none) (.map none) (.slice none 0 0) true) := hide (fun w' A' k' n' hr => by
            obtain ⟨X5, f5, _, _, hc5, _⟩ := hr
            refine (hc5.block T HT4.out.lt (fun e => ?_)).trans HT4.out
            rcases e with e | e
            · rcases hx4 T e with h | h
              · exact HXT.out h
              · have := HT6.out.lt; omega
            · exact HJT.out e.symm)
          have j0 := HT4.out.cell.1
          have hcl : (comO p nu (L.map JR.dat)).length = 4 := rfl
          rw [hcl] at HAp HFi
          clear hf4 hx4 hc4 hj4 hn4 hT4
          go_wp2_with fail
          refine HAp.out.mono ?_
          rintro e9 w5 ⟨rfl, hr5⟩
          have HT6' := hide (HT5.out w5 _ _ _ hr5)
          have HR5 := hide (HFi.out w5 hr5)
          clear hr5 HAp HFi HT5
          go_wp2_with fail
          go_ret
          obtain ⟨X6, f6, hf6, hx6, hc6, hj6, hn6⟩ := HR5.out
          refine Or.inr (Or.inr ⟨by rw [← HzE.out]; exact HFu.out, HRk.out, ?_, HT6'.out, numJ nu k2, n2, hn2, X6, f6, ?_, fun q hq => (hx6 q hq).imp id (fun h => Nat.le_trans hw93 h), Hc3'.out.trans (hc6.mono (fun i _ h => h.imp id Or.inl)), hj6, hn6⟩)
          · rw [HtL.out, ← hk2e, ← cod_sub (L.length + 3) 4 k2 h4]
            rfl
          · rw [HtO.out, ← hk2e]
            exact hf6
        · rw [cod_no h4]
          have HR5 : Hid (RanJ w3 w4 J p q (numJ nu k2) X F A k2 n2 (comO p nu (L.map JR.dat) ++ appO p (L.map JR.dat))) := hide (hr4.stop (show ¬ (comO p nu (L.map JR.dat)).length ≤ k2 from h4) _)
          clear hr4 hT4
          go_wp2_with fail
          go_ret
          obtain ⟨X6, f6, hf6, hx6, hc6, hj6, hn6⟩ := HR5.out
          refine Or.inr (Or.inr ⟨by rw [← HzE.out]; exact HFu.out, HRk.out, ?_, HT4.out, numJ nu k2, n2, hn2, X6, f6, ?_, fun q hq => (hx6 q hq).imp id (fun h => Nat.le_trans hw93 h), Hc3'.out.trans (hc6.mono (fun i _ h => h.imp id Or.inl)), hj6, hn6⟩)
          · rw [HtL.out, ← hk2e, cod_no (by omega)]
            rfl
          · rw [HtO.out, ← hk2e]
            exact hf6
    · have HT2 := hide ht2
      have HC2 : Hid (Chg X w9 w2) := hide ((Chg.of_below HbwB.out).trans hc2)
      have HK2 := hide (hk2' hrk)
      have HRk := hide hrk
      clear ht2 hc2 hk2 hk2' hrk
      go_wp2_with fail
      go_ret
      exact Or.inr (Or.inl ⟨by rw [← HzE.out]; exact HFu.out, HRk.out, rfl, ⟨f2, n2, by rw [← HK2.out]; exact HT2.out.fl, hn2, HT2.out.jr⟩, HC2.out⟩)
end Go.Proofs.YtibkhgmmjhlpmaaGreat.Oct
