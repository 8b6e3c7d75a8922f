/- A Commit of changes, what was written ahead included. -/
import Derived.Test.YtibkhgmmjhlpmaaGreatPJxpTzaJxqNoa
namespace Go.Proofs.YtibkhgmmjhlpmaaGreat.Oct
open Go.RowKit Go.Deep Go.Sort

set_option maxRecDepth 100000 in
theorem ahead_none (w : World) (t : Value) (a : Option Addr) (c : Nat) : Calls Tryz.prog 43 #[t, .slice a 0 c] w fun e w' => e = .returned (.int .i64 0) ∧ w' = w := by
  go_enter Tryz.func43, Tryz.ntmps43
  go_wp2_with fail
  go_ret
  exact ⟨rfl, rfl⟩

theorem ahead_all (w : World) (T J F p q : Nat) (nu : Int) (vb vm va : Value) (d : Bool) (ht : Txs w T J vb vm va d) (hJ : Jrn w J F p q nu) (X : Nat → Prop) (f : Fs) (A : A3) (k n : Nat) (h : Fl w X F f A k n) (hXT : ¬ X T) (hXJ : ¬ X J) (a : Option Addr) (cap : Nat) (R : List JR) (hR : LiesJ w a R) (hap : ApJ X a R)
    (hat : ∀ r ∈ R, 0 ≤ r.at_ ∧ r.at_ + r.b.length ≤ 4194304) (hn : R.length ≤ 1000000) (hlen : lenD (R.map JR.dat) ≤ 100000) (hnn : n ≤ 400000) :
    Calls Tryz.prog 43 #[.pointer (some ⟨T, 0, none⟩), .slice a R.length cap] w fun e w' => e = .returned (.int .i64 (cod (ahdO (R.map JR.dat)).length k)) ∧ Ran w w' X F A k n (ahdO (R.map JR.dat)) := by
  by_cases hR0 : R = []
  · subst hR0
    refine (ahead_none w _ a cap).mono ?_
    rintro e w' ⟨rfl, rfl⟩
    exact ⟨rfl, Ran.nil h⟩
  · have e : ahdO (R.map JR.dat) = recO (R.map JR.dat) ++ [.fl] := by
      unfold ahdO
      rw [if_neg (fun e => hR0 (by simpa using e))]
    rw [e]
    have hl : (recO (R.map JR.dat) ++ [AO.fl]).length = R.length + 1 := by simp [recO_length]
    rw [hl]
    exact ahead_any w T J F p q nu vb vm va d ht hJ X f A k n h hXT hXJ a cap R hR hap (List.length_pos_iff.2 hR0) hat hn hlen hnn

set_option maxRecDepth 100000 in
set_option maxHeartbeats 8000000 in
theorem commit_a (w : World) (T J F : Nat) (X : Nat → Prop) (f : Fs) (A : A3) (k n : Nat) (vb vm : Value) (aA : Option Addr) (cA : Nat) (L0 : List JR) (B M : Int → List Int) (p q : Nat) (nu : Int) (h : Txq w T J F X f A k n vb vm (.slice aA L0.length cA) B M p q nu) (hLi : LiesJ w aA L0) (hAp : ApJ (fun i => X i ∨ i = T) aA L0) (hL0 : L0.length ≤ 1000) (hLat : ∀ r ∈ L0, 0 ≤ r.at_ ∧ r.at_ + r.b.length ≤ 4194304) (hLd : lenD (L0.map JR.dat) ≤ 90000) (hn : n + lenD (L0.map JR.dat) ≤ 240000) (hp : p + 1024 ≤ q) (hq : q ≤ 4194304) (hqp : q - p ≤ 90000) (hM : ∀ s : Int, ¬ (0 ≤ s ∧ s < 8192) → ¬ 2 ∈ M s) (hno : ∀ r ∈ runsM M, ¬ (r.1 < q ∧ (p : Int) < r.2)) (hsee : ∀ i, 0 ≤ seeT A.S B M i ∧ seeT A.S B M i < 256) :
    Calls Tryz.prog 14 #[.pointer (some ⟨T, 0, none⟩)] w fun e w' =>
      ((q : Int) - ((p : Int) + 512) < sizeR (runsM M) ∧ e = .returned (.int .i64 15) ∧ Below w.heap.size w w') ∨
      (sizeR (runsM M) ≤ (q : Int) - ((p : Int) + 512) ∧ ¬ rdR A.S (runsM M) ≤ k ∧ e = .returned (.int .i64 5) ∧ (∃ f' n', Fl w' X F f' A 0 n' ∧ n' ≤ n + 8192 ∧ Jrn w' J F p q nu) ∧ Chg X w w') ∨
      (sizeR (runsM M) ≤ (q : Int) - ((p : Int) + 512) ∧ rdR A.S (runsM M) ≤ k ∧ e = .returned (.int .i64 (cod (ahdO (L0.map JR.dat) ++ txO p nu (recsM A.S B M)).length (k - rdR A.S (runsM M)))) ∧ Txs w' T J (.map none) (.map none) (.slice none 0 0) true ∧
        ∃ nu' n', n' ≤ n + 8192 ∧ ∃ X' f', Fl w' X' F f' (doAll ((ahdO (L0.map JR.dat) ++ txO p nu (recsM A.S B M)).take (k - rdR A.S (runsM M))) A) (k - rdR A.S (runsM M) - (ahdO (L0.map JR.dat) ++ txO p nu (recsM A.S B M)).length) (n' + costs (ahdO (L0.map JR.dat) ++ txO p nu (recsM A.S B M))) ∧ (∀ q, X' q → X q ∨ w.heap.size ≤ q) ∧ Chg (fun i => X i ∨ i = J ∨ i = T) w w' ∧ Jrn w' J F p q nu' ∧ ¬ X' J) := by
  have HH := hide h
  have HLi := hide hLi
  have HAp := hide hAp
  have HLat := hide hLat
  have HOp := hide (open_tx w T J vb vm _ h.tx)
  have HSz := fun u (hu : Below w.heap.size w u) => hide (size_q u T J vb vm _ false B M (h.below hu).tx (h.below hu).ov h.mm hM)
  have HRo := fun u (hu : Below w.heap.size w u) => hide (room_j u J F p q nu (h.below hu).jr hp hq)
  have HRe := fun u (hu : Below w.heap.size w u) => hide (records_q u T J F X f A k n vb vm _ B M p q nu (h.below hu) (by omega) hp hM hno)
  have HBd := hide (runsM_bd M)
  have hRl := runsM_len M
  have HNo := hide hno
  have HSee := hide hsee
  have HLn := hide (recs_len A.S B M (runsM M) (runsM_bd M))
  have HXl := hide h.fl.x
  have hTl := h.tx.lt
  have hS0 : (fun u : World => u.cell? ⟨T, 0, none⟩ = some (.pointer (some ⟨J, 0, none⟩))) w.drew := h.tx.cell.1
  have hd0 : Below w.heap.size w w.drew := (Below.refl _ _).drew
  have hsb := (sizeR_bd _ (runsM_bd M))
  clear hno h hM hsee hLi hAp hLat
  obtain ⟨D0, hD0⟩ : ∃ D0, D0 = L0.map JR.dat := ⟨_, rfl⟩
  rw [← hD0] at hLd hn ⊢
  have HD0 := hide hD0
  clear hD0
  unfold recsM at *
  generalize runsM M = R at *
  go_enter Tryz.func14, Tryz.ntmps14
  go_wp2_with fail
  refine HOp.out.mono ?_
  rintro e9 w9 ⟨rfl, h9⟩
  subst h9
  go_wp2_with fail
  refine wp_region_held_drew (S := (fun u : World => u.cell? ⟨T, 0, none⟩ = some (.pointer (some ⟨J, 0, none⟩)))) (by kernel_rfl) hS0 (fun _ => ?_)
  refine any_take 0 (some 14) (.pointer (some ⟨T, 0, none⟩)) rfl rfl (by kernel_rfl) (by kernel_rfl) (by kernel_rfl) (fun _ _ _ h => h) (by rfl) hS0 ?_ ?_
  · intro u hSu
    go_simp
  simp only [Act.put, List.setIfInBounds_toArray, List.set_cons_zero, List.set_cons_succ]
  refine any_take 2 (some 16) (.pointer (some ⟨T, 0, none⟩)) rfl rfl (by kernel_rfl) (by kernel_rfl) (by kernel_rfl) (fun _ _ _ h => h) (by rfl) hS0 ?_ ?_
  · intro u hSu
    go_simp
  simp only [Act.put, List.setIfInBounds_toArray, List.set_cons_zero, List.set_cons_succ]
  refine any_take 3 (some 17) (.pointer (some ⟨T, 0, none⟩)) rfl rfl (by kernel_rfl) (by kernel_rfl) (by kernel_rfl) (fun _ _ _ h => h) (by rfl) hS0 ?_ ?_
  · intro u hSu
    go_simp
  simp only [Act.put, List.setIfInBounds_toArray, List.set_cons_zero, List.set_cons_succ]
  refine any_take 4 (some 18) (.pointer (some ⟨T, 0, none⟩)) rfl rfl (by kernel_rfl) (by kernel_rfl) (by kernel_rfl) (fun _ _ _ h => h) (by rfl) hS0 ?_ ?_
  · intro u hSu
    go_simp
  simp only [Act.put, List.setIfInBounds_toArray, List.set_cons_zero, List.set_cons_succ]
  refine any_take 5 (some 19) (.pointer (some ⟨J, 0, none⟩)) rfl rfl (by kernel_rfl) (by kernel_rfl) (by kernel_rfl) (fun _ _ _ h => h) (by rfl) hS0 ?_ ?_
  · intro u hSu
    go_simp
  simp only [Act.put, List.setIfInBounds_toArray, List.set_cons_zero, List.set_cons_succ]
  refine wpAnyH_ready (rs := [1]) (by kernel_rfl) (by simp) ?_
  refine AllReadyH.cons (i := 1) rfl (fun K hK => ?_) AllReadyH.nil
  go_simp
  refine ((HSz _ hd0).out).mono ?_
  rintro e9 wA ⟨rfl, hbA⟩
  have hbwA := hd0.trans (hbA.mono hd0.size)
  go_simp
  refine hK.out _ _ (show (fun u : World => u.cell? ⟨T, 0, none⟩ = some (.pointer (some ⟨J, 0, none⟩))) wA from (hbwA.cell (p := ⟨T, 0, none⟩) hTl).trans hS0) (fun _ => ?_)
  clear hK K
  try simp only [Act.put, List.setIfInBounds_toArray, List.set_cons_zero, List.set_cons_succ]
  refine wpAnyH_ready (rs := [6]) (by kernel_rfl) (by simp) ?_
  refine AllReadyH.cons (i := 6) rfl (fun K hK => ?_) AllReadyH.nil
  go_simp
  refine ((HRo wA hbwA).out).mono ?_
  rintro e9 wB ⟨rfl, hbB⟩
  have hbwB := hbwA.trans (hbB.mono hbwA.size)
  go_simp
  refine hK.out _ _ (show (fun u : World => u.cell? ⟨T, 0, none⟩ = some (.pointer (some ⟨J, 0, none⟩))) wB from (hbwB.cell (p := ⟨T, 0, none⟩) hTl).trans hS0) (fun _ => ?_)
  clear hK K
  try simp only [Act.put, List.setIfInBounds_toArray, List.set_cons_zero, List.set_cons_succ]
  obtain ⟨z, hz⟩ : ∃ z, z = sizeR R := ⟨_, rfl⟩
  rw [← hz] at hsb HLn ⊢
  have HzE := hide hz
  clear hz
  refine any_take 7 (some 21) (.bool (decide ((q : Int) - ((p : Int) + 512) < z))) rfl rfl (by kernel_rfl) (by kernel_rfl) (by kernel_rfl) (fun _ _ _ h => h) (by rfl) (show (fun u : World => u.cell? ⟨T, 0, none⟩ = some (.pointer (some ⟨J, 0, none⟩))) wB from (hbwB.cell (p := ⟨T, 0, none⟩) hTl).trans hS0) ?_ ?_
  · intro u hSu
    go_simp
  simp only [Act.put, List.setIfInBounds_toArray, List.set_cons_zero, List.set_cons_succ]
  refine wpAnyH_done (by kernel_rfl) ?_ _
  have HbwB := hide hbwB
  clear hbA hbB hbwA hbwB HSz HRo HOp hS0 hd0
  apply_assumption
  by_cases hfull : (q : Int) - ((p : Int) + 512) < z
  · rw [decide_eq_true hfull]
    have HFu := hide hfull
    clear hfull
    go_wp2_with fail
    go_ret
    exact Or.inl ⟨by rw [← HzE.out]; exact HFu.out, rfl, HbwB.out⟩
  · rw [decide_eq_false hfull]
    have HFu : Hid (z ≤ (q : Int) - ((p : Int) + 512)) := hide (by omega)
    have HRe1 := HRe wB HbwB.out
    clear hfull HRe
    go_wp2_with fail
    refine HRe1.out.mono ?_
    rintro e9 w2 ⟨⟨f2, k2, n2, ht2, hk2, hk2', hn2⟩, hc2, ⟨hrk, v2, L, rfl, ho2, hd2⟩ | ⟨hrk, rfl⟩⟩
    · have hk2e := hk2 hrk
      have HRk := hide hrk
      have HDe := hide hd2
      have hLl : L.length = R.length := by have := congrArg List.length hd2; rw [List.length_map, List.length_map] at this; exact this
      have hLb : L.length ≤ 8192 := by omega
      clear hLl
      have HMem : Hid (∀ r ∈ L, ∃ x ∈ R, r.at_ = x.1 ∧ r.b = (List.range (x.2 - x.1).toNat).map (fun i => seeT A.S B M (x.1.toNat + i))) := hide (fun r hr => by
        have hm : r.dat ∈ R.map (recD A.S B M) := by rw [← hd2]; exact List.mem_map_of_mem hr
        obtain ⟨x, hx, e⟩ := List.mem_map.1 hm
        refine ⟨x, hx, ?_, ?_⟩
        · exact (congrArg Prod.fst e).symm
        · exact (congrArg Prod.snd e).symm)
      have HL5 : Hid (lenD (L.map JR.dat) ≤ 100000 ∧ (lenD (L.map JR.dat) : Int) ≤ (q : Int) - ((p : Int) + 512)) := hide (by
        rw [hd2]
        have h1 := HLn.out
        have h2 := HFu.out
        omega)
      have Hat : Hid (∀ r ∈ L, 0 ≤ r.at_ ∧ r.at_ + r.b.length ≤ 4194304) := hide (fun r hr => by
        obtain ⟨x, hx, e1, e2⟩ := HMem.out r hr
        have hb := HBd.out x hx
        rw [e1, e2, List.length_map, List.length_range]
        omega)
      have Hby : Hid (∀ r ∈ L, Byts r.b) := hide (fun r hr i => by
        obtain ⟨x, hx, e1, e2⟩ := HMem.out r hr
        rw [e2, List.getD_eq_getElem?_getD]
        by_cases hi : i < (x.2 - x.1).toNat
        · simp only [List.getElem?_map, List.getElem?_range hi, Option.map_some, Option.getD_some]
          exact HSee.out _
        · rw [List.getElem?_eq_none (by simp; omega)]
          simp)
      have HBar : Hid (anyB p q L = false) := hide (by
        unfold anyB
        rw [List.any_eq_false]
        intro r hr
        obtain ⟨x, hx, e1, e2⟩ := HMem.out r hr
        have hb := HBd.out x hx
        have hnx := HNo.out x hx
        have hl : r.b.length = (x.2 - x.1).toNat := by rw [e2, List.length_map, List.length_range]
        unfold barB
        rw [e1, hl]
        simp
        omega)
      have hTw : T < w2.heap.size := ht2.tx.lt
      have hT2 : Blk w2 T #[.pointer (some ⟨J, 0, none⟩), vb, vm, .slice aA L0.length cA, .bool false] 92 := ht2.tx
      have c0 := hT2.cell 0 _ rfl
      have c1 := hT2.cell 1 _ rfl
      have c2 := hT2.cell 2 _ rfl
      have c3 := hT2.cell 3 _ rfl
      have c4 := hT2.cell 4 _ rfl
      have hT3 := hT2.set 1 (.map none)
      have hT4 := hT3.set 2 (.map none)
      have hT5 := hT4.set 3 (.slice none 0 0)
      have hT6 := hT5.set 4 (.bool true)
      have f1 := hT2.frozen 1
      have f2' := hT3.frozen 2
      have f3 := hT4.frozen 3
      have f4 := hT5.frozen 4
      have hc3 : Chg (fun i => i = T) w2 ((((w2.setCell ⟨T, 1, none⟩ (.map none)).setCell ⟨T, 2, none⟩ (.map none)).setCell ⟨T, 3, none⟩ (.slice none 0 0)).setCell ⟨T, 4, none⟩ (.bool true))     := ((((Chg.refl (fun i => i = T) w2).setCell T 1 _ (fun _ => rfl)).setCell T 2 _ (fun _ => rfl)).setCell T 3 _ (fun _ => rfl)).setCell T 4 _ (fun _ => rfl)
      have HT6 : Hid (Txs ((((w2.setCell ⟨T, 1, none⟩ (.map none)).setCell ⟨T, 2, none⟩ (.map none)).setCell ⟨T, 3, none⟩ (.slice none 0 0)).setCell ⟨T, 4, none⟩ (.bool true)) T J (.map none) (.map none) (.slice none 0 0) true) := hide hT6
      have HC3 := hide hc3
      have HF3 : Hid (Fl ((((w2.setCell ⟨T, 1, none⟩ (.map none)).setCell ⟨T, 2, none⟩ (.map none)).setCell ⟨T, 3, none⟩ (.slice none 0 0)).setCell ⟨T, 4, none⟩ (.bool true)) X F f2 A k2 n2) := hide (ht2.fl.chg hc3 (fun i _ hX e => ht2.xT (e ▸ hX)))
      have HJ3 : Hid (Jrn ((((w2.setCell ⟨T, 1, none⟩ (.map none)).setCell ⟨T, 2, none⟩ (.map none)).setCell ⟨T, 3, none⟩ (.slice none 0 0)).setCell ⟨T, 4, none⟩ (.bool true)) J F p q nu) := hide ((hc3.block J ht2.jr.lt (fun e => ht2.jt e)).trans ht2.jr)
      have HO3 : Hid (OwnK ((((w2.setCell ⟨T, 1, none⟩ (.map none)).setCell ⟨T, 2, none⟩ (.map none)).setCell ⟨T, 3, none⟩ (.slice none 0 0)).setCell ⟨T, 4, none⟩ (.bool true)) wB.heap.size v2 L) := hide (ho2.chg hc3 (fun i hi e => by have := HbwB.out.size; omega))
      have HXT := hide ht2.xT
      have HXJ := hide ht2.xJ
      have HJT := hide ht2.jt
      have HC2 : Hid (Chg X w9 w2) := hide ((Chg.of_below HbwB.out).trans hc2)
      obtain ⟨aL, cL, rfl, _, hLc, hLm, _⟩ := ho2.form
      clear hT2 hT3 hT4 hT5 hT6 hc3 ht2 hk2 hk2' hc2 hd2 ho2 hrk
      go_wp2_with fail
      generalize (((w2.setCell ⟨T, 1, none⟩ (.map none)).setCell ⟨T, 2, none⟩ (.map none)).setCell ⟨T, 3, none⟩ (.slice none 0 0)).setCell ⟨T, 4, none⟩ (.bool true) = w3 at *
      clear c0 c1 c2 c3 c4 f1 f2' f3 f4
      have Hc3' : Hid (Chg (fun i => X i ∨ i = T) w9 w3) := hide ((HC2.out.mono (fun i _ h => Or.inl h)).trans (HC3.out.mono (fun i _ h => Or.inr h)))
      have hw93 : w9.heap.size ≤ w3.heap.size := Hc3'.out.size
      have HAh := hide (ahead_all w3 T J F p q nu _ _ _ _ HT6.out HJ3.out X f2 A k2 n2 HF3.out HXT.out HXJ.out aA cA L0 (HLi.out.chg Hc3'.out HAp.out) ⟨fun hne x hx e => HAp.out.row hne x hx (Or.inl e), fun r hr hne x hx e => HAp.out.bytes r hr hne x hx (Or.inl e)⟩ HLat.out (by omega) (by rw [← HD0.out]; omega) (by omega))
      rw [← HD0.out] at HAh
      have HD0c : Hid (costs (ahdO D0) ≤ lenD D0 + 1) := hide (by
        unfold ahdO
        split
        · simp [costs]
        · rw [costs_append]
          have := recO_cost D0
          simp [costs, AO.cost] at this ⊢
          omega)
      refine HAh.out.mono ?_
      rintro e9 wa ⟨rfl, hra⟩
      clear HAh
      have HFin : Hid (∀ (w' : World) (nu' : Int), RanJ w3 w' J p q nu' X F A k2 n2 (ahdO D0 ++ txO p nu (R.map (recD A.S B M))) → Txs w' T J (.map none) (.map none) (.slice none 0 0) true → (cod (ahdO D0 ++ txO p nu (R.map (recD A.S B M))).length k2 = cod (ahdO D0 ++ txO p nu (R.map (recD A.S B M))).length (k - rdR A.S R)) ∧ ∃ nu' n', n' ≤ n + 8192 ∧ ∃ X' f', Fl w' X' F f' (doAll ((ahdO D0 ++ txO p nu (R.map (recD A.S B M))).take (k - rdR A.S R)) A) (k - rdR A.S R - (ahdO D0 ++ txO p nu (R.map (recD A.S B M))).length) (n' + costs (ahdO D0 ++ txO p nu (R.map (recD A.S B M)))) ∧ (∀ q, X' q → X q ∨ w9.heap.size ≤ q) ∧ Chg (fun i => X i ∨ i = J ∨ i = T) w9 w' ∧ Jrn w' J F p q nu' ∧ ¬ X' J) := hide (fun w' nu' hr _ => by
        obtain ⟨X6, f6, hf6, hx6, hc6, hj6, hn6⟩ := hr
        rw [← hk2e]
        refine ⟨rfl, nu', n2, hn2, X6, f6, hf6, fun q hq => (hx6 q hq).imp id (fun h => Nat.le_trans hw93 h), (Hc3'.out.mono (fun i _ h => h.imp id Or.inr)).trans (hc6.mono (fun i _ h => h.imp id Or.inl)), hj6, hn6⟩)
      have Hz3 : Hid (sizeR R ≤ (q : Int) - ((p : Int) + 512)) := hide (by rw [← HzE.out]; exact HFu.out)
      by_cases hka : (ahdO D0).length ≤ k2
      · rw [cod_ok hka]
        obtain ⟨X3, f3, hF3a, hx3, hc3a⟩ := hra
        have HMo : Hid (∀ (w' : World) (nu' : Int) (ps : List AO), RanJ wa w' J p q nu' X3 F (doAll ((ahdO D0).take k2) A) (k2 - (ahdO D0).length) (n2 + costs (ahdO D0)) ps → RanJ w3 w' J p q nu' X F A k2 n2 (ahdO D0 ++ ps)) := hide (fun w' nu' ps hr => RanJ.more hF3a hx3 (hc3a.mono (fun i _ h => Or.inl h)) HJ3.out hr)
        have hn3 : n2 + costs (ahdO D0) ≤ n + lenD D0 + 8193 := by have := HD0c.out; omega
        have HT7 : Hid (Txs wa T J (.map none) (.map none) (.slice none 0 0) true) := hide ((hc3a.block T HT6.out.lt HXT.out).trans HT6.out)
        have HJ7 : Hid (Jrn wa J F p q nu) := hide ((hc3a.block J HJ3.out.lt HXJ.out).trans HJ3.out)
        have HO7 : Hid (OwnK wa wB.heap.size (.slice aL L.length cL) L) := hide (HO3.out.chg hc3a (fun i hi e => by have := HXl.out i e; have := HbwB.out.size; omega))
        have HXT7 : Hid (¬ X3 T) := hide (fun e => (hx3 T e).elim HXT.out (fun e => by have := HT6.out.lt; omega))
        have HXJ7 : Hid (¬ X3 J) := hide (fun e => (hx3 J e).elim HXJ.out (fun e => by have := HJ3.out.lt; omega))
        have HXl7 : Hid (∀ i, X3 i → i < w9.heap.size ∨ w3.heap.size ≤ i) := hide (fun i e => (hx3 i e).imp (HXl.out i) id)
        have HrL : Hid (∀ x : Addr, aL = some x → L ≠ [] → wB.heap.size ≤ x.block ∧ x.block < w3.heap.size) := hide (fun x hx hne => by
          have h1 := World.ownsRow.lt HO3.out.row x.block (by rw [hx]; rfl)
          exact h1)
        have HrB : Hid (∀ r ∈ L, r.b ≠ [] → ∀ x, r.a = some x → wB.heap.size ≤ x.block ∧ x.block < w3.heap.size) := hide (fun r hr hne x hx => by
          obtain ⟨g, h1, h2, h3, h4⟩ := (HO3.out.far r hr).2 hne
          rw [hx] at h1
          cases h1
          exact ⟨h2, h3⟩)
        have HF7 := hide hF3a
        have hk3 : k2 - (ahdO D0).length + (ahdO D0).length = k2 := by omega
        have HCs : Hid (∀ l, cod l (k2 - (ahdO D0).length) = cod ((ahdO D0).length + l) k2) := hide (fun l => cod_sub l _ k2 hka)
        clear hF3a hx3 hc3a hka HO3 HT6 HJ3 HF3
        generalize hA3 : doAll ((ahdO D0).take k2) A = A3' at *
        generalize hK3 : k2 - (ahdO D0).length = k3 at *
        generalize hN3 : n2 + costs (ahdO D0) = n3 at *
        clear hA3 hK3 hN3 hk3
        by_cases hL0' : L.length = 0
        · have HtO : Hid (txO p nu (R.map (recD A.S B M)) = []) := hide (by
            unfold txO
            rw [if_pos (by rw [← HDe.out]; simp [List.length_eq_zero_iff.1 hL0'])])
          have HR5 : Hid (RanJ w3 wa J p q nu X F A k2 n2 (ahdO D0 ++ txO p nu (R.map (recD A.S B M)))) := hide (HMo.out _ _ _ (by
            rw [HtO.out]
            exact ⟨X3, f3, by simpa [doAll, costs] using HF7.out, fun _ h => Or.inl h, Chg.refl _ _, HJ7.out, HXJ7.out⟩))
          have HCk : Hid (cod (ahdO D0 ++ txO p nu (R.map (recD A.S B M))).length k2 = 0) := hide (by
            rw [HtO.out, List.append_nil]
            have := HCs.out 0
            rw [Nat.add_zero] at this
            rw [← this]
            exact cod_ok (Nat.zero_le _))
          rw [hL0']
          go_wp2_with fail
          go_ret
          obtain ⟨e1, e2⟩ := HFin.out _ _ HR5.out HT7.out
          refine Or.inr (Or.inr ⟨Hz3.out, HRk.out, ?_, HT7.out, e2⟩)
          rw [← e1, HCk.out]
          rfl
        · have HtO : Hid (txO p nu (R.map (recD A.S B M)) = comO p nu (L.map JR.dat) ++ appO p (L.map JR.dat)) := hide (by
            unfold txO
            rw [if_neg (by rw [← HDe.out]; intro e; have := congrArg List.length e; rw [List.length_map] at this; exact hL0' this), HDe.out])
          have HtL : Hid ((txO p nu (R.map (recD A.S B M))).length = 4 + (L.length + 3)) := hide (by
            rw [HtO.out, List.length_append]
            unfold appO clrO comO
            simp [recO_length])
          have hL1 : ¬ ((L.length : Int) = 0) := by omega
          have HLn : Hid (L ≠ []) := hide (fun e => hL0' (by rw [e]; rfl))
          obtain ⟨aL', cL', eL, hlL, _, _, _⟩ := HO7.out.form
          have eL' : aL' = aL ∧ cL' = cL := by
            simp only [Value.slice.injEq, true_and] at eL
            exact ⟨eL.1.symm, eL.2.symm⟩
          obtain ⟨rfl, rfl⟩ := eL'
          have HlL := hide hlL
          have HapJ : Hid (ApJ (fun i => X3 i ∨ i = J) aL' L) := hide (by
            have h9 := HbwB.out.size
            have hj := HH.out.jr.lt
            refine ⟨fun hne x hx e => ?_, fun r hr hne x hx e => ?_⟩
            · have h1 := HrL.out x hx hne
              rcases e with e | e
              · rcases HXl7.out _ e with h | h <;> omega
              · omega
            · have h1 := HrB.out r hr hne x hx
              rcases e with e | e
              · rcases HXl7.out _ e with h | h <;> omega
              · omega)
          have HCo := hide (commit_j wa J F p q nu HJ7.out hp hq X3 f3 A3' k3 n3 HF7.out HXJ7.out aL' cL' L hlL (fun r hr => by have := Hat.out r hr; omega) Hby.out (by omega) HL5.out.1 (by omega) HBar.out HL5.out.2)
          have j0 := HT7.out.cell.1
          clear hlL eL
          go_wp2_with fail
          refine HCo.out.mono ?_
          rintro e9 w4 ⟨rfl, hr4⟩
          have hT4 : Txs w4 T J (.map none) (.map none) (.slice none 0 0) true := by
            obtain ⟨X4, f4, _, _, hc4, _⟩ := hr4
            exact (hc4.block T HT7.out.lt (fun e => e.elim HXT7.out (fun e => HJT.out e.symm))).trans HT7.out
          have HT4 := hide hT4
          clear HCo j0
          by_cases h4 : 4 ≤ k3
          · rw [cod_ok h4]
            obtain ⟨X4, f4, hf4, hx4, hc4, hj4, hn4⟩ := hr4
            have hcost : costs (comO p nu (L.map JR.dat)) ≤ 150000 := by
              have h1 := encD_length (L.map JR.dat)
              have h2 := signOf_len nu (L.map JR.dat)
              have h3 := HL5.out.1
              simp [costs, comO, AO.cost]
              omega
            have HAp' := hide (apply_j w4 J F p q _ hj4 hp hq X4 f4 _ _ _ hf4 hn4 aL' cL' L (HlL.out.chg hc4 HapJ.out) (HapJ.out.more HlL.out (fun q hq => by
              rcases hq with h | h
              · exact (hx4 q h).imp Or.inl id
              · exact Or.inl (Or.inr h))) Hat.out (by omega) HL5.out.1 (by omega))
            have HFi : Hid (∀ w', RanJ w4 w' J p q (numJ nu k3) X4 F _ _ _ (appO p (L.map JR.dat)) → RanJ wa w' J p q (numJ nu k3) X3 F A3' k3 n3 (comO p nu (L.map JR.dat) ++ appO p (L.map JR.dat))) := hide (fun w' hr => RanJ.more hf4 hx4 hc4 HJ7.out hr)
            have HT5 : Hid (∀ (w' : World) (A' : A3) (k' n' : Nat), RanJ w4 w' J p q (numJ nu k3) X4 F A' k' n' (appO p (L.map JR.dat)) → Txs w' T J (.map none) (.map none) (.slice none 0 0) true) := hide (fun w' A' k' n' hr => by
              obtain ⟨X5, f5, _, _, hc5, _⟩ := hr
              refine (hc5.block T HT4.out.lt (fun e => ?_)).trans HT4.out
              rcases e with e | e
              · rcases hx4 T e with h | h
                · exact HXT7.out h
                · have := HT7.out.lt; omega
              · exact HJT.out e.symm)
            have j0 := HT4.out.cell.1
            have hcl : (comO p nu (L.map JR.dat)).length = 4 := rfl
            rw [hcl] at HAp' HFi
            clear hf4 hx4 hc4 hj4 hn4 hT4
            go_wp2_with fail
            refine HAp'.out.mono ?_
            rintro e9 w5 ⟨rfl, hr5⟩
            have HT6' := hide (HT5.out w5 _ _ _ hr5)
            have HR5 := hide (HMo.out _ _ _ (HFi.out w5 hr5))
            clear hr5 HAp' HFi HT5
            go_wp2_with fail
            go_ret
            have HR6 := HR5.out
            rw [← HtO.out] at HR6
            obtain ⟨e1, e2⟩ := HFin.out _ _ HR6 HT6'.out
            refine Or.inr (Or.inr ⟨Hz3.out, HRk.out, ?_, HT6'.out, e2⟩)
            rw [← e1, List.length_append, ← HCs.out, HtL.out, ← cod_sub (L.length + 3) 4 k3 h4]
            rfl
          · rw [cod_no h4]
            have HR5 : Hid (RanJ w3 w4 J p q (numJ nu k3) X F A k2 n2 (ahdO D0 ++ (comO p nu (L.map JR.dat) ++ appO p (L.map JR.dat)))) := hide (HMo.out _ _ _ (hr4.stop (show ¬ (comO p nu (L.map JR.dat)).length ≤ k3 from h4) _))
            clear hr4 hT4
            go_wp2_with fail
            go_ret
            have HR6 := HR5.out
            rw [← HtO.out] at HR6
            obtain ⟨e1, e2⟩ := HFin.out _ _ HR6 HT4.out
            refine Or.inr (Or.inr ⟨Hz3.out, HRk.out, ?_, HT4.out, e2⟩)
            rw [← e1, List.length_append, ← HCs.out, HtL.out, cod_no (by omega)]
            rfl
      · rw [cod_no hka]
        have HR5 : Hid (RanJ w3 wa J p q nu X F A k2 n2 (ahdO D0 ++ txO p nu (R.map (recD A.S B M)))) := hide ((hra.jrn HJ3.out HXJ.out).stop hka _)
        have HT7 : Hid (Txs wa T J (.map none) (.map none) (.slice none 0 0) true) := hide (by
          obtain ⟨X3, f3, _, _, hc3a⟩ := hra
          exact (hc3a.block T HT6.out.lt HXT.out).trans HT6.out)
        have HCn : Hid (cod (ahdO D0 ++ txO p nu (R.map (recD A.S B M))).length k2 = 5) := hide (cod_no (by rw [List.length_append]; omega))
        clear hra hka
        go_wp2_with fail
        go_ret
        obtain ⟨e1, e2⟩ := HFin.out _ _ HR5.out HT7.out
        refine Or.inr (Or.inr ⟨Hz3.out, HRk.out, ?_, HT7.out, e2⟩)
        rw [← e1, HCn.out]
        rfl
    · have HT2 := hide ht2
      have HC2 : Hid (Chg X w9 w2) := hide ((Chg.of_below HbwB.out).trans hc2)
      have HK2 := hide (hk2' hrk)
      have HRk := hide hrk
      clear ht2 hc2 hk2 hk2' hrk
      go_wp2_with fail
      go_ret
      exact Or.inr (Or.inl ⟨by rw [← HzE.out]; exact HFu.out, HRk.out, rfl, ⟨f2, n2, by rw [← HK2.out]; exact HT2.out.fl, hn2, HT2.out.jr⟩, HC2.out⟩)
end Go.Proofs.YtibkhgmmjhlpmaaGreat.Oct
