/- May a table have an entry? -/
import Derived.Test.YtpbnjobjjnhplaaDoorPGpcGpd
import Derived.Deep.RegionHeld3
import Derived.Deep.RegionWith
namespace Go.Proofs.YtpbnjobjjnhplaaDoor.Oct
open Go.RowKit

theorem Tb.cells_len (t : Tb) (v : Value) (h : t.id.length = 16) : (t.cells v).length = 22 := by
  unfold Tb.cells
  simp [h]

/-- The cells of a table that the calls look at. -/
def TbC (u : World) (R : Nat) (t : Tb) (v : Value) : Prop := u.cell? ⟨R, 0, none⟩ = some (.int .i64 t.sec) ∧ u.cell? ⟨R, 1, none⟩ = some (.int .i64 t.fst) ∧ u.cell? ⟨R, 2, none⟩ = some (.int .i64 t.lst) ∧ u.cell? ⟨R, 19, none⟩ = some v ∧ u.cell? ⟨R, 20, none⟩ = some (.int .i64 t.at_) ∧ u.cell? ⟨R, 21, none⟩ = some (.int .i64 t.beh)

theorem tb_cells {u : World} {R : Nat} {t : Tb} {v : Value} (hid : t.id.length = 16) (h : Blk u R (t.cells v).toArray 25) : TbC u R t v := by
  refine ⟨h.cell 0 _ rfl, h.cell 1 _ rfl, h.cell 2 _ rfl, h.cell 19 _ ?_, h.cell 20 _ ?_, h.cell 21 _ ?_⟩
  all_goals
    rw [List.getElem?_toArray]
    unfold Tb.cells
    rw [List.getElem?_append_right (by simp), List.getElem?_append_right (by simp [hid])]
    simp [hid]

theorem tb_new (w : World) {t : Tb} {v : Value} {cs : Array Value} (hcs : cs = (t.cells v).toArray) (hid : t.id.length = 16) : TbC (w.alloc (.cells cs 25)) w.heap.size t v := tb_cells hid (by rw [← hcs]; exact Blk.new w cs 25)

theorem TbC.below {u u' : World} {R : Nat} {t : Tb} {v : Value} (h : TbC u R t v) (hb : Below u.heap.size u u') : TbC u' R t v := by
  obtain ⟨h0, h1, h2, h3, h4, h5⟩ := h
  exact ⟨(hb.cell (lt_of_cell h0)).trans h0, (hb.cell (lt_of_cell h1)).trans h1, (hb.cell (lt_of_cell h2)).trans h2, (hb.cell (lt_of_cell h3)).trans h3, (hb.cell (lt_of_cell h4)).trans h4, (hb.cell (lt_of_cell h5)).trans h5⟩

/-- The second header's sector. -/
theorem secondHead_any (t : Tb) (v : Value) (cs : Array Value) (hcs : cs = (t.cells v).toArray) (hid : t.id.length = 16) (hn : nearG t.sec) (w : World) : Calls Tryd.prog 44 #[.agg cs] w fun e w' => e = .returned (.int .i64 (t.sec - 1)) ∧ Below w.heap.size w w' := by
  obtain ⟨h0, h1, h2, h3, h4, h5⟩ := tb_new w hcs hid
  have e1 : IntKind.i64.wrap (t.sec - 1) = t.sec - 1 := by unfold nearG at hn; rw [IntKind.wrap_i64]; omega
  clear hcs hid hn
  go_enter Tryd.func44, Tryd.ntmps44
  go_wp2_with fail
  go_ret
  exact ⟨rfl, (Below.refl _ _).alloc (Nat.le_refl _) _⟩

/-- The sectors that its entries take. -/
theorem rows_any (t : Tb) (a : Option Addr) (n cap : Nat) (cs : Array Value) (hcs : cs = (t.cells (.slice a n cap)).toArray) (hid : t.id.length = 16) (hn : n ≤ 1000000) (w : World) : Calls Tryd.prog 43 #[.agg cs] w fun e w' => e = .returned (.int .i64 (rowsG n)) ∧ Below w.heap.size w w' := by
  obtain ⟨h0, h1, h2, h3, h4, h5⟩ := tb_new w hcs hid
  have HR := fun u => hide (rowsOf_any n u hn)
  clear hcs hid hn
  go_enter Tryd.func43, Tryd.ntmps43
  go_wp2_with fail
  refine (HR _).out.mono ?_
  rintro e9 w3 ⟨rfl, rfl⟩
  go_wp2_with fail
  go_ret
  exact ⟨rfl, (Below.refl _ _).alloc (Nat.le_refl _) _⟩

theorem rowsG_near (n : Nat) (h : n ≤ 1000000) : 0 ≤ rowsG n ∧ rowsG n ≤ 260000 := by
  unfold rowsG
  omega

theorem exec_ld {P : Program} {a : Act} {o : Oper} {t : TypeId} {x : Operand} {v q : Value} {w : World} (ho : o.op = .load t x) (hx : a.eval x = q) (h : (Instr.loadAt t q).run P w = .ok v w) : (execOp a.eval o).run P w = .ok (.value v) w := by
  unfold execOp
  simp only [ho, hx, Sem.run_bind, h, Result.andThen_ok, Sem.run_pure]

theorem loadT {w : World} {R : Nat} {cs : Array Value} (h : Blk w R cs 25) (hs : cs.size = 22) : (Instr.loadAt 25 (.pointer (some ⟨R, 0, none⟩))).run Tryd.prog w = .ok (.agg cs) w := by
  have := run_loadVar_row (P := Tryd.prog) w R 25 25 cs (0, 0) _ h Tryd.underlying25 rfl (by rw [hs]; kernel_rfl)
  simp [Instr.loadAt, Instr.sureAddr, this]

set_option maxHeartbeats 8000000 in
set_option maxRecDepth 100000 in
/-- Do a table's parts stand one behind the other? -/
theorem placed_any (t : Tb) (a : Option Addr) (cap : Nat) (cs : Array Value) (hcs : cs = (t.cells (.slice a t.L.length cap)).toArray) (hid : t.id.length = 16) (hn : t.L.length ≤ 1000000) (hs : nearG t.sec) (w : World) :
    Calls Tryd.prog 26 #[.agg cs] w fun e w' => e = .returned (.bool (decide t.placed)) ∧ Below w.heap.size w w' := by
  obtain ⟨w1, hw1⟩ : ∃ w1, w1 = w.alloc (.cells cs 25) := ⟨_, rfl⟩
  obtain ⟨R, hR⟩ : ∃ R, R = w.heap.size := ⟨_, rfl⟩
  have hb1 : Below w.heap.size w w1 := by rw [hw1]; exact (Below.refl _ _).alloc (Nat.le_refl _) _
  have hk1 : Blk w1 R cs 25 := by rw [hw1, hR]; exact Blk.new _ _ _
  have hsz : cs.size = 22 := by rw [hcs]; exact t.cells_len _ hid
  have HC := fun u (h : Blk u R cs 25) => hide (tb_cells (v := .slice a t.L.length cap) hid (by rw [← hcs]; exact h))
  have HSh := fun u => hide (secondHead_any t _ cs hcs hid hs u)
  have HRo := fun u => hide (rows_any t a t.L.length cap cs hcs hid hn u)
  have HRn := hide (rowsG_near t.L.length hn)
  have HSn := hide hs
  have HW1 := hide hw1
  have HB1 := hide hb1
  have HK1 := hide hk1
  have HHR := hide hR
  have HSz := hide hsz
  obtain ⟨r, hr⟩ : ∃ r, r = rowsG t.L.length := ⟨_, rfl⟩
  rw [← hr] at HRo HRn
  have HRR := hide hr
  have e1 : IntKind.i64.wrap (t.sec - 1 - r) = t.sec - 1 - r := by have := HRn.out; have := HSn.out; unfold nearG at this; rw [IntKind.wrap_i64]; omega
  clear hcs hid hn hs hw1 hb1 hk1 hsz hr hR
  go_enter Tryd.func26, Tryd.ntmps26
  go_upto_region 1 with fail
  rw [← HHR.out, ← HW1.out]

  have HS1 : (show World → Prop from fun u => Blk u R cs 25 ∧ Below w1.heap.size w1 u) w1.drew := ⟨HK1.out.drew, (Below.refl _ _).drew⟩
  refine b_region (S := fun u => Blk u R cs 25 ∧ Below w1.heap.size w1 u) (F := (fun _ => true)) (by kernel_rfl) ?_
  refine b_take 0 (some 4) (.agg cs) rfl rfl (by kernel_rfl) (by kernel_rfl) (by kernel_rfl) (by kernel_rfl) (by kernel_rfl) (fun _ _ _ h => h) (by rfl) HS1 ?_ ?_
  · intro u hSu
    have hSu := hSu
    exact exec_ld rfl rfl (loadT hSu.1 HSz.out)
  try simp only [Act.put, List.setIfInBounds_toArray, List.set_cons_zero, List.set_cons_succ]
  refine b_take 2 (some 6) (.agg cs) rfl rfl (by kernel_rfl) (by kernel_rfl) (by kernel_rfl) (by kernel_rfl) (by kernel_rfl) (fun _ _ _ h => h) (by rfl) HS1 ?_ ?_
  · intro u hSu
    have hSu := hSu
    exact exec_ld rfl rfl (loadT hSu.1 HSz.out)
  try simp only [Act.put, List.setIfInBounds_toArray, List.set_cons_zero, List.set_cons_succ]
  refine b_ready (rs := [1]) (by kernel_rfl) (by simp) ?_
  refine AllReadyB.cons (i := 1) rfl (fun K hK => ?_) AllReadyB.nil
  go_simp
  refine (HSh _).out.mono ?_
  rintro e9 w3 ⟨rfl, h3⟩
  have HS3 : (show World → Prop from fun u => Blk u R cs 25 ∧ Below w1.heap.size w1 u) w3 := ⟨HS1.1.below h3, HS1.2.trans (h3.mono HS1.2.size)⟩
  clear h3 HS1
  go_simp
  refine hK.out _ _ (fun _ => HS3) ?_
  clear hK K
  try simp only [Act.put, List.setIfInBounds_toArray, List.set_cons_zero, List.set_cons_succ]
  refine b_ready (rs := [3]) (by kernel_rfl) (by simp) ?_
  refine AllReadyB.cons (i := 3) rfl (fun K hK => ?_) AllReadyB.nil
  go_simp
  refine (HRo _).out.mono ?_
  rintro e9 w4 ⟨rfl, h4⟩
  have HS4 : (show World → Prop from fun u => Blk u R cs 25 ∧ Below w1.heap.size w1 u) w4 := ⟨HS3.1.below h4, HS3.2.trans (h4.mono HS3.2.size)⟩
  clear h4 HS3
  go_simp
  refine hK.out _ _ (fun _ => HS4) ?_
  clear hK K
  try simp only [Act.put, List.setIfInBounds_toArray, List.set_cons_zero, List.set_cons_succ]
  refine b_take 4 (some 8) (.int .i64 (t.sec - 1 - r)) rfl rfl (by kernel_rfl) (by kernel_rfl) (by kernel_rfl) (by kernel_rfl) (by kernel_rfl) (fun _ _ _ h => h) (by rfl) HS4 ?_ ?_
  · intro u hSu
    have hSu := hSu
    have e2 := e1
    go_simp
  try simp only [Act.put, List.setIfInBounds_toArray, List.set_cons_zero, List.set_cons_succ]
  refine b_take 5 (some 3) (.int .i64 (t.sec - 1 - r)) rfl rfl (by kernel_rfl) (by kernel_rfl) (by kernel_rfl) (by kernel_rfl) (by kernel_rfl) (fun _ _ _ h => h) (by rfl) HS4 ?_ ?_
  · intro u hSu
    have hSu := hSu
    go_simp
  try simp only [Act.put, List.setIfInBounds_toArray, List.set_cons_zero, List.set_cons_succ]
  refine b_done (by kernel_rfl) ?_ _

  have HB4 := hide (HB1.out.trans (HS4.2.mono HB1.out.size))
  have HK4 := hide HS4.1
  obtain ⟨c0, c1, c2, c3, c4, c5⟩ := (HC _ HS4.1).out
  clear HS4 e1
  go_wp2_with fail
  refine (within1 2 (t.sec - 1 - r) t.at_ _ _ _ ((Blk.new w4 _ _).cell 0 _ rfl)).mono ?_
  rintro e9 w5 ⟨rfl, h5⟩
  have HP : Hid (t.placed ↔ (2 ≤ t.at_ ∧ t.at_ ≤ t.sec - 1 - r) ∧ (t.at_ + r ≤ t.fst ∧ t.fst ≤ t.sec - 1) ∧ t.fst - 1 ≤ t.lst ∧ t.lst < t.beh ∧ t.beh ≤ t.sec - 1 - r) := hide (by rw [HRR.out]; exact Iff.rfl)
  have hb5 : Below w.heap.size w w5 := by rw [h5]; exact HB4.out.alloc HB4.out.size _
  have hb45 : Below w4.heap.size w4 w5 := by rw [h5]; exact (Below.refl _ _).alloc (Nat.le_refl _) _
  have hk5 : Blk w5 R cs 25 := HK4.out.below hb45
  clear h5 c0 c1 c2 c3 c4 c5 hb45
  by_cases p1 : 2 ≤ t.at_ ∧ t.at_ ≤ t.sec - 1 - r
  case neg =>
    rw [decide_eq_false p1]
    have hd := hide (decide_eq_false (p := t.placed) (fun h => p1 (HP.out.1 h).1))
    have hb5 := hide hb5
    clear p1
    go_wp2_with fail
    go_ret
    exact ⟨by rw [hd.out]; rfl, hb5.out⟩
  rw [decide_eq_true p1]
  obtain ⟨HB5, HK5⟩ := And.intro (hide hb5) (hide hk5)
  obtain ⟨c0, c1, c2, c3, c4, c5⟩ := (HC _ hk5).out
  have HP1 := hide p1
  have e1 : IntKind.i64.wrap (t.at_ + r) = t.at_ + r := by have := HRn.out; have := HSn.out; unfold nearG at this; rw [IntKind.wrap_i64]; omega
  clear hb5 hk5 p1
  obtain ⟨B, hB⟩ : ∃ B, B = decide (t.at_ + r ≤ t.fst ∧ t.fst ≤ t.sec - 1) := ⟨_, rfl⟩
  have HBB := hide hB
  clear hB
  go_upto_region 4 with fail
  go_cut [16] from 17 to 28 (fun v16 wx => v16 = .bool (!B) ∧ Blk wx R cs 25 ∧ Below w.heap.size w wx)
  case first =>
    have HS5 : (show World → Prop from fun u => Blk u R cs 25 ∧ Below w.heap.size w u) w5.drew := ⟨HK5.out.drew, HB5.out.drew⟩
    clear c0 c1 c2 c3 c4 c5
    refine b_region (S := fun u => Blk u R cs 25 ∧ Below w.heap.size w u) (F := (fun _ => true)) (by kernel_rfl) ?_
    generalize w5.drew = x0 at HS5 ⊢
    refine b_take 0 (some 17) (.pointer (some ⟨R, 20, none⟩)) rfl rfl (by kernel_rfl) (by kernel_rfl) (by kernel_rfl) (by kernel_rfl) (by kernel_rfl) (fun _ _ _ h => h) (by rfl) HS5 ?_ ?_
    · intro u hSu
      have hSu := hSu
      go_simp
    try simp only [Act.put, List.setIfInBounds_toArray, List.set_cons_zero, List.set_cons_succ]
    refine b_take 1 (some 18) (.int .i64 t.at_) rfl rfl (by kernel_rfl) (by kernel_rfl) (by kernel_rfl) (by kernel_rfl) (by kernel_rfl) (fun _ _ _ h => h) (by rfl) HS5 ?_ ?_
    · intro u hSu
      have hSu := hSu
      obtain ⟨c0, c1, c2, c3, c4, c5⟩ := (HC _ hSu.1).out
      go_simp
    try simp only [Act.put, List.setIfInBounds_toArray, List.set_cons_zero, List.set_cons_succ]
    refine b_take 2 (some 19) (.agg cs) rfl rfl (by kernel_rfl) (by kernel_rfl) (by kernel_rfl) (by kernel_rfl) (by kernel_rfl) (fun _ _ _ h => h) (by rfl) HS5 ?_ ?_
    · intro u hSu
      have hSu := hSu
      exact exec_ld rfl rfl (loadT hSu.1 HSz.out)
    try simp only [Act.put, List.setIfInBounds_toArray, List.set_cons_zero, List.set_cons_succ]
    refine b_take 5 (some 22) (.agg cs) rfl rfl (by kernel_rfl) (by kernel_rfl) (by kernel_rfl) (by kernel_rfl) (by kernel_rfl) (fun _ _ _ h => h) (by rfl) HS5 ?_ ?_
    · intro u hSu
      have hSu := hSu
      exact exec_ld rfl rfl (loadT hSu.1 HSz.out)
    try simp only [Act.put, List.setIfInBounds_toArray, List.set_cons_zero, List.set_cons_succ]
    refine b_take 7 (some 24) (.pointer (some ⟨R, 1, none⟩)) rfl rfl (by kernel_rfl) (by kernel_rfl) (by kernel_rfl) (by kernel_rfl) (by kernel_rfl) (fun _ _ _ h => h) (by rfl) HS5 ?_ ?_
    · intro u hSu
      have hSu := hSu
      go_simp
    try simp only [Act.put, List.setIfInBounds_toArray, List.set_cons_zero, List.set_cons_succ]
    refine b_take 8 (some 25) (.int .i64 t.fst) rfl rfl (by kernel_rfl) (by kernel_rfl) (by kernel_rfl) (by kernel_rfl) (by kernel_rfl) (fun _ _ _ h => h) (by rfl) HS5 ?_ ?_
    · intro u hSu
      have hSu := hSu
      obtain ⟨c0, c1, c2, c3, c4, c5⟩ := (HC _ hSu.1).out
      go_simp
    try simp only [Act.put, List.setIfInBounds_toArray, List.set_cons_zero, List.set_cons_succ]
    refine b_ready (rs := [3, 9]) (by kernel_rfl) (by simp) ?_
    refine (AllReadyB.cons (i := 3) rfl (fun K hK => ?_) (AllReadyB.cons (i := 9) rfl (fun K hK => ?_) AllReadyB.nil))
    · go_simp
      refine (HRo _).out.mono ?_
      rintro e9 x1 ⟨rfl, hx⟩
      have HT1 : (show World → Prop from fun u => Blk u R cs 25 ∧ Below w.heap.size w u) x1 := ⟨HS5.1.below hx, HS5.2.trans (hx.mono HS5.2.size)⟩
      clear hx
      go_simp
      refine hK.out _ _ (fun _ => HT1) ?_
      clear hK K
      try simp only [Act.put, List.setIfInBounds_toArray, List.set_cons_zero, List.set_cons_succ]
      refine b_take 4 (some 21) (.int .i64 (t.at_ + r)) rfl rfl (by kernel_rfl) (by kernel_rfl) (by kernel_rfl) (by kernel_rfl) (by kernel_rfl) (fun _ _ _ h => h) (by rfl) HT1 ?_ ?_
      · intro u hSu
        go_simp
      try simp only [Act.put, List.setIfInBounds_toArray, List.set_cons_zero, List.set_cons_succ]
      refine b_ready (rs := [6, 9]) (by kernel_rfl) (by simp) ?_
      refine (AllReadyB.cons (i := 6) rfl (fun K hK => ?_) (AllReadyB.cons (i := 9) rfl (fun K hK => ?_) AllReadyB.nil))
      · go_simp
        refine (HSh _).out.mono ?_
        rintro e9 x2 ⟨rfl, hx⟩
        have HT2 : (show World → Prop from fun u => Blk u R cs 25 ∧ Below w.heap.size w u) x2 := ⟨HT1.1.below hx, HT1.2.trans (hx.mono HT1.2.size)⟩
        clear hx
        go_simp
        refine hK.out _ _ (fun _ => HT2) ?_
        clear hK K
        try simp only [Act.put, List.setIfInBounds_toArray, List.set_cons_zero, List.set_cons_succ]
        refine b_ready (rs := [9]) (by kernel_rfl) (by simp) ?_
        refine (AllReadyB.cons (i := 9) rfl (fun K hK => ?_) AllReadyB.nil)
        · go_simp
          have hG := (Blk.new x2 #[.int .i64 t.fst] 2).cell 0 _ rfl
          have HT3 : (show World → Prop from fun u => Blk u R cs 25 ∧ Below w.heap.size w u) (x2.alloc (.cells #[.int .i64 t.fst] 2)) := ⟨HT2.1.below ((Below.refl _ _).alloc (Nat.le_refl _) _), HT2.2.alloc HT2.2.size _⟩
          obtain ⟨x3, hx⟩ : ∃ x3, x3 = x2.alloc (.cells #[.int .i64 t.fst] 2) := ⟨_, rfl⟩
          obtain ⟨G, hGG⟩ : ∃ G, G = x2.heap.size := ⟨_, rfl⟩
          rw [← hx, ← hGG] at hG
          rw [← hx] at HT3
          rw [← hx, ← hGG]
          clear hx hGG
          refine hK.out _ _ (fun _ => HT3) ?_
          clear hK K
          try simp only [Act.put, List.setIfInBounds_toArray, List.set_cons_zero, List.set_cons_succ]
          refine b_ready (rs := [10]) (by kernel_rfl) (by simp) ?_
          refine AllReadyB.cons (i := 10) rfl (fun K hK => ?_) AllReadyB.nil
          go_simp
          refine (within1 _ _ _ _ _ _ hG).mono ?_
          rintro e9 wz ⟨rfl, hz⟩
          rw [hz, ← HBB.out]
          clear hz
          go_simp
          refine hK.out _ _ (fun _ => HT3) ?_
          clear hK K
          try simp only [Act.put, List.setIfInBounds_toArray, List.set_cons_zero, List.set_cons_succ]
          refine b_take 11 (some 28) (.bool (!B)) rfl rfl (by kernel_rfl) (by kernel_rfl) (by kernel_rfl) (by kernel_rfl) (by kernel_rfl) (fun _ _ _ h => h) (by rfl) HT3 ?_ ?_
          · intro u hSu
            go_simp
          try simp only [Act.put, List.setIfInBounds_toArray, List.set_cons_zero, List.set_cons_succ]
          refine b_take 12 (some 16) (.bool (!B)) rfl rfl (by kernel_rfl) (by kernel_rfl) (by kernel_rfl) (by kernel_rfl) (by kernel_rfl) (fun _ _ _ h => h) (by rfl) HT3 ?_ ?_
          · intro u hSu
            go_simp
          try simp only [Act.put, List.setIfInBounds_toArray, List.set_cons_zero, List.set_cons_succ]
          refine b_done (by kernel_rfl) ?_ _
          try go_wp2
          go_meet
          exact ⟨rfl, HT3⟩
      · go_simp
        have hG := (Blk.new x1 #[.int .i64 t.fst] 2).cell 0 _ rfl
        have HT2 : (show World → Prop from fun u => Blk u R cs 25 ∧ Below w.heap.size w u) (x1.alloc (.cells #[.int .i64 t.fst] 2)) := ⟨HT1.1.below ((Below.refl _ _).alloc (Nat.le_refl _) _), HT1.2.alloc HT1.2.size _⟩
        obtain ⟨x2, hx⟩ : ∃ x2, x2 = x1.alloc (.cells #[.int .i64 t.fst] 2) := ⟨_, rfl⟩
        obtain ⟨G, hGG⟩ : ∃ G, G = x1.heap.size := ⟨_, rfl⟩
        rw [← hx, ← hGG] at hG
        rw [← hx] at HT2
        rw [← hx, ← hGG]
        clear hx hGG
        refine hK.out _ _ (fun _ => HT2) ?_
        clear hK K
        try simp only [Act.put, List.setIfInBounds_toArray, List.set_cons_zero, List.set_cons_succ]
        refine b_ready (rs := [6]) (by kernel_rfl) (by simp) ?_
        refine (AllReadyB.cons (i := 6) rfl (fun K hK => ?_) AllReadyB.nil)
        · go_simp
          refine (HSh _).out.mono ?_
          rintro e9 x3 ⟨rfl, hx⟩
          have HT3 : (show World → Prop from fun u => Blk u R cs 25 ∧ Below w.heap.size w u) x3 := ⟨HT2.1.below hx, HT2.2.trans (hx.mono HT2.2.size)⟩
          have hG := (hx.cell (lt_of_cell hG)).trans hG
          clear hx
          go_simp
          refine hK.out _ _ (fun _ => HT3) ?_
          clear hK K
          try simp only [Act.put, List.setIfInBounds_toArray, List.set_cons_zero, List.set_cons_succ]
          refine b_ready (rs := [10]) (by kernel_rfl) (by simp) ?_
          refine AllReadyB.cons (i := 10) rfl (fun K hK => ?_) AllReadyB.nil
          go_simp
          refine (within1 _ _ _ _ _ _ hG).mono ?_
          rintro e9 wz ⟨rfl, hz⟩
          rw [hz, ← HBB.out]
          clear hz
          go_simp
          refine hK.out _ _ (fun _ => HT3) ?_
          clear hK K
          try simp only [Act.put, List.setIfInBounds_toArray, List.set_cons_zero, List.set_cons_succ]
          refine b_take 11 (some 28) (.bool (!B)) rfl rfl (by kernel_rfl) (by kernel_rfl) (by kernel_rfl) (by kernel_rfl) (by kernel_rfl) (fun _ _ _ h => h) (by rfl) HT3 ?_ ?_
          · intro u hSu
            go_simp
          try simp only [Act.put, List.setIfInBounds_toArray, List.set_cons_zero, List.set_cons_succ]
          refine b_take 12 (some 16) (.bool (!B)) rfl rfl (by kernel_rfl) (by kernel_rfl) (by kernel_rfl) (by kernel_rfl) (by kernel_rfl) (fun _ _ _ h => h) (by rfl) HT3 ?_ ?_
          · intro u hSu
            go_simp
          try simp only [Act.put, List.setIfInBounds_toArray, List.set_cons_zero, List.set_cons_succ]
          refine b_done (by kernel_rfl) ?_ _
          try go_wp2
          go_meet
          exact ⟨rfl, HT3⟩
    · go_simp
      have hG := (Blk.new x0 #[.int .i64 t.fst] 2).cell 0 _ rfl
      have HT1 : (show World → Prop from fun u => Blk u R cs 25 ∧ Below w.heap.size w u) (x0.alloc (.cells #[.int .i64 t.fst] 2)) := ⟨HS5.1.below ((Below.refl _ _).alloc (Nat.le_refl _) _), HS5.2.alloc HS5.2.size _⟩
      obtain ⟨x1, hx⟩ : ∃ x1, x1 = x0.alloc (.cells #[.int .i64 t.fst] 2) := ⟨_, rfl⟩
      obtain ⟨G, hGG⟩ : ∃ G, G = x0.heap.size := ⟨_, rfl⟩
      rw [← hx, ← hGG] at hG
      rw [← hx] at HT1
      rw [← hx, ← hGG]
      clear hx hGG
      refine hK.out _ _ (fun _ => HT1) ?_
      clear hK K
      try simp only [Act.put, List.setIfInBounds_toArray, List.set_cons_zero, List.set_cons_succ]
      refine b_ready (rs := [3]) (by kernel_rfl) (by simp) ?_
      refine (AllReadyB.cons (i := 3) rfl (fun K hK => ?_) AllReadyB.nil)
      · go_simp
        refine (HRo _).out.mono ?_
        rintro e9 x2 ⟨rfl, hx⟩
        have HT2 : (show World → Prop from fun u => Blk u R cs 25 ∧ Below w.heap.size w u) x2 := ⟨HT1.1.below hx, HT1.2.trans (hx.mono HT1.2.size)⟩
        have hG := (hx.cell (lt_of_cell hG)).trans hG
        clear hx
        go_simp
        refine hK.out _ _ (fun _ => HT2) ?_
        clear hK K
        try simp only [Act.put, List.setIfInBounds_toArray, List.set_cons_zero, List.set_cons_succ]
        refine b_take 4 (some 21) (.int .i64 (t.at_ + r)) rfl rfl (by kernel_rfl) (by kernel_rfl) (by kernel_rfl) (by kernel_rfl) (by kernel_rfl) (fun _ _ _ h => h) (by rfl) HT2 ?_ ?_
        · intro u hSu
          go_simp
        try simp only [Act.put, List.setIfInBounds_toArray, List.set_cons_zero, List.set_cons_succ]
        refine b_ready (rs := [6]) (by kernel_rfl) (by simp) ?_
        refine (AllReadyB.cons (i := 6) rfl (fun K hK => ?_) AllReadyB.nil)
        · go_simp
          refine (HSh _).out.mono ?_
          rintro e9 x3 ⟨rfl, hx⟩
          have HT3 : (show World → Prop from fun u => Blk u R cs 25 ∧ Below w.heap.size w u) x3 := ⟨HT2.1.below hx, HT2.2.trans (hx.mono HT2.2.size)⟩
          have hG := (hx.cell (lt_of_cell hG)).trans hG
          clear hx
          go_simp
          refine hK.out _ _ (fun _ => HT3) ?_
          clear hK K
          try simp only [Act.put, List.setIfInBounds_toArray, List.set_cons_zero, List.set_cons_succ]
          refine b_ready (rs := [10]) (by kernel_rfl) (by simp) ?_
          refine AllReadyB.cons (i := 10) rfl (fun K hK => ?_) AllReadyB.nil
          go_simp
          refine (within1 _ _ _ _ _ _ hG).mono ?_
          rintro e9 wz ⟨rfl, hz⟩
          rw [hz, ← HBB.out]
          clear hz
          go_simp
          refine hK.out _ _ (fun _ => HT3) ?_
          clear hK K
          try simp only [Act.put, List.setIfInBounds_toArray, List.set_cons_zero, List.set_cons_succ]
          refine b_take 11 (some 28) (.bool (!B)) rfl rfl (by kernel_rfl) (by kernel_rfl) (by kernel_rfl) (by kernel_rfl) (by kernel_rfl) (fun _ _ _ h => h) (by rfl) HT3 ?_ ?_
          · intro u hSu
            go_simp
          try simp only [Act.put, List.setIfInBounds_toArray, List.set_cons_zero, List.set_cons_succ]
          refine b_take 12 (some 16) (.bool (!B)) rfl rfl (by kernel_rfl) (by kernel_rfl) (by kernel_rfl) (by kernel_rfl) (by kernel_rfl) (fun _ _ _ h => h) (by rfl) HT3 ?_ ?_
          · intro u hSu
            go_simp
          try simp only [Act.put, List.setIfInBounds_toArray, List.set_cons_zero, List.set_cons_succ]
          refine b_done (by kernel_rfl) ?_ _
          try go_wp2
          go_meet
          exact ⟨rfl, HT3⟩
  case rest =>
    obtain ⟨rfl, hkc, hbc⟩ := hcut
    have HBC := hide hbc
    obtain ⟨c0, c1, c2, c3, c4, c5⟩ := (HC _ hkc).out
    clear hkc hbc
    cases B
    case false =>
      have hd := hide (decide_eq_false (p := t.placed) (fun h => absurd HBB.out.symm (by rw [decide_eq_true (HP.out.1 h).2.1]; decide)))
      go_wp2_with fail
      go_ret
      exact ⟨by rw [hd.out]; rfl, HBC.out⟩
    have hB2 := of_decide_eq_true HBB.out.symm
    have HB2 := hide hB2
    clear hB2
    have e1 : IntKind.i64.wrap (t.fst - 1) = t.fst - 1 := by have := HRn.out; have := HSn.out; have := HB2.out; have := HP1.out; unfold nearG at *; rw [IntKind.wrap_i64]; omega
    by_cases q1 : t.lst ≥ t.fst - 1
    case neg =>
      have hd := hide (decide_eq_false (p := t.placed) (fun h => q1 (HP.out.1 h).2.2.1))
      go_wp2_with fail
      go_ret
      exact ⟨by rw [hd.out]; rfl, HBC.out⟩
    by_cases q2 : t.beh > t.lst
    case neg =>
      have hd := hide (decide_eq_false (p := t.placed) (fun h => q2 (HP.out.1 h).2.2.2.1))
      go_wp2_with fail
      go_ret
      exact ⟨by rw [hd.out]; rfl, HBC.out⟩
    by_cases q3 : t.beh ≤ t.sec - 1 - r
    case neg =>
      have hd := hide (decide_eq_false (p := t.placed) (fun h => q3 (HP.out.1 h).2.2.2.2))
      go_wp2_with fail
      go_ret
      exact ⟨by rw [hd.out]; rfl, HBC.out⟩
    have hd := hide (decide_eq_true (p := t.placed) (HP.out.2 ⟨HP1.out, HB2.out, q1, q2, q3⟩))
    go_wp2_with fail
    go_ret
    exact ⟨by rw [hd.out]; rfl, HBC.out⟩

end Go.Proofs.YtpbnjobjjnhplaaDoor.Oct

namespace Go.Proofs.YtpbnjobjjnhplaaDoor.Oct
open Go.RowKit

theorem z_ok : E4.z.ok := by unfold E4.ok E4.z; simp

theorem entE {u : World} {R : Nat} {x : E4} {xs : Array Value} (hxs : xs = x.cells.toArray) (hx : x.ok) (h : Blk u R xs 66) : u.cell? ⟨R, 32, none⟩ = some (.int .i64 x.fi) ∧ u.cell? ⟨R, 33, none⟩ = some (.int .i64 x.la) :=
  ⟨h.cell 32 _ (by rw [hxs, List.getElem?_toArray]; exact cells_fi hx), h.cell 33 _ (by rw [hxs, List.getElem?_toArray]; exact cells_la hx)⟩

set_option maxHeartbeats 8000000 in
set_option maxRecDepth 100000 in
theorem checkEntry_any (t : Tb) (v : Value) (cs : Array Value) (hcs : cs = (t.cells v).toArray) (hid : t.id.length = 16) (x : E4) (xs : Array Value) (hxs : xs = x.cells.toArray) (hx : x.ok) (w : World) :
    Calls Tryd.prog 27 #[.agg cs, .agg xs] w fun e w' => e = .returned (.int .i64 (t.chkE x)) ∧ Below w.heap.size w w' := by
  have hzs : Tryd.zeroCells66 = E4.z.cells.toArray := by kernel_rfl
  have hne := fun u => neq_E4 u x E4.z hx z_ok
  rw [← hzs, ← hxs] at hne
  have hno := fun u => none_any x hx u
  rw [← hxs] at hno
  have HNo := fun u => hide (hno u)
  have hsz : xs.size = 114 := by rw [hxs]; exact E4.cells_len hx
  obtain ⟨R, hR⟩ : ∃ R, R = w.heap.size := ⟨_, rfl⟩
  obtain ⟨w1, hw1⟩ : ∃ w1, w1 = w.alloc (.cells cs 25) := ⟨_, rfl⟩
  obtain ⟨w2, hw2⟩ : ∃ w2, w2 = w1.alloc (.cells xs 66) := ⟨_, rfl⟩
  have hs1 : w1.heap.size = R + 1 := by rw [hw1, hR]; simp
  have hb1 : Below w.heap.size w w1 := by rw [hw1]; exact (Below.refl _ _).alloc (Nat.le_refl _) _
  have hb2 : Below w1.heap.size w1 w2 := by rw [hw2]; exact (Below.refl _ _).alloc (Nat.le_refl _) _
  have hk1 : Blk w2 R cs 25 := (show Blk w1 R cs 25 by rw [hw1, hR]; exact Blk.new _ _ _).below hb2
  have hk2 : Blk w2 (R + 1) xs 66 := by rw [hw2, ← hs1]; exact Blk.new _ _ _
  have HB2 := hide (hb1.trans (hb2.mono hb1.size))
  have HC := fun u (h : Blk u R cs 25) => hide (tb_cells (v := v) hid (by rw [← hcs]; exact h))
  have HE := fun u (h : Blk u (R + 1) xs 66) => hide (entE hxs hx h)
  have HK1 := hide hk1
  have HK2 := hide hk2
  have HHR := hide hR
  have HS1 := hide hs1
  have HW1 := hide hw1
  have HW2 := hide hw2
  have HSz := hide hsz
  have HNe := fun u => hide (hne u)
  clear hcs hid hxs hx hzs hne hno hsz hR hw1 hw2 hs1 hb1 hb2 hk1 hk2
  go_enter Tryd.func27, Tryd.ntmps27
  go_upto_region 1 with fail
  rw [← HHR.out, ← HW1.out, ← HW2.out]
  go_wp2_with (first | (refine wpList_isop (.load 66 (.tmp 3)) rfl ?_; refine wpList_load_row rfl 66 (.tmp 3) rfl (R + 1) rfl 66 xs (0, 0) _ HK2.out Tryd.underlying66 rfl (by rw [HSz.out]; kernel_rfl) ?_))
  refine (HNo _).out.mono ?_
  rintro e9 w3 ⟨rfl, h3⟩
  have HK3 := hide (HK1.out.below h3)
  have HE3 := hide (HK2.out.below h3)
  have HB3 := hide (HB2.out.trans (h3.mono HB2.out.size))
  clear h3
  by_cases hn : x.none = true
  case pos =>
    rw [hn]
    by_cases hz : x = E4.z
    · have hd := hide (show t.chkE x = 0 by unfold Tb.chkE; rw [if_pos hn, if_pos hz])
      have HNe3 := hide (show (binOp .neq 66 (.agg xs) (.agg Tryd.zeroCells66)).run Tryd.prog w3 = .ok (.bool false) w3 by rw [(HNe w3).out, decide_eq_false (by simpa using hz)])
      clear hn hz
      go_wp2_with (first | (refine wpList_isop (.load 66 (.tmp 3)) rfl ?_; refine wpList_load_row rfl 66 (.tmp 3) rfl (R + 1) rfl 66 xs (0, 0) _ HE3.out Tryd.underlying66 rfl (by rw [HSz.out]; kernel_rfl) ?_) | (refine wpList_isop (.binOp .neq 66 (.tmp 7) (.tmp 8) 66) rfl ?_; refine wpList_exec rfl (exec_cmp rfl rfl rfl (guard_E4 _ _ _ _ _ _) HNe3.out) ?_))
      go_ret
      exact ⟨by rw [hd.out]; rfl, HB3.out⟩
    · have hd := hide (show t.chkE x = 11 by unfold Tb.chkE; rw [if_pos hn, if_neg hz])
      have HNe3 := hide (show (binOp .neq 66 (.agg xs) (.agg Tryd.zeroCells66)).run Tryd.prog w3 = .ok (.bool true) w3 by rw [(HNe w3).out, decide_eq_true hz])
      clear hn hz
      go_wp2_with (first | (refine wpList_isop (.load 66 (.tmp 3)) rfl ?_; refine wpList_load_row rfl 66 (.tmp 3) rfl (R + 1) rfl 66 xs (0, 0) _ HE3.out Tryd.underlying66 rfl (by rw [HSz.out]; kernel_rfl) ?_) | (refine wpList_isop (.binOp .neq 66 (.tmp 7) (.tmp 8) 66) rfl ?_; refine wpList_exec rfl (exec_cmp rfl rfl rfl (guard_E4 _ _ _ _ _ _) HNe3.out) ?_))
      go_ret
      exact ⟨by rw [hd.out]; rfl, HB3.out⟩
  case neg =>
    have hd := hide (show t.chkE x = if t.fst ≤ x.fi ∧ x.la ≤ t.lst ∧ x.fi ≤ x.la then 0 else 4 by unfold Tb.chkE; rw [if_neg hn])
    have hnf : x.none = false := by simpa using hn
    rw [hnf]
    clear hn hnf
    obtain ⟨c0, c1, c2, c3, c4, c5⟩ := (HC _ HK3.out).out
    obtain ⟨e0, e1⟩ := (HE _ HE3.out).out
    go_wp2_with fail
    have hb3 : Below w3.heap.size w3 (w3.alloc (.cells #[.int .i64 x.fi, .int .i64 x.la] 2)) := (Below.refl _ _).alloc (Nat.le_refl _) _
    have HK4 := hide (HK3.out.below hb3)
    have HE4 := hide (HE3.out.below hb3)
    have HB4 := hide (HB3.out.trans (hb3.mono HB3.out.size))
    have HN4 := hide (Blk.new w3 #[.int .i64 x.fi, .int .i64 x.la] 2)
    generalize w3.alloc (.cells #[.int .i64 x.fi, .int .i64 x.la] 2) = w4 at *
    refine (within2 t.fst t.lst x.fi x.la _ _ _ (HN4.out.cell 0 _ rfl) (HN4.out.cell 1 _ rfl)).mono ?_
    rintro e9 w5 ⟨rfl, h5⟩
    rw [h5]
    clear h5 e0 e1 c0 c1 c2 c3 c4 c5 hb3
    obtain ⟨e0, e1⟩ := (HE _ HE4.out).out
    by_cases hw : (t.fst ≤ x.fi ∧ x.fi ≤ t.lst) ∧ t.fst ≤ x.la ∧ x.la ≤ t.lst
    case neg =>
      rw [decide_eq_false hw]
      have hd := hide (hd.out.trans (if_neg (by omega)))
      clear hw
      go_wp2_with fail
      go_ret
      exact ⟨by rw [hd.out]; rfl, HB4.out⟩
    rw [decide_eq_true hw]
    by_cases hl : x.la < x.fi
    · have hd := hide (hd.out.trans (if_neg (by omega)))
      clear hw
      go_wp2_with fail
      go_ret
      exact ⟨by rw [hd.out]; rfl, HB4.out⟩
    · have hd := hide (hd.out.trans (if_pos (by omega)))
      clear hw
      go_wp2_with fail
      go_ret
      exact ⟨by rw [hd.out]; rfl, HB4.out⟩
end Go.Proofs.YtpbnjobjjnhplaaDoor.Oct
