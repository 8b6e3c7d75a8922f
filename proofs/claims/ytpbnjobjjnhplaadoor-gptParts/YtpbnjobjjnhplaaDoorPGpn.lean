/- of: the document's table. -/
import Derived.Test.YtpbnjobjjnhplaaDoorPGpvGpm
namespace Go.Proofs.YtpbnjobjjnhplaaDoor.Oct
open Go.RowKit

theorem tb_lies {u : World} {R : Nat} {t : Tb} {v : Value} {cs : Array Value} (hcs : cs = (t.cells v).toArray) (_ : t.id.length = 16) (h : Blk u R cs 25) : Lies u (some ⟨R, 3, none⟩) t.id := by
  refine Or.inr ⟨R, 3, rfl, h.lt, fun k hk => ?_⟩
  refine h.cell (3 + k) _ ?_
  rw [hcs, List.getElem?_toArray]
  unfold Tb.cells
  rw [List.getElem?_append_right (by simp), List.getElem?_append_left (by simp; omega)]
  simp [hk]

theorem ids_lies {u : World} {R : Nat} {x : E4} {xs : Array Value} (hxs : xs = x.cells.toArray) (_ : x.ok) (h : Blk u R xs 66) : Lies u (some ⟨R, 0, none⟩) x.ids := by
  refine Or.inr ⟨R, 0, rfl, h.lt, fun k hk => ?_⟩
  refine h.cell (0 + k) _ ?_
  rw [hxs, List.getElem?_toArray, Nat.zero_add]
  unfold E4.cells
  rw [List.getElem?_append_left (by simp; omega)]
  simp [hk]

theorem rest_lies {u : World} {R : Nat} {x : E4} {xs : Array Value} (hxs : xs = x.cells.toArray) (hx : x.ok) (h : Blk u R xs 66) : Lies u (some ⟨R, 34, none⟩) x.rest := by
  refine Or.inr ⟨R, 34, rfl, h.lt, fun k hk => ?_⟩
  refine h.cell (34 + k) _ ?_
  rw [hxs, List.getElem?_toArray]
  unfold E4.cells
  rw [← List.append_assoc, List.getElem?_append_right (by simp [hx.1])]
  simp [hx.1, hk]

theorem exec_apG {P : Program} {a : Act} {o : Oper} {s x : Operand} {t : TypeId} {v q v' : Value} {w w' : World} (ho : o.op = .call { callee := .builtin .append, args := #[s, x], argTypes := #[t, t] }) (hs : a.eval s = v) (hx : a.eval x = q) (h : (Builtin.append_ #[t, t] o.type #[v, q]).run P w = .ok v' w') : (execOp a.eval o).run P w = .ok (.value v') w' := by
  unfold execOp
  simp only [ho, resolve, invoke, builtin, Sem.run_bind, Sem.run_pure, Result.andThen_ok, List.map_toArray, List.map_cons, List.map_nil, hs, hx, h]

theorem OwnD.sliceG {w : World} {B : Nat} {v : Value} {V : List D4} (h : OwnD w B v V) : ∃ a n c, v = .slice a n c := by
  rcases h.2 with ⟨rfl, _⟩ | ⟨g, cap, cur, rfl, _⟩
  · exact ⟨_, _, _, rfl⟩
  · exact ⟨_, _, _, rfl⟩

theorem rc_all (t : Tb) (a b : Option Addr) (n m c d : Nat) : (t.rc (.slice a n c) (.slice b m d)).all (·.oneCell') = true := by simp [Value.oneCell']

set_option maxHeartbeats 16000000 in
set_option maxRecDepth 100000 in
theorem of_any (t : Tb) (a : Option Addr) (cap : Nat) (cs : Array Value) (hcs : cs = (t.cells (.slice a t.L.length cap)).toArray) (hid : t.id.length = 16) (hok : ∀ x ∈ t.L, x.ok) (hlen : t.L.length ≤ 1000000) (w : World) (hl : LiesEn w a t.L) :
    Calls Tryd.prog 11 #[.agg cs] w fun e w' => (∃ vi b c, e = .returned (.agg (t.rc vi (.slice b t.L.length c))) ∧ SlG w' vi t.id ∧ LiesD w' b t.L) ∧ Below w.heap.size w w' := by
  obtain ⟨n, hn⟩ : ∃ n, n = t.L.length := ⟨_, rfl⟩
  rw [← hn] at hcs
  obtain ⟨R, hR⟩ : ∃ R, R = w.heap.size := ⟨_, rfl⟩
  obtain ⟨w1, hw1⟩ : ∃ w1, w1 = w.alloc (.cells cs 25) := ⟨_, rfl⟩
  obtain ⟨w2, hw2⟩ : ∃ w2, w2 = w1.alloc (.cells #[.int .i64 0, .int .i64 0, .int .i64 0, .slice none 0 0, .slice none 0 0, .int .i64 0, .int .i64 0] 34) := ⟨_, rfl⟩
  have hs1 : w1.heap.size = R + 1 := by rw [hw1, hR]; simp
  have hs2 : w2.heap.size = R + 2 := by rw [hw2]; simp [hs1]
  have hb1 : Below w.heap.size w w1 := by rw [hw1]; exact (Below.refl _ _).alloc (Nat.le_refl _) _
  have hb2 : Below w1.heap.size w1 w2 := by rw [hw2]; exact (Below.refl _ _).alloc (Nat.le_refl _) _
  have hk1 : Blk w2 R cs 25 := (show Blk w1 R cs 25 by rw [hw1, hR]; exact Blk.new _ _ _).below hb2
  have hk2 : Blk w2 (R + 1) #[.int .i64 0, .int .i64 0, .int .i64 0, .slice none 0 0, .slice none 0 0, .int .i64 0, .int .i64 0] 34 := by rw [hw2, ← hs1]; exact Blk.new _ _ _
  have HB2 := hide (hb1.trans (hb2.mono hb1.size))
  have HC := fun u (h : Blk u R cs 25) => hide (tb_cells (v := .slice a n cap) hid (by rw [← hcs]; exact h))
  have HPi := fun u (h : Blk u R cs 25) => hide (part_n R 3 16 16 t.id u hid (by omega) (by omega) (by omega) (tb_lies hcs hid h))
  have HK1 := hide hk1
  have HK2 := hide hk2
  have HL2 := hide (hl.below (hb1.trans (hb2.mono hb1.size)))
  have HLw := hide hl
  have HHR := hide hR
  have HS2 := hide hs2
  have HW1 := hide hw1
  have HW2 := hide hw2
  have HHn := hide hn
  have HOk := hide hok
  have HId := hide hid
  have hln : n ≤ 1000000 := by omega
  clear hcs hid hok hlen hl hw1 hw2 hs1 hs2 hb1 hb2 hk1 hk2 hn hR
  go_enter Tryd.func11, Tryd.ntmps11
  go_upto_region 1 with fail
  rw [← HHR.out, ← HW1.out, ← HW2.out]
  go_cut [3] from 6 to 19 (fun v3 wx => ∃ X vi, v3 = .pointer (some ⟨X, 0, none⟩) ∧ R + 2 ≤ X ∧ OfI (R + 2) wx X t vi (.slice none 0 0) [] 0 ∧ vi.oneCell' = true ∧ Below w2.heap.size w2 wx)
  case first =>
    have HS0 : (show World → Prop from fun u => Below w2.heap.size w2 u) w2.drew := (Below.refl _ _).drew
    refine b_region (S := fun u => Below w2.heap.size w2 u) (F := (fun _ => true)) (by kernel_rfl) ?_
    refine b_take 0 (some 6) (.pointer (some ⟨R, 0, none⟩)) rfl rfl (by kernel_rfl) (by kernel_rfl) (by kernel_rfl) (by kernel_rfl) (by kernel_rfl) (fun _ _ _ h => h) (by rfl) HS0 ?_ ?_
    · intro u hSu
      have hSu := hSu
      go_simp
    try simp only [Act.put, List.setIfInBounds_toArray, List.set_cons_zero, List.set_cons_succ]
    refine b_take 1 (some 7) (.int .i64 t.sec) rfl rfl (by kernel_rfl) (by kernel_rfl) (by kernel_rfl) (by kernel_rfl) (by kernel_rfl) (fun _ _ _ h => h) (by rfl) HS0 ?_ ?_
    · intro u hSu
      have hSu := hSu
      obtain ⟨c0, c1, c2, c3, c4, c5⟩ := (HC _ (HK1.out.below hSu)).out
      go_simp
    try simp only [Act.put, List.setIfInBounds_toArray, List.set_cons_zero, List.set_cons_succ]
    refine b_take 2 (some 8) (.pointer (some ⟨R, 1, none⟩)) rfl rfl (by kernel_rfl) (by kernel_rfl) (by kernel_rfl) (by kernel_rfl) (by kernel_rfl) (fun _ _ _ h => h) (by rfl) HS0 ?_ ?_
    · intro u hSu
      have hSu := hSu
      go_simp
    try simp only [Act.put, List.setIfInBounds_toArray, List.set_cons_zero, List.set_cons_succ]
    refine b_take 3 (some 9) (.int .i64 t.fst) rfl rfl (by kernel_rfl) (by kernel_rfl) (by kernel_rfl) (by kernel_rfl) (by kernel_rfl) (fun _ _ _ h => h) (by rfl) HS0 ?_ ?_
    · intro u hSu
      have hSu := hSu
      obtain ⟨c0, c1, c2, c3, c4, c5⟩ := (HC _ (HK1.out.below hSu)).out
      go_simp
    try simp only [Act.put, List.setIfInBounds_toArray, List.set_cons_zero, List.set_cons_succ]
    refine b_take 4 (some 10) (.pointer (some ⟨R, 2, none⟩)) rfl rfl (by kernel_rfl) (by kernel_rfl) (by kernel_rfl) (by kernel_rfl) (by kernel_rfl) (fun _ _ _ h => h) (by rfl) HS0 ?_ ?_
    · intro u hSu
      have hSu := hSu
      go_simp
    try simp only [Act.put, List.setIfInBounds_toArray, List.set_cons_zero, List.set_cons_succ]
    refine b_take 5 (some 11) (.int .i64 t.lst) rfl rfl (by kernel_rfl) (by kernel_rfl) (by kernel_rfl) (by kernel_rfl) (by kernel_rfl) (fun _ _ _ h => h) (by rfl) HS0 ?_ ?_
    · intro u hSu
      have hSu := hSu
      obtain ⟨c0, c1, c2, c3, c4, c5⟩ := (HC _ (HK1.out.below hSu)).out
      go_simp
    try simp only [Act.put, List.setIfInBounds_toArray, List.set_cons_zero, List.set_cons_succ]
    refine b_take 6 (some 12) (.pointer (some ⟨R, 3, none⟩)) rfl rfl (by kernel_rfl) (by kernel_rfl) (by kernel_rfl) (by kernel_rfl) (by kernel_rfl) (fun _ _ _ h => h) (by rfl) HS0 ?_ ?_
    · intro u hSu
      have hSu := hSu
      go_simp
    try simp only [Act.put, List.setIfInBounds_toArray, List.set_cons_zero, List.set_cons_succ]
    refine b_take 7 (some 13) (.slice (some ⟨R, 3, none⟩) 16 16) rfl rfl (by kernel_rfl) (by kernel_rfl) (by kernel_rfl) (by kernel_rfl) (by kernel_rfl) (fun _ _ _ h => h) (by rfl) HS0 ?_ ?_
    · intro u hSu
      have hSu := hSu
      go_simp
    try simp only [Act.put, List.setIfInBounds_toArray, List.set_cons_zero, List.set_cons_succ]
    refine b_take 9 (some 15) (.pointer (some ⟨R, 20, none⟩)) rfl rfl (by kernel_rfl) (by kernel_rfl) (by kernel_rfl) (by kernel_rfl) (by kernel_rfl) (fun _ _ _ h => h) (by rfl) HS0 ?_ ?_
    · intro u hSu
      have hSu := hSu
      go_simp
    try simp only [Act.put, List.setIfInBounds_toArray, List.set_cons_zero, List.set_cons_succ]
    refine b_take 10 (some 16) (.int .i64 t.at_) rfl rfl (by kernel_rfl) (by kernel_rfl) (by kernel_rfl) (by kernel_rfl) (by kernel_rfl) (fun _ _ _ h => h) (by rfl) HS0 ?_ ?_
    · intro u hSu
      have hSu := hSu
      obtain ⟨c0, c1, c2, c3, c4, c5⟩ := (HC _ (HK1.out.below hSu)).out
      go_simp
    try simp only [Act.put, List.setIfInBounds_toArray, List.set_cons_zero, List.set_cons_succ]
    refine b_take 11 (some 17) (.pointer (some ⟨R, 21, none⟩)) rfl rfl (by kernel_rfl) (by kernel_rfl) (by kernel_rfl) (by kernel_rfl) (by kernel_rfl) (fun _ _ _ h => h) (by rfl) HS0 ?_ ?_
    · intro u hSu
      have hSu := hSu
      go_simp
    try simp only [Act.put, List.setIfInBounds_toArray, List.set_cons_zero, List.set_cons_succ]
    refine b_take 12 (some 18) (.int .i64 t.beh) rfl rfl (by kernel_rfl) (by kernel_rfl) (by kernel_rfl) (by kernel_rfl) (by kernel_rfl) (fun _ _ _ h => h) (by rfl) HS0 ?_ ?_
    · intro u hSu
      have hSu := hSu
      obtain ⟨c0, c1, c2, c3, c4, c5⟩ := (HC _ (HK1.out.below hSu)).out
      go_simp
    try simp only [Act.put, List.setIfInBounds_toArray, List.set_cons_zero, List.set_cons_succ]
    refine b_ready (rs := [8, 14]) (by kernel_rfl) (by simp) ?_
    refine AllReadyB.cons (i := 8) rfl (fun K hK => ?_) (AllReadyB.cons (i := 14) rfl (fun K hK => ?_) AllReadyB.nil)
    · go_simp
      refine (HPi _ (HK1.out.below HS0)).out.mono ?_
      rintro e9 x1 ⟨vi, rfl, hvi, hone, hfar, hbx⟩
      have HSx1 : (show World → Prop from fun u => Below w2.heap.size w2 u) x1 := HS0.trans (hbx.mono HS0.size)
      go_simp
      refine hK.out _ _ (fun _ => HSx1) ?_
      clear hK K
      try simp only [Act.put, List.setIfInBounds_toArray, List.set_cons_zero, List.set_cons_succ]
      obtain ⟨ai, ci, rfl, hsl⟩ := hvi
      refine b_take 13 (some 19) (.agg (t.rc (.slice ai t.id.length ci) (.slice none 0 0))) rfl rfl (by kernel_rfl) (by kernel_rfl) (by kernel_rfl) (by kernel_rfl) (by kernel_rfl) (fun _ _ _ h => h) (by rfl) HSx1 ?_ ?_
      · intro u hSu
        go_simp
      try simp only [Act.put, List.setIfInBounds_toArray, List.set_cons_zero, List.set_cons_succ]
      refine b_ready (rs := [14]) (by kernel_rfl) (by simp) ?_
      refine AllReadyB.cons (i := 14) rfl (fun K hK => ?_) AllReadyB.nil
      go_simp
      have hX0 := Blk.new x1 #[.int .i64 0, .int .i64 0, .int .i64 0, .slice none 0 0, .slice none 0 0, .int .i64 0, .int .i64 0] 34
      have hSx2 : (show World → Prop from fun u => Below w2.heap.size w2 u) (x1.alloc (.cells #[.int .i64 0, .int .i64 0, .int .i64 0, .slice none 0 0, .slice none 0 0, .int .i64 0, .int .i64 0] 34)) := HSx1.alloc HSx1.size _
      have hbq : Below x1.heap.size x1 (x1.alloc (.cells #[.int .i64 0, .int .i64 0, .int .i64 0, .slice none 0 0, .slice none 0 0, .int .i64 0, .int .i64 0] 34)) := (Below.refl _ _).alloc (Nat.le_refl _) _
      have hXs : (x1.alloc (.cells #[.int .i64 0, .int .i64 0, .int .i64 0, .slice none 0 0, .slice none 0 0, .int .i64 0, .int .i64 0] 34)).heap.size = x1.heap.size + 1 := by simp
      obtain ⟨x2, hq⟩ : ∃ x2, x2 = x1.alloc (.cells #[.int .i64 0, .int .i64 0, .int .i64 0, .slice none 0 0, .slice none 0 0, .int .i64 0, .int .i64 0] 34) := ⟨_, rfl⟩
      obtain ⟨X, hX⟩ : ∃ X, X = x1.heap.size := ⟨_, rfl⟩
      have hXle : R + 2 ≤ X := by rw [hX, ← HS2.out]; exact HSx1.size
      rw [← hq] at hX0 hSx2 hbq hXs
      rw [← hX] at hX0 hXs
      rw [← hq, ← hX]
      have HX_ := hide hX
      clear hq hX hXs
      have HSx2 := hSx2
      refine hK.out _ _ (fun _ => HSx2) ?_
      clear hK K
      try simp only [Act.put, List.setIfInBounds_toArray, List.set_cons_zero, List.set_cons_succ]
      have hsl := hsl.below hbq
      refine b_skip 15 (x2.setRow X (t.rc (.slice ai t.id.length ci) (.slice none 0 0))) (by kernel_rfl) rfl rfl rfl (exec_st rfl X (t.rc (.slice ai t.id.length ci) (.slice none 0 0)) rfl rfl 34 _ hX0 (by kernel_rfl) rfl (rc_all _ _ _ _ _ _ _)) (fun _ => ?_) ?_
      · exact setrow_belowG HSx2 (by rw [HS2.out]; exact hXle)
      refine b_done (by kernel_rfl) ?_ _
      try go_wp2
      go_meet
      have hfar2 : ∀ x, ai = some x → x.block ≠ X := fun x hx e => by
        have hq := hfar x _ _ (by rw [hx])
        have := HX_.out; omega
      have hcX : Chg (fun i => i = X) x2 (x2.setRow X (t.rc (.slice ai t.id.length ci) (.slice none 0 0))) := ⟨rfl, rfl, rfl, by simp, fun i _ hi => setRow_other _ _ i _ hi⟩
      exact ⟨X, .slice ai t.id.length ci, rfl, hXle, ⟨setRow_blk hX0 _, OwnD.nil _ _, rfl, fun j x hj => absurd hj (by omega), ⟨_, _, rfl, hsl.le, hsl.max, hsl.none, hsl.lies.chg hcX hfar2⟩, fun a' n' c' e => ⟨by have h1 := (hfar a' n' c' e).1; have h2 : w2.heap.size ≤ w2.drew.heap.size := HS0.size; have := HS2.out; omega, hfar2 a' (by cases e; rfl), by simp [Value.ownBlock]⟩⟩, rfl, setrow_belowG HSx2 (by rw [HS2.out]; exact hXle)⟩
    · go_simp
      have hX0 := (Blk.new w2 #[.int .i64 0, .int .i64 0, .int .i64 0, .slice none 0 0, .slice none 0 0, .int .i64 0, .int .i64 0] 34).drew
      have HSx1 : (show World → Prop from fun u => Below w2.heap.size w2 u) (w2.alloc (.cells #[.int .i64 0, .int .i64 0, .int .i64 0, .slice none 0 0, .slice none 0 0, .int .i64 0, .int .i64 0] 34)).drew := ((Below.refl _ _).alloc (Nat.le_refl _) _).drew
      obtain ⟨x1, hq⟩ : ∃ x1, x1 = (w2.alloc (.cells #[.int .i64 0, .int .i64 0, .int .i64 0, .slice none 0 0, .slice none 0 0, .int .i64 0, .int .i64 0] 34)).drew := ⟨_, rfl⟩
      obtain ⟨X, hX⟩ : ∃ X, X = w2.heap.size := ⟨_, rfl⟩
      have hXle : R + 2 ≤ X := by rw [hX, HS2.out]; exact Nat.le_refl _
      rw [← hq] at hX0 HSx1
      rw [← hX] at hX0
      rw [← hq, ← hX]
      have HX_ := hide hX
      clear hq hX
      refine hK.out _ _ (fun _ => HSx1) ?_
      clear hK K
      try simp only [Act.put, List.setIfInBounds_toArray, List.set_cons_zero, List.set_cons_succ]
      refine b_ready (rs := [8]) (by kernel_rfl) (by simp) ?_
      refine AllReadyB.cons (i := 8) rfl (fun K hK => ?_) AllReadyB.nil
      go_simp
      refine (HPi _ (HK1.out.below HSx1)).out.mono ?_
      rintro e9 x2 ⟨vi, rfl, hvi, hone, hfar, hbx⟩
      have HSx2 : (show World → Prop from fun u => Below w2.heap.size w2 u) x2 := HSx1.trans (hbx.mono HSx1.size)
      go_simp
      refine hK.out _ _ (fun _ => HSx2) ?_
      clear hK K
      try simp only [Act.put, List.setIfInBounds_toArray, List.set_cons_zero, List.set_cons_succ]
      have hXlt := hX0.lt
      have hX0 := hX0.below hbx
      obtain ⟨ai, ci, rfl, hsl⟩ := hvi
      refine b_take 13 (some 19) (.agg (t.rc (.slice ai t.id.length ci) (.slice none 0 0))) rfl rfl (by kernel_rfl) (by kernel_rfl) (by kernel_rfl) (by kernel_rfl) (by kernel_rfl) (fun _ _ _ h => h) (by rfl) HSx2 ?_ ?_
      · intro u hSu
        go_simp
      try simp only [Act.put, List.setIfInBounds_toArray, List.set_cons_zero, List.set_cons_succ]
      refine b_skip 15 (x2.setRow X (t.rc (.slice ai t.id.length ci) (.slice none 0 0))) (by kernel_rfl) rfl rfl rfl (exec_st rfl X (t.rc (.slice ai t.id.length ci) (.slice none 0 0)) rfl rfl 34 _ hX0 (by kernel_rfl) rfl (rc_all _ _ _ _ _ _ _)) (fun _ => ?_) ?_
      · exact setrow_belowG HSx2 (by rw [HS2.out]; exact hXle)
      refine b_done (by kernel_rfl) ?_ _
      try go_wp2
      go_meet
      have hfar2 : ∀ x, ai = some x → x.block ≠ X := fun x hx e => by
        have hq := hfar x _ _ (by rw [hx])
        omega
      have hcX : Chg (fun i => i = X) x2 (x2.setRow X (t.rc (.slice ai t.id.length ci) (.slice none 0 0))) := ⟨rfl, rfl, rfl, by simp, fun i _ hi => setRow_other _ _ i _ hi⟩
      exact ⟨X, .slice ai t.id.length ci, rfl, hXle, ⟨setRow_blk hX0 _, OwnD.nil _ _, rfl, fun j x hj => absurd hj (by omega), ⟨_, _, rfl, hsl.le, hsl.max, hsl.none, hsl.lies.chg hcX hfar2⟩, fun a' n' c' e => ⟨by have h1 := (hfar a' n' c' e).1; have h2 : w2.heap.size ≤ x1.heap.size := HSx1.size; have := HS2.out; omega, hfar2 a' (by cases e; rfl), by simp [Value.ownBlock]⟩⟩, rfl, setrow_belowG HSx2 (by rw [HS2.out]; exact hXle)⟩
  case rest =>
    obtain ⟨X, vi, rfl, hX, hof, hvo, hbc⟩ := hcut
    have HOf := hide hof
    have HBc := hide hbc
    have HVo := hide hvo
    have HHX := hide hX
    obtain ⟨c0, c1, c2, c3, c4, c5⟩ := (HC _ (HK1.out.below hbc)).out
    clear hof hbc hvo hX HW1 HW2 HPi
    go_wp2_with fail
    clear c0 c1 c2 c3 c4 c5
    go_loopw [4] (fun i wr => ∃ (k : Nat) (v : Value) (V : List D4), k ≤ n ∧ i = .int .i64 (k : Int) ∧ OfI (R + 2) wr X t vi v V k ∧ Below w2.heap.size w2 wr) (fun i _ => n - (intOf i).toNat)
    case atStart => exact ⟨0, _, [], by omega, by simp, HOf.out, HBc.out⟩
    case round =>
      obtain ⟨k, v, V, hk, rfl, hofr, hbr⟩ := hrel
      have HOr := hide hofr
      have HBr := hide hbr
      obtain ⟨c0, c1, c2, c3, c4, c5⟩ := (HC _ (HK1.out.below hbr)).out
      clear hofr hbr HOf HBc
      by_cases hlt : k < n
      case pos =>
        obtain ⟨x, hx⟩ : ∃ x, t.L[k]? = some x := ⟨_, List.getElem?_eq_getElem (by rw [← HHn.out]; exact hlt)⟩
        have hxm : x ∈ t.L := List.mem_of_getElem? hx
        have HXo := hide (HOk.out x hxm)
        have HXk := hide hx
        obtain ⟨xs, hxs⟩ : ∃ xs, xs = x.cells.toArray := ⟨_, rfl⟩
        have HXs := hide hxs
        have HSx := hide (show xs.size = 114 by rw [hxs]; exact E4.cells_len HXo.out)
        have HOn := hide (show xs.all (·.oneCell') = true by rw [hxs]; exact one_ent)
        have HLr := hide (HLw.out.below (HB2.out.trans (HBr.out.mono HB2.out.size)))
        rcases HLr.out with hnil | ⟨b, off, rfl, hb, hc⟩
        · rw [hnil] at hx; simp at hx
        have HXc := hide (hc k x hx)
        have hk0 : (0 : Int) ≤ (k : Int) := by omega
        have hk1 : (k : Int) < (n : Int) := by omega
        clear hc hb hx hxm hxs
        go_upto_region 6 with (first | (refine wpList_isop (.load 66 (.tmp 30)) rfl ?_; refine wpList_exec rfl (exec_ld rfl rfl (load_ent HXo.out HXs.out HXc.out)) ?_) | (refine wpList_isop (.store 66 (.tmp 5) (.tmp 31)) rfl ?_; refine wpList_store_row rfl 66 (.tmp 5) (.tmp 31) rfl wr.heap.size xs rfl rfl 66 _ (Blk.new _ _ _) (by rw [HSx.out]; kernel_rfl) (by rw [HSx.out]; kernel_rfl) HOn.out ?_))
        obtain ⟨Y, hY⟩ : ∃ Y, Y = wr.heap.size := ⟨_, rfl⟩
        obtain ⟨w5, hw5⟩ : ∃ w5, w5 = (wr.alloc (.cells Tryd.zeroCells66 66)).setRow wr.heap.size xs := ⟨_, rfl⟩
        have hb5 : Below wr.heap.size wr w5 := by rw [hw5]; exact setrow_belowG ((Below.refl _ _).alloc (Nat.le_refl _) _) (Nat.le_refl _)
        have hk5 : Blk w5 Y xs 66 := by rw [hw5, hY]; exact setRow_blk (Blk.new _ _ _) _
        rw [← hw5, ← hY]
        have HO5 := hide (HOr.out.below hb5)
        have HB5 := hide (HBr.out.trans (hb5.mono HBr.out.size))
        have HK5 := hide hk5
        have HYX := hide (show X < Y by rw [hY]; exact HOr.out.blk.lt)
        have HYv := hide (show some Y ≠ v.ownBlock by intro e; have := (World.ownsRow.lt HOr.out.own Y e.symm).2; omega)
        have HSi := fun u (h : Blk u Y xs 66) => hide (part_n Y 0 32 32 x.ids u HXo.out.1 (by omega) (by omega) (by omega) (ids_lies HXs.out HXo.out h))
        have HSr := fun u (h : Blk u Y xs 66) => hide (part_n Y 34 80 80 x.rest u HXo.out.2 (by omega) (by omega) (by omega) (rest_lies HXs.out HXo.out h))
        have HEn := fun u (h : Blk u Y xs 66) => hide (entE HXs.out HXo.out h)
        clear hw5 hY hb5 hk5 HXc c0 c1 c2 c3 c4 c5
        have HSs : (show World → Prop from fun u => Blk u Y xs 66 ∧ u.cell? ⟨X, 4, none⟩ = some v) w5.drew := ⟨HK5.out.drew, (HO5.out.blk.drew).cell 4 _ rfl⟩
        refine b_region (S := fun u => Blk u Y xs 66 ∧ u.cell? ⟨X, 4, none⟩ = some v) (F := (fun j => decide (j < 16))) (by kernel_rfl) ?_
        refine b_take 0 (some 32) (.pointer (some ⟨X, 4, none⟩)) rfl rfl (by kernel_rfl) (by kernel_rfl) (by kernel_rfl) (by kernel_rfl) (by kernel_rfl) (fun _ _ _ h => h) (by rfl) HSs ?_ ?_
        · intro u hSu
          have hSu := hSu
          go_simp
        try simp only [Act.put, List.setIfInBounds_toArray, List.set_cons_zero, List.set_cons_succ]
        refine b_take 1 (some 33) (v) rfl rfl (by kernel_rfl) (by kernel_rfl) (by kernel_rfl) (by kernel_rfl) (by kernel_rfl) (fun _ _ _ h => h) (by rfl) HSs ?_ ?_
        · intro u hSu
          have hSu := hSu
          have c4 := hSu.2
          go_simp
        try simp only [Act.put, List.setIfInBounds_toArray, List.set_cons_zero, List.set_cons_succ]
        refine b_take 2 (some 34) (.pointer (some ⟨Y, 0, none⟩)) rfl rfl (by kernel_rfl) (by kernel_rfl) (by kernel_rfl) (by kernel_rfl) (by kernel_rfl) (fun _ _ _ h => h) (by rfl) HSs ?_ ?_
        · intro u hSu
          have hSu := hSu
          go_simp
        try simp only [Act.put, List.setIfInBounds_toArray, List.set_cons_zero, List.set_cons_succ]
        refine b_take 3 (some 35) (.slice (some ⟨Y, 0, none⟩) 32 32) rfl rfl (by kernel_rfl) (by kernel_rfl) (by kernel_rfl) (by kernel_rfl) (by kernel_rfl) (fun _ _ _ h => h) (by rfl) HSs ?_ ?_
        · intro u hSu
          have hSu := hSu
          go_simp
        try simp only [Act.put, List.setIfInBounds_toArray, List.set_cons_zero, List.set_cons_succ]
        refine b_take 5 (some 37) (.pointer (some ⟨Y, 32, none⟩)) rfl rfl (by kernel_rfl) (by kernel_rfl) (by kernel_rfl) (by kernel_rfl) (by kernel_rfl) (fun _ _ _ h => h) (by rfl) HSs ?_ ?_
        · intro u hSu
          have hSu := hSu
          go_simp
        try simp only [Act.put, List.setIfInBounds_toArray, List.set_cons_zero, List.set_cons_succ]
        refine b_take 6 (some 38) (.int .i64 x.fi) rfl rfl (by kernel_rfl) (by kernel_rfl) (by kernel_rfl) (by kernel_rfl) (by kernel_rfl) (fun _ _ _ h => h) (by rfl) HSs ?_ ?_
        · intro u hSu
          have hSu := hSu
          obtain ⟨e0, e1⟩ := (HEn _ hSu.1).out
          go_simp
        try simp only [Act.put, List.setIfInBounds_toArray, List.set_cons_zero, List.set_cons_succ]
        refine b_take 7 (some 39) (.pointer (some ⟨Y, 33, none⟩)) rfl rfl (by kernel_rfl) (by kernel_rfl) (by kernel_rfl) (by kernel_rfl) (by kernel_rfl) (fun _ _ _ h => h) (by rfl) HSs ?_ ?_
        · intro u hSu
          have hSu := hSu
          go_simp
        try simp only [Act.put, List.setIfInBounds_toArray, List.set_cons_zero, List.set_cons_succ]
        refine b_take 8 (some 40) (.int .i64 x.la) rfl rfl (by kernel_rfl) (by kernel_rfl) (by kernel_rfl) (by kernel_rfl) (by kernel_rfl) (fun _ _ _ h => h) (by rfl) HSs ?_ ?_
        · intro u hSu
          have hSu := hSu
          obtain ⟨e0, e1⟩ := (HEn _ hSu.1).out
          go_simp
        try simp only [Act.put, List.setIfInBounds_toArray, List.set_cons_zero, List.set_cons_succ]
        refine b_take 9 (some 41) (.pointer (some ⟨Y, 34, none⟩)) rfl rfl (by kernel_rfl) (by kernel_rfl) (by kernel_rfl) (by kernel_rfl) (by kernel_rfl) (fun _ _ _ h => h) (by rfl) HSs ?_ ?_
        · intro u hSu
          have hSu := hSu
          go_simp
        try simp only [Act.put, List.setIfInBounds_toArray, List.set_cons_zero, List.set_cons_succ]
        refine b_take 10 (some 42) (.slice (some ⟨Y, 34, none⟩) 80 80) rfl rfl (by kernel_rfl) (by kernel_rfl) (by kernel_rfl) (by kernel_rfl) (by kernel_rfl) (fun _ _ _ h => h) (by rfl) HSs ?_ ?_
        · intro u hSu
          have hSu := hSu
          go_simp
        try simp only [Act.put, List.setIfInBounds_toArray, List.set_cons_zero, List.set_cons_succ]
        have HOy := hide (show OfI (R + 2) w5.drew X t vi v V k from HO5.out.below (Below.refl _ _).drew)
        have HBy := hide (show Below w2.heap.size w2 w5.drew from HB5.out.drew)
        refine b_ready (rs := [4]) (by kernel_rfl) (by simp) ?_
        refine AllReadyB.cons (i := 4) rfl (fun K hK => ?_) AllReadyB.nil
        go_simp
        refine (HSi _ HSs.1).out.mono ?_
        rintro e9 y1 ⟨v1, rfl, hv1, ov1, fv1, hbx⟩
        have HSy1 : (show World → Prop from fun u => Blk u Y xs 66 ∧ u.cell? ⟨X, 4, none⟩ = some v) y1 := ⟨HSs.1.below hbx, (hbx.cell (lt_of_cell HSs.2)).trans HSs.2⟩
        have HOy1 := hide (HOy.out.below hbx)
        have HBBy1 := hide (HBy.out.trans (hbx.mono HBy.out.size))
        have HZy1 := hide hbx.size
        clear hbx
        go_simp
        refine hK.out _ _ (fun _ => HSy1) ?_
        clear hK K
        try simp only [Act.put, List.setIfInBounds_toArray, List.set_cons_zero, List.set_cons_succ]
        refine b_ready (rs := [11]) (by kernel_rfl) (by simp) ?_
        refine AllReadyB.cons (i := 11) rfl (fun K hK => ?_) AllReadyB.nil
        go_simp
        refine (HSr _ HSy1.1).out.mono ?_
        rintro e9 y2 ⟨v2, rfl, hv2, ov2, fv2, hbx⟩
        have HSy2 : (show World → Prop from fun u => Blk u Y xs 66 ∧ u.cell? ⟨X, 4, none⟩ = some v) y2 := ⟨HSy1.1.below hbx, (hbx.cell (lt_of_cell HSy1.2)).trans HSy1.2⟩
        have HOy2 := hide (HOy1.out.below hbx)
        have HBBy2 := hide (HBBy1.out.trans (hbx.mono HBBy1.out.size))
        have hv1 := hv1.below hbx
        have HZy2 := hide hbx.size
        clear hbx
        go_simp
        refine hK.out _ _ (fun _ => HSy2) ?_
        clear hK K
        try simp only [Act.put, List.setIfInBounds_toArray, List.set_cons_zero, List.set_cons_succ]
        obtain ⟨a1, d1, rfl, s1⟩ := hv1
        obtain ⟨a2, d2, rfl, s2⟩ := hv2
        have HV1 := hide (show SlG y2 (.slice a1 x.ids.length d1) x.ids from ⟨_, _, rfl, s1⟩)
        have HV2 := hide (show SlG y2 (.slice a2 x.rest.length d2) x.rest from ⟨_, _, rfl, s2⟩)
        have HF1 := hide fv1
        have HF2 := hide fv2
        clear s1 s2 ov1 ov2 fv1 fv2
        refine b_take 12 (some 44) (.agg #[.slice a1 x.ids.length d1, .int .i64 x.fi, .int .i64 x.la, .slice a2 x.rest.length d2]) rfl rfl (by kernel_rfl) (by kernel_rfl) (by kernel_rfl) (by kernel_rfl) (by kernel_rfl) (fun _ _ _ h => h) (by rfl) HSy2 ?_ ?_
        · intro u hSu
          have hSu := hSu
          go_simp
        try simp only [Act.put, List.setIfInBounds_toArray, List.set_cons_zero, List.set_cons_succ]
        refine b_ready (rs := [13]) (by kernel_rfl) (by simp) ?_
        refine AllReadyB.cons (i := 13) rfl (fun K hK => ?_) AllReadyB.nil
        go_simp
        have hbz : Below y2.heap.size y2 (y2.alloc (.cells #[.slice a1 x.ids.length d1, .int .i64 x.fi, .int .i64 x.la, .slice a2 x.rest.length d2] 72)) := (Below.refl _ _).alloc (Nat.le_refl _) _
        have hG := Blk.new y2 #[.slice a1 x.ids.length d1, .int .i64 x.fi, .int .i64 x.la, .slice a2 x.rest.length d2] 72
        obtain ⟨y3, hy3⟩ : ∃ y3, y3 = y2.alloc (.cells #[.slice a1 x.ids.length d1, .int .i64 x.fi, .int .i64 x.la, .slice a2 x.rest.length d2] 72) := ⟨_, rfl⟩
        obtain ⟨G, hGG⟩ : ∃ G, G = y2.heap.size := ⟨_, rfl⟩
        rw [← hy3, ← hGG] at hG
        rw [← hy3] at hbz
        have HSy3 : (show World → Prop from fun u => Blk u Y xs 66 ∧ u.cell? ⟨X, 4, none⟩ = some v) y3 := ⟨HSy2.1.below hbz, (hbz.cell (lt_of_cell HSy2.2)).trans HSy2.2⟩
        have HOy3 := hide (HOy2.out.below hbz)
        have HBy3 := hide (HBBy2.out.trans (hbz.mono HBBy2.out.size))
        have HV1 := hide (HV1.out.below hbz)
        have HV2 := hide (HV2.out.below hbz)
        rw [← hy3, ← hGG]
        have HHG := hide hG
        clear hy3 hGG hbz hG
        go_simp
        refine hK.out _ _ (fun _ => HSy3) ?_
        clear hK K
        try simp only [Act.put, List.setIfInBounds_toArray, List.set_cons_zero, List.set_cons_succ]
        have hVl : V.length + 1 ≤ 10000000 := by rw [HOy3.out.len]; omega
        have hXb : ¬ some X = v.ownBlock := fun e => by have := HOy3.out.own.baseG X e.symm; omega
        obtain ⟨v8, w8, hrun, ho8, hg8, h58⟩ := run_append_D (ty := 32) y3 (X + 1) v V HOy3.out.own G 1 (.slice a1 x.ids.length d1, x.fi, x.la, .slice a2 x.rest.length d2) (fun j u hj => HHG.out.cell j u (by simpa [encD] using hj)) rfl rfl hVl HOy3.out.blk.lt
        obtain ⟨a8, n8, c8, rfl⟩ := ho8.sliceG
        have HSw8 : (show World → Prop from fun u => Blk u Y xs 66 ∧ u.cell? ⟨X, 4, none⟩ = some v) w8 := ⟨HSy3.1.chg (Chg.of_grown hg8) HYv.out, (Chg.of_grown hg8).cell HSy3.2 hXb⟩
        have hfr := ((HOy3.out.blk).chg (Chg.of_grown hg8) hXb).frozen 4
        have hc8 := HSw8.2
        have HG8 := hide hg8
        have HO8 := hide ho8
        have H58 := hide h58
        have HXb := hide hXb
        refine b_val 14 (some 46) (.slice a8 n8 c8) w8 (by kernel_rfl) rfl rfl rfl (exec_apG rfl rfl rfl hrun) (fun _ => HSw8) ?_
        clear hrun hg8 ho8 h58 hXb
        refine b_take 15 (some 47) (.pointer (some ⟨X, 4, none⟩)) rfl rfl (by kernel_rfl) (by kernel_rfl) (by kernel_rfl) (by kernel_rfl) (by kernel_rfl) (fun _ _ _ h => h) (by rfl) HSw8 ?_ ?_
        · intro u hSu
          have hSu := hSu
          go_simp
        try simp only [Act.put, List.setIfInBounds_toArray, List.set_cons_zero, List.set_cons_succ]
        refine b_ready (rs := [16]) (by kernel_rfl) (by simp) ?_
        refine AllReadyB.cons (i := 16) rfl (fun K hK => ?_) AllReadyB.nil
        go_simp
        refine hK.out _ _ (fun e => absurd e (by decide)) ?_
        clear hK K
        try simp only [Act.put, List.setIfInBounds_toArray, List.set_cons_zero, List.set_cons_succ]
        refine b_done (by kernel_rfl) ?_ _

        have hbw : w2.heap.size ≤ y3.heap.size := HBy3.out.size
        have HX2 := hide (show w2.heap.size ≤ X by rw [HS2.out]; exact HHX.out)
        have HB9 := hide (show Below w2.heap.size w2 (w8.setCell ⟨X, 4, none⟩ (.slice a8 n8 c8)) from (HBy3.out.trans (Chg.below w2.heap.size (Chg.of_grown HG8.out) hbw (fun i hi e => by have := HOy3.out.own.baseG i e.symm; have := HX2.out; omega))).setCell (p := ⟨X, 4, none⟩) HX2.out _)
        have HAw : ∀ (u : Value) (B T : Nat), w5.drew.heap.size ≤ B → (∀ a m c, u = .slice (some a) m c → B ≤ a.block ∧ a.block < T) → AwayG (R + 2) u X v.ownBlock := fun u B T hB hu a m c e => by
          have h1 := (hu a m c e).1
          have h2 := HOy.out.blk.lt
          have h3 : w2.heap.size ≤ w5.drew.heap.size := HBy.out.size
          have h4 := HS2.out
          exact ⟨by omega, by omega, fun e2 => by have := (World.ownsRow.lt HOy.out.own a.block e2.symm).2; omega⟩
        have HO9 := hide (OfI.step HOy3.out HOk.out HId.out HXk.out ⟨HV1.out, rfl, rfl, HV2.out⟩ (HAw (.slice a1 x.ids.length d1) _ _ (Nat.le_refl _) HF1.out) (HAw (.slice a2 x.rest.length d2) _ _ HZy1.out HF2.out) HO8.out HG8.out H58.out _ rfl)
        clear HOy HOy1 HOy2 HOy3 HO8 HG8 H58 HBy HBBy1 HBBy2 HBy3 HSs HSy1 HSy2 HSy3 HSw8 HAw
        go_wp2_with fail
        go_roundw
        case rel => exact ⟨k + 1, _, _, by omega, by go_num, HO9.out, HB9.out⟩
        case measure => simp [intOf]; omega
      case neg =>
        obtain rfl : k = n := by omega
        have HLV := hide (show V.length = t.L.length by rw [HOr.out.len, HHn.out])
        obtain ⟨a8, c8, rfl, hLD⟩ := OwnD.lies HOr.out.own HLV.out (fun j y hy => (HOr.out.says j y (by have := (List.getElem?_eq_some_iff.1 hy).1; have := HHn.out; omega) hy).1)
        obtain ⟨ai, ci, rfl, hsl⟩ := HOr.out.id.1
        have HXX := hide HOr.out.blk
        have HR1 := hide (HK2.out.below HBr.out)
        have HAl := hide (rc_all t ai a8 t.id.length t.L.length ci c8)
        go_wp2_with (first | (refine wpList_isop (.load 34 (.tmp 3)) rfl ?_; refine wpList_load_row rfl 34 (.tmp 3) rfl X rfl 34 (t.rc (.slice ai t.id.length ci) (.slice a8 t.L.length c8)) (0, 0) _ HXX.out Tryd.underlying34 rfl (by kernel_rfl) ?_) | (refine wpList_isop (.store 34 (.tmp 2) (.tmp 48)) rfl ?_; refine wpList_store_row rfl 34 (.tmp 2) (.tmp 48) rfl (R + 1) (t.rc (.slice ai t.id.length ci) (.slice a8 t.L.length c8)) rfl rfl 34 _ HR1.out (by kernel_rfl) rfl HAl.out ?_))
        have hcX : Chg (fun i => i = R + 1) wr (wr.setRow (R + 1) (t.rc (.slice ai t.id.length ci) (.slice a8 t.L.length c8))) := ⟨rfl, rfl, rfl, by simp, fun i _ hi => setRow_other _ _ i _ hi⟩
        have haw : ∀ (u : Value) (r : Option Nat), AwayG (R + 2) u X r → ∀ a n c, u = .slice (some a) n c → ¬ a.block = R + 1 := fun u r hu a n c e => by have := (hu a n c e).1; omega
        have hXR := HHX.out
        obtain ⟨a9, c9, e9, h9⟩ := OwnD.lies (HOr.out.own.chg hcX (fun g hg e => by have := HOr.out.own.baseG g hg; omega)) HLV.out (fun j y hy => by
          obtain ⟨q1, q2, q3⟩ := HOr.out.says j y (by have := (List.getElem?_eq_some_iff.1 hy).1; have := HHn.out; omega) hy
          exact ⟨q1.1.chgG hcX (haw _ _ q2), q1.2.1, q1.2.2.1, q1.2.2.2.chgG hcX (haw _ _ q3)⟩)
        cases e9
        refine bodyPost_ret (results_cell_row rfl _ _ (R + 1) 34 _ (0, 0) _ rfl (setRow_blk HR1.out _) Tryd.underlying34 rfl (by kernel_rfl)) rfl ⟨⟨_, _, _, rfl, HOr.out.id.1.chgG hcX (haw _ _ HOr.out.id.2), h9⟩, setrow_belowG (HB2.out.trans (HBr.out.mono HB2.out.size)) (by have := HHR.out; omega)⟩
end Go.Proofs.YtpbnjobjjnhplaaDoor.Oct
