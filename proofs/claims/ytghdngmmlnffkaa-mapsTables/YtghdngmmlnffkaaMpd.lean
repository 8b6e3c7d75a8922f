/- Decode of the program and of the document; an entry as the document has it; the example that holds at every input. -/
import Derived.Test.YtghdngmmlnffkaaMpe
namespace Go.Proofs.Ytghdngmmlnffkaa.Oct
open Go.RowKit

theorem belowN {n : Nat} {w u : World} (h : Below n w u) (k : Nat) : Below n w (u.drewN k) := ⟨h.os, h.tape, h.output, h.size, h.block⟩

set_option maxHeartbeats 1000000 in
theorem ofE_any (k c : Int) (o : Bool) (w : World) : Calls Try.prog 11 #[.agg #[.int .i64 k, .int .i64 c, .bool o]] w fun e w' => e = .returned (.agg #[.int .i64 k, .int .i64 c, .bool o]) ∧ Below w.heap.size w w' := by
  have HN := hide (heap_alloc2_new w (.cells #[.int .i64 k, .int .i64 c, .bool o] 43) (.cells #[.int .i64 k, .int .i64 c, .bool o] 41))
  have HB := hide (((Below.refl w.heap.size w).alloc (Nat.le_refl _) (.cells #[.int .i64 k, .int .i64 c, .bool o] 43)).alloc (by simp) (.cells #[.int .i64 k, .int .i64 c, .bool o] 41))
  go_enter Try.func11, Try.ntmps11
  go_wp2_with fail
  refine bodyPost_ret (results_cell_row rfl _ _ (w.heap.size + 1) 41 _ (0, 0) _ rfl HN.out Try.underlying41 rfl (by kernel_rfl)) rfl ?_
  exact ⟨rfl, HB.out⟩

/-- What the document's Encode says besides: of a kind 0 or 1 that. -/
def refN (k c : Int) (o : Bool) : Int := if k = 0 ∨ k = 1 then k else encN k c o

theorem refN_ok {k c : Int} {o : Bool} (h : okE k c o = true) : refN k c o = encN k c o := by
  unfold refN
  split
  · unfold encN; rw [if_pos h, if_neg (by omega)]
  · rfl

theorem refN_bd (k c : Int) (o : Bool) : 0 ≤ refN k c o ∧ refN k c o < 18446744073709551616 := by
  unfold refN
  split
  · omega
  · exact encN_bd k c o

set_option maxHeartbeats 1000000 in
theorem refencode_any (k c : Int) (o : Bool) (w : World) : Calls Try.prog 10 #[.agg #[.int .i64 k, .int .i64 c, .bool o]] w fun e w' => e = .returned (.tuple #[.int .u64 (refN k c o), .bool (okE k c o)]) ∧ Below w.heap.size w w' := by
  have hb := (Below.refl w.heap.size w).alloc (Nat.le_refl _) (.cells #[.int .i64 k, .int .i64 c, .bool o] 41)
  have HB := hide hb
  obtain ⟨c0, c1, c2⟩ := (StE.new w #[.int .i64 k, .int .i64 c, .bool o] 41).box
  clear hb
  by_cases h1 : k = 0 ∨ k = 1
  · have e1 : refN k c o = k := if_pos h1
    by_cases cz : c = 0
    · subst cz
      have e2 : okE k 0 o = !o := by
        unfold okE
        cases o
        · exact decide_eq_true (Or.inr ⟨h1, rfl, rfl⟩)
        · exact decide_eq_false (by rintro (h | h); omega; simp at h)
      rw [e1, e2]
      clear e1 e2
      rcases h1 with rfl | rfl <;>
      · go_enter Try.func10, Try.ntmps10
        go_wp2_with fail
        go_quiet (fail)
        go_wp2_with fail
        go_ret2
        exact ⟨rfl, belowN HB.out _⟩
    · have e2 : okE k c o = false := decide_eq_false (by rintro (h | h) <;> omega)
      have e3 : (c == 0) = false := by simp [cz]
      have e4 : decide (c = 0) = false := by simp [cz]
      rw [e1, e2]
      clear e1 e2
      rcases h1 with rfl | rfl <;>
      · go_enter Try.func10, Try.ntmps10
        go_wp2_with fail
        go_quiet (fail)
        go_wp2_with fail
        go_ret2
        exact ⟨rfl, belowN HB.out _⟩
  have e1 : refN k c o = encN k c o := if_neg h1
  rw [e1]
  have k0 : (k == 0) = false := by simp; omega
  have k1 : (k == 1) = false := by simp; omega
  by_cases h2 : k = 2
  rotate_left
  · have e2 : okE k c o = false := decide_eq_false (by rintro (h | h); exact h2 h.1; exact h1 h.1)
    have e3 : encN k c o = 0 := by unfold encN; rw [e2]; rfl
    have k2 : (k != 2) = true := by simp [h2]
    rw [e2, e3]
    clear e1 e2 e3 h1
    go_enter Try.func10, Try.ntmps10
    go_wp2_with fail
    go_ret2
    exact ⟨rfl, HB.out⟩
  subst h2
  clear h1 e1 k0 k1
  by_cases h3 : c < 1
  · have e2 : okE 2 c o = false := decide_eq_false (by rintro (h | h) <;> omega)
    have e3 : encN 2 c o = 0 := by unfold encN; rw [e2]; rfl
    rw [e2, e3]
    clear e2 e3
    go_enter Try.func10, Try.ntmps10
    go_wp2_with fail
    go_ret2
    exact ⟨rfl, HB.out⟩
  by_cases h4 : 8191 < c
  · have e2 : okE 2 c o = false := decide_eq_false (by rintro (h | h) <;> omega)
    have e3 : encN 2 c o = 0 := by unfold encN; rw [e2]; rfl
    rw [e2, e3]
    clear e2 e3
    go_enter Try.func10, Try.ntmps10
    go_wp2_with fail
    go_ret2
    exact ⟨rfl, HB.out⟩
  have e2 : okE 2 c o = true := decide_eq_true (Or.inl ⟨rfl, by omega, by omega⟩)
  have e3 : encN 2 c o = c * 256 + (if o then 9223372036854775808 else 0) := by unfold encN; rw [e2]; rfl
  rw [e2, e3]
  clear e2 e3
  cases o
  · go_enter Try.func10, Try.ntmps10
    go_wp2_with fail
    go_ret2
    refine ⟨?_, HB.out⟩
    simp
    try omega
  · go_enter Try.func10, Try.ntmps10
    go_wp2_with fail
    go_ret2
    refine ⟨?_, HB.out⟩
    simp
    try omega

/-- Cells of an entry that is laid. -/
theorem set3 {u : World} {R : Nat} {k c : Int} {o : Bool} {t : TypeId} (h : StE u R #[.int .i64 k, .int .i64 c, .bool o] t) (k2 c2 : Int) (o2 : Bool) :
    StE (((u.setCell ⟨R, 0, none⟩ (.int .i64 k2)).setCell ⟨R, 1, none⟩ (.int .i64 c2)).setCell ⟨R, 2, none⟩ (.bool o2)) R #[.int .i64 k2, .int .i64 c2, .bool o2] t :=
  ((h.set 0 _).set 1 _).set 2 _

theorem below3 {w u : World} {R : Nat} (h : Below w.heap.size w u) (hR : w.heap.size ≤ R) (x0 x1 x2 : Value) :
    Below w.heap.size w (((u.setCell ⟨R, 0, none⟩ x0).setCell ⟨R, 1, none⟩ x1).setCell ⟨R, 2, none⟩ x2) :=
  ((h.setCell (p := ⟨R, 0, none⟩) hR _).setCell (p := ⟨R, 1, none⟩) hR _).setCell (p := ⟨R, 2, none⟩) hR _

theorem other3 {u : World} {R R' : Nat} {k c : Int} {o : Bool} {t : TypeId} (h : StE u R' #[.int .i64 k, .int .i64 c, .bool o] t) (hne : R ≠ R') (x0 x1 x2 : Value) :
    StE (((u.setCell ⟨R, 0, none⟩ x0).setCell ⟨R, 1, none⟩ x1).setCell ⟨R, 2, none⟩ x2) R' #[.int .i64 k, .int .i64 c, .bool o] t :=
  ((h.other hne 0 _).other hne 1 _).other hne 2 _

end Go.Proofs.Ytghdngmmlnffkaa.Oct
