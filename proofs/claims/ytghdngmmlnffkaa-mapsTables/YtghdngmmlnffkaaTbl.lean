/- Tables of entries within changes: their calls. -/
import Derived.Test.YtghdngmmlnffkaaTxg
import Derived.Test.YtghdngmmlnffkaaMpi
import Derived.Test.YtghdngmmlnffkaaHdc
namespace Go.Proofs.Ytghdngmmlnffkaa.Oct
open Go.RowKit Go.Deep

/-- A table's fields lie in block A. -/
def Tab (w : World) (A T : Nat) (c : Int) : Prop := w.heap[A]? = some (.cells #[.int .i64 9, .int .i64 32768, .int .i64 60, .int .i64 29, .bool false, .pointer (some ⟨T, 0, none⟩), .int .i64 c] 66 (0, 0))

theorem Tab.lt {w : World} {A T : Nat} {c : Int} (h : Tab w A T c) : A < w.heap.size := (Array.getElem?_eq_some_iff.1 h).1
theorem Tab.below {w w' : World} {A T : Nat} {c : Int} (h : Tab w A T c) (hb : Below w.heap.size w w') : Tab w' A T c := (hb.block A h.lt).trans h
theorem Tab.cell {w : World} {A T : Nat} {c : Int} (h : Tab w A T c) : w.cell? ⟨A, 0, none⟩ = some (.int .i64 9) ∧ w.cell? ⟨A, 1, none⟩ = some (.int .i64 32768) ∧ w.cell? ⟨A, 2, none⟩ = some (.int .i64 60) ∧ w.cell? ⟨A, 3, none⟩ = some (.int .i64 29) ∧ w.cell? ⟨A, 4, none⟩ = some (.bool false) ∧ w.cell? ⟨A, 5, none⟩ = some (.pointer (some ⟨T, 0, none⟩)) ∧ w.cell? ⟨A, 6, none⟩ = some (.int .i64 c) := by
  unfold Tab at h
  simp [World.cell?, h]

theorem eqf_hd (w : World) : (Op.equalIn 10000 33 (.agg #[.int .i64 9, .int .i64 32768, .int .i64 60, .int .i64 29, .bool false]) (.agg #[.int .i64 0, .int .i64 0, .int .i64 0, .int .i64 0, .bool false])).run Try.prog w = .ok false w := by
  rw [run_equalIn_agg w 9999 33 _ _ (by kernel_rfl) (by kernel_rfl)]
  have hf : (Try.prog.fieldsOf 33).toList.map (fun f => (f.name, f.type, f.offset)) = [("Bits", 3, 0), ("Size", 2, 1), ("Host", 2, 2), ("Journal", 2, 3), ("Backed", 4, 4)] := by kernel_rfl
  obtain ⟨fs, hfs⟩ : ∃ fs, fs = (Try.prog.fieldsOf 33).toList := ⟨_, rfl⟩
  rw [← hfs] at hf ⊢
  clear hfs
  have hl : fs.length = 5 := by simpa using congrArg List.length hf
  obtain ⟨f0, f1, f2, f3, f4, rfl⟩ : ∃ f0 f1 f2 f3 f4, fs = [f0, f1, f2, f3, f4] := by match fs, hl with | [f0, f1, f2, f3, f4], _ => exact ⟨f0, f1, f2, f3, f4, rfl⟩
  simp only [List.map_cons, List.map_nil, List.cons.injEq, Prod.mk.injEq, and_true] at hf
  obtain ⟨⟨a1, a2, a3⟩, _⟩ := hf
  have p0 : (part 3 #[.int .i64 9, .int .i64 32768, .int .i64 60, .int .i64 29, .bool false] 0).run Try.prog w = .ok (.int .i64 9) w := by go_simp
  have p1 : (part 3 #[.int .i64 0, .int .i64 0, .int .i64 0, .int .i64 0, .bool false] 0).run Try.prog w = .ok (.int .i64 0) w := by go_simp
  have q0 := run_equalIn_int (P := Try.prog) w 9998 _ .i64 .i64 9 0 Try.underlying3
  simp only [Op.eqFields, a1, a2, a3, Sem.run_bind, Sem.run_ite]
  simp [p0, p1, q0, Result.andThen]

theorem eql_hd (w : World) : (binOp .eql 33 (.agg #[.int .i64 9, .int .i64 32768, .int .i64 60, .int .i64 29, .bool false]) (.agg #[.int .i64 0, .int .i64 0, .int .i64 0, .int .i64 0, .bool false])).run Try.prog w = .ok (.bool false) w := by
  rw [run_eql_struct, eqf_hd]
  rfl

theorem grd_hd (w : World) (op : BinOp) (p q : Operand) (xs ys : Array Value) : (eqGuard op 33 p q (.agg xs) (.agg ys)).run Try.prog w = .ok () w := run_eqGuard_agg w op _ _ _ _ _ (by kernel_rfl)

set_option maxHeartbeats 1000000 in
theorem tab_none (w : World) (A T : Nat) (c : Int) (h : Tab w A T c) : Calls Try.prog 22 #[.pointer (some ⟨A, 0, none⟩)] w fun e w' => e = .returned (.bool false) ∧ w' = w := by
  obtain ⟨c0, c1, c2, c3, c4, c5, c6⟩ := h.cell
  have hq := eql_hd
  have hg := fun u op p q => grd_hd u op p q #[.int .i64 9, .int .i64 32768, .int .i64 60, .int .i64 29, .bool false] #[.int .i64 0, .int .i64 0, .int .i64 0, .int .i64 0, .bool false]
  clear h
  go_enter Try.func22, Try.ntmps22
  go_wp2_with fail
  go_ret
  exact ⟨rfl, rfl⟩

set_option maxHeartbeats 1000000 in
theorem tab_where (w : World) (A T : Nat) (c : Int) (h : Tab w A T c) : Calls Try.prog 9 #[.pointer (some ⟨A, 0, none⟩)] w fun e w' => e = .returned (.int .i64 c) ∧ w' = w := by
  have HN := hide (tab_none w A T c h)
  obtain ⟨c0, c1, c2, c3, c4, c5, c6⟩ := h.cell
  clear h
  go_enter Try.func9, Try.ntmps9
  go_wp2_with fail
  refine HN.out.mono ?_
  rintro e9 w9 ⟨rfl, h9⟩
  subst h9
  go_wp2_with fail
  go_ret
  exact ⟨rfl, rfl⟩

/-- Is there such an entry? -/
def hasN (i : Int) : Int := if 0 ≤ i ∧ i < 64 then 0 else 4

set_option maxHeartbeats 1000000 in
theorem tab_has (w : World) (A T : Nat) (c : Int) (h : Tab w A T c) (i : Int) : Calls Try.prog 23 #[.pointer (some ⟨A, 0, none⟩), .int .i64 i] w fun e w' => e = .returned (.int .i64 (hasN i)) ∧ Below w.heap.size w w' := by
  have HN := hide (tab_none w A T c h)
  have HE : Hid (Calls Try.prog 28 #[.agg #[.int .i64 9, .int .i64 32768, .int .i64 60, .int .i64 29, .bool false]] w fun e w' => e = .returned (.int .i64 64) ∧ Below w.heap.size w w') := hide (entries_any 9 32768 60 29 false w)
  obtain ⟨c0, c1, c2, c3, c4, c5, c6⟩ := h.cell
  clear h
  by_cases h0 : i < 0
  · have e : hasN i = 4 := if_neg (by omega)
    rw [e]
    go_enter Try.func23, Try.ntmps23
    go_wp2_with fail
    refine HN.out.mono ?_
    rintro e9 w9 ⟨rfl, h9⟩
    subst h9
    go_wp2_with fail
    go_ret
    exact ⟨rfl, Below.refl _ _⟩
  by_cases h1 : 64 ≤ i
  · have e : hasN i = 4 := if_neg (by omega)
    rw [e]
    go_enter Try.func23, Try.ntmps23
    go_wp2_with fail
    refine HN.out.mono ?_
    rintro e9 w9 ⟨rfl, h9⟩
    subst h9
    go_wp2_with fail
    refine HE.out.mono ?_
    rintro e9 w9 ⟨rfl, hb9⟩
    have HB := hide hb9
    clear hb9
    go_wp2_with fail
    go_ret
    exact ⟨rfl, HB.out⟩
  · have e : hasN i = 0 := if_pos (by omega)
    rw [e]
    go_enter Try.func23, Try.ntmps23
    go_wp2_with fail
    refine HN.out.mono ?_
    rintro e9 w9 ⟨rfl, h9⟩
    subst h9
    go_wp2_with fail
    refine HE.out.mono ?_
    rintro e9 w9 ⟨rfl, hb9⟩
    have HB := hide hb9
    clear hb9
    go_wp2_with fail
    go_ret
    exact ⟨rfl, HB.out⟩
end Go.Proofs.Ytghdngmmlnffkaa.Oct
