/- What the program's calls of an entry answer, and the document's: its number, and back. -/
import Derived.Test.YtghdngmmlnffkaaChecked
import Derived.Test.YtghdngmmlnffkaaMpm
import Derived.WalkKit
import Derived.BigQuiet
import Derived.Deep.RegionHeld3
import Derived.Laws.StructEq
namespace Go.Proofs.Ytghdngmmlnffkaa.Oct
open Go.RowKit

/-- A block of the call's own stays. -/
def StE (u : World) (R : Nat) (cs : Array Value) (t : TypeId) : Prop := u.heap[R]? = some (.cells cs t (0, 0))

theorem StE.below {u u' : World} {R : Nat} {cs : Array Value} {t : TypeId} (h : StE u R cs t) (hb : Below u.heap.size u u') : StE u' R cs t :=
  (hb.block R (Array.getElem?_eq_some_iff.1 h).1).trans h
theorem StE.drew {u : World} {R : Nat} {cs : Array Value} {t : TypeId} (h : StE u R cs t) : StE u.drew R cs t := h
theorem StE.cell {u : World} {R : Nat} {cs : Array Value} {t : TypeId} (h : StE u R cs t) (i : Nat) (v : Value) (hv : cs[i]? = some v) : u.cell? ⟨R, i, none⟩ = some v := by
  unfold StE at h
  simp only [World.cell?, h]
  exact hv
theorem StE.frozen {u : World} {R : Nat} {cs : Array Value} {t : TypeId} (h : StE u R cs t) (i : Nat) : u.frozen? ⟨R, i, none⟩ = false := by
  unfold StE at h
  simp [World.frozen?, h]
theorem StE.set {u : World} {R : Nat} {cs : Array Value} {t : TypeId} (h : StE u R cs t) (i : Nat) (v : Value) : StE (u.setCell ⟨R, i, none⟩ v) R (cs.setIfInBounds i v) t :=
  heap_setCell_same u R i cs t v h
theorem StE.other {u : World} {R R' : Nat} {cs : Array Value} {t : TypeId} (h : StE u R cs t) (hne : R' ≠ R) (i : Nat) (v : Value) : StE (u.setCell ⟨R', i, none⟩ v) R cs t := by
  unfold StE at *
  rw [← h]
  exact heap_setCell_other u ⟨R', i, none⟩ R v (fun h2 => hne h2.symm)
theorem StE.new (w : World) (cs : Array Value) (t : TypeId) : StE (w.alloc (.cells cs t)) w.heap.size cs t := heap_alloc_new w _
theorem StE.new2 (w : World) (A : Obj) (cs : Array Value) (t : TypeId) : StE ((w.alloc A).alloc (.cells cs t)) (w.heap.size + 1) cs t := heap_alloc2_new w A _
theorem StE.lt {u : World} {R : Nat} {cs : Array Value} {t : TypeId} (h : StE u R cs t) : R < u.heap.size := (Array.getElem?_eq_some_iff.1 h).1
theorem StE.box {u : World} {R : Nat} {k c : Int} {o : Bool} {t : TypeId} (h : StE u R #[.int .i64 k, .int .i64 c, .bool o] t) : u.cell? ⟨R, 0, none⟩ = some (.int .i64 k) ∧ u.cell? ⟨R, 1, none⟩ = some (.int .i64 c) ∧ u.cell? ⟨R, 2, none⟩ = some (.bool o) :=
  ⟨h.cell 0 _ rfl, h.cell 1 _ rfl, h.cell 2 _ rfl⟩

set_option maxHeartbeats 1000000 in
theorem encodeData_any (k c : Int) (o : Bool) (w : World) : Calls Try.prog 31 #[.agg #[.int .i64 k, .int .i64 c, .bool o]] w fun e w' => e = .returned (.tuple #[.int .u64 (encN 2 c o), .int .i64 (noE (okE 2 c o))]) ∧ Below w.heap.size w w' := by
  have hb := (Below.refl w.heap.size w).alloc (Nat.le_refl _) (.cells #[.int .i64 k, .int .i64 c, .bool o] 43)
  have HB := hide hb
  obtain ⟨c0, c1, c2⟩ := (StE.new w #[.int .i64 k, .int .i64 c, .bool o] 43).box
  clear hb
  by_cases h1 : c < 1
  · have e1 : okE 2 c o = false := decide_eq_false (by rintro (h | h) <;> omega)
    have e2 : encN 2 c o = 0 := by unfold encN; rw [e1]; rfl
    rw [e1, e2]
    go_enter Try.func31, Try.ntmps31
    go_wp2
    go_ret2
    exact ⟨rfl, HB.out⟩
  by_cases h2 : 8192 ≤ c
  · have e1 : okE 2 c o = false := decide_eq_false (by rintro (h | h) <;> omega)
    have e2 : encN 2 c o = 0 := by unfold encN; rw [e1]; rfl
    rw [e1, e2]
    go_enter Try.func31, Try.ntmps31
    go_wp2
    go_ret2
    exact ⟨rfl, HB.out⟩
  have e1 : okE 2 c o = true := decide_eq_true (Or.inl ⟨rfl, by omega, by omega⟩)
  have e2 : encN 2 c o = c * 256 + (if o then 9223372036854775808 else 0) := by unfold encN; rw [e1]; rfl
  have e3 : c % 18446744073709551616 * 2 ^ 8 % 18446744073709551616 = c * 256 := by omega
  have e4 := or_high (c * 256) (by omega) (by omega)
  rw [e1, e2]
  clear e1 e2
  cases o
  · go_enter Try.func31, Try.ntmps31
    go_wp2
    go_ret2
    refine ⟨?_, HB.out⟩
    simp [noE]
    try omega
  · go_enter Try.func31, Try.ntmps31
    go_wp2
    go_ret2
    refine ⟨?_, HB.out⟩
    simp [noE]
    try omega

/-- A result of an entry and another: the entry lies in a block. -/
theorem ret_E {fn : Func} {p u : Tmp} (hr : fn.results = #[.cell p 43, .tmp u]) (tmps : Array Value) (w : World) (R : Nat) (k c : Int) (o : Bool) (z : Value)
    (hp : tmps.getD p undef = .pointer (some ⟨R, 0, none⟩)) (hz : tmps.getD u undef = z) (hs : StE w R #[.int .i64 k, .int .i64 c, .bool o] 43) :
    (results fn tmps).run Try.prog w = .ok (.tuple #[.agg #[.int .i64 k, .int .i64 c, .bool o], z]) w := by
  rw [results_cell_tmp hr, hp, hz]
  simp only [asAddr, Sem.run_pure, Result.andThen_ok]
  rw [run_loadVar_row w R 43 43 _ (0, 0) _ hs Try.underlying43 rfl (by kernel_rfl)]
  rfl

theorem eqf_E (w : World) (k c : Int) (o : Bool) (k2 c2 : Int) (o2 : Bool) : (Op.equalIn 10000 43 (.agg #[.int .i64 k, .int .i64 c, .bool o]) (.agg #[.int .i64 k2, .int .i64 c2, .bool o2])).run Try.prog w = .ok (k == k2 && c == c2 && o == o2) w := by
  rw [run_equalIn_agg w 9999 43 _ _ (by kernel_rfl) (by kernel_rfl)]
  have hf : (Try.prog.fieldsOf 43).toList.map (fun f => (f.name, f.type, f.offset)) = [("Kind", 3, 0), ("Cluster", 2, 1), ("Own", 4, 2)] := by kernel_rfl
  obtain ⟨fs, hfs⟩ : ∃ fs, fs = (Try.prog.fieldsOf 43).toList := ⟨_, rfl⟩
  rw [← hfs] at hf ⊢
  clear hfs
  have hl : fs.length = 3 := by simpa using congrArg List.length hf
  obtain ⟨f0, f1, f2, rfl⟩ : ∃ f0 f1 f2, fs = [f0, f1, f2] := by match fs, hl with | [f0, f1, f2], _ => exact ⟨f0, f1, f2, rfl⟩
  simp only [List.map_cons, List.map_nil, List.cons.injEq, Prod.mk.injEq, and_true] at hf
  obtain ⟨⟨a1, a2, a3⟩, ⟨b1, b2, b3⟩, ⟨d1, d2, d3⟩⟩ := hf
  have p0 : ∀ k c o, (part 3 #[.int .i64 k, .int .i64 c, .bool o] 0).run Try.prog w = .ok (.int .i64 k) w := fun k c o => by go_simp
  have p1 : ∀ k c o, (part 2 #[.int .i64 k, .int .i64 c, .bool o] 1).run Try.prog w = .ok (.int .i64 c) w := fun k c o => by go_simp
  have p2 : ∀ k c o, (part 4 #[.int .i64 k, .int .i64 c, .bool o] 2).run Try.prog w = .ok (.bool o) w := fun k c o => by go_simp
  simp only [Op.eqFields, a1, a2, a3, b1, b2, b3, d1, d2, d3, Sem.run_bind, Sem.run_ite]
  have q0 := run_equalIn_int (P := Try.prog) w 9998 _ .i64 .i64 k k2 Try.underlying3
  have q1 := run_equalIn_int (P := Try.prog) w 9998 _ .i64 .i64 c c2 Try.underlying2
  have q2 := run_equalIn_bool (P := Try.prog) w 9998 _ o o2 Try.underlying4
  generalize (k == k2) = x at *
  generalize (c == c2) = y at *
  generalize (o == o2) = z at *
  cases x <;> cases y <;> cases z <;> simp [p0, p1, p2, q0, q1, q2, Result.andThen]

theorem eql_E (w : World) (k c : Int) (o : Bool) (k2 c2 : Int) (o2 : Bool) : (binOp .eql 43 (.agg #[.int .i64 k, .int .i64 c, .bool o]) (.agg #[.int .i64 k2, .int .i64 c2, .bool o2])).run Try.prog w = .ok (.bool (k == k2 && c == c2 && o == o2)) w := by
  rw [run_eql_struct, eqf_E]
  rfl

theorem neq_E (w : World) (k c : Int) (o : Bool) (k2 c2 : Int) (o2 : Bool) : (binOp .neq 43 (.agg #[.int .i64 k, .int .i64 c, .bool o]) (.agg #[.int .i64 k2, .int .i64 c2, .bool o2])).run Try.prog w = .ok (.bool (!(k == k2 && c == c2 && o == o2))) w := by
  rw [run_neq_struct, eqf_E]
  rfl

theorem guard_E (w : World) (op : BinOp) (p q : Operand) (xs ys : Array Value) : (eqGuard op 43 p q (.agg xs) (.agg ys)).run Try.prog w = .ok () w := run_eqGuard_agg w op _ _ _ _ _ (by kernel_rfl)
/-- A result of an entry and another: the entry lies in a block. -/
theorem ret_W {fn : Func} {p u : Tmp} (hr : fn.results = #[.cell p 41, .tmp u]) (tmps : Array Value) (w : World) (R : Nat) (k c : Int) (o : Bool) (z : Value)
    (hp : tmps.getD p undef = .pointer (some ⟨R, 0, none⟩)) (hz : tmps.getD u undef = z) (hs : StE w R #[.int .i64 k, .int .i64 c, .bool o] 41) :
    (results fn tmps).run Try.prog w = .ok (.tuple #[.agg #[.int .i64 k, .int .i64 c, .bool o], z]) w := by
  rw [results_cell_tmp hr, hp, hz]
  simp only [asAddr, Sem.run_pure, Result.andThen_ok]
  rw [run_loadVar_row w R 41 41 _ (0, 0) _ hs Try.underlying41 rfl (by kernel_rfl)]
  rfl

theorem eqf_W (w : World) (k c : Int) (o : Bool) (k2 c2 : Int) (o2 : Bool) : (Op.equalIn 10000 41 (.agg #[.int .i64 k, .int .i64 c, .bool o]) (.agg #[.int .i64 k2, .int .i64 c2, .bool o2])).run Try.prog w = .ok (k == k2 && c == c2 && o == o2) w := by
  rw [run_equalIn_agg w 9999 41 _ _ (by kernel_rfl) (by kernel_rfl)]
  have hf : (Try.prog.fieldsOf 41).toList.map (fun f => (f.name, f.type, f.offset)) = [("Kind", 3, 0), ("Cluster", 2, 1), ("Own", 4, 2)] := by kernel_rfl
  obtain ⟨fs, hfs⟩ : ∃ fs, fs = (Try.prog.fieldsOf 41).toList := ⟨_, rfl⟩
  rw [← hfs] at hf ⊢
  clear hfs
  have hl : fs.length = 3 := by simpa using congrArg List.length hf
  obtain ⟨f0, f1, f2, rfl⟩ : ∃ f0 f1 f2, fs = [f0, f1, f2] := by match fs, hl with | [f0, f1, f2], _ => exact ⟨f0, f1, f2, rfl⟩
  simp only [List.map_cons, List.map_nil, List.cons.injEq, Prod.mk.injEq, and_true] at hf
  obtain ⟨⟨a1, a2, a3⟩, ⟨b1, b2, b3⟩, ⟨d1, d2, d3⟩⟩ := hf
  have p0 : ∀ k c o, (part 3 #[.int .i64 k, .int .i64 c, .bool o] 0).run Try.prog w = .ok (.int .i64 k) w := fun k c o => by go_simp
  have p1 : ∀ k c o, (part 2 #[.int .i64 k, .int .i64 c, .bool o] 1).run Try.prog w = .ok (.int .i64 c) w := fun k c o => by go_simp
  have p2 : ∀ k c o, (part 4 #[.int .i64 k, .int .i64 c, .bool o] 2).run Try.prog w = .ok (.bool o) w := fun k c o => by go_simp
  simp only [Op.eqFields, a1, a2, a3, b1, b2, b3, d1, d2, d3, Sem.run_bind, Sem.run_ite]
  have q0 := run_equalIn_int (P := Try.prog) w 9998 _ .i64 .i64 k k2 Try.underlying3
  have q1 := run_equalIn_int (P := Try.prog) w 9998 _ .i64 .i64 c c2 Try.underlying2
  have q2 := run_equalIn_bool (P := Try.prog) w 9998 _ o o2 Try.underlying4
  generalize (k == k2) = x at *
  generalize (c == c2) = y at *
  generalize (o == o2) = z at *
  cases x <;> cases y <;> cases z <;> simp [p0, p1, p2, q0, q1, q2, Result.andThen]

theorem eql_W (w : World) (k c : Int) (o : Bool) (k2 c2 : Int) (o2 : Bool) : (binOp .eql 41 (.agg #[.int .i64 k, .int .i64 c, .bool o]) (.agg #[.int .i64 k2, .int .i64 c2, .bool o2])).run Try.prog w = .ok (.bool (k == k2 && c == c2 && o == o2)) w := by
  rw [run_eql_struct, eqf_W]
  rfl

theorem neq_W (w : World) (k c : Int) (o : Bool) (k2 c2 : Int) (o2 : Bool) : (binOp .neq 41 (.agg #[.int .i64 k, .int .i64 c, .bool o]) (.agg #[.int .i64 k2, .int .i64 c2, .bool o2])).run Try.prog w = .ok (.bool (!(k == k2 && c == c2 && o == o2))) w := by
  rw [run_neq_struct, eqf_W]
  rfl

theorem guard_W (w : World) (op : BinOp) (p q : Operand) (xs ys : Array Value) : (eqGuard op 41 p q (.agg xs) (.agg ys)).run Try.prog w = .ok () w := run_eqGuard_agg w op _ _ _ _ _ (by kernel_rfl)

set_option maxHeartbeats 1000000 in
theorem encode_any (k c : Int) (o : Bool) (w : World) : Calls Try.prog 19 #[.agg #[.int .i64 k, .int .i64 c, .bool o]] w fun e w' => e = .returned (.tuple #[.int .u64 (encN k c o), .int .i64 (noE (okE k c o))]) ∧ Below w.heap.size w w' := by
  have hb := (Below.refl w.heap.size w).alloc (Nat.le_refl _) (.cells #[.int .i64 k, .int .i64 c, .bool o] 43)
  have HB := hide hb
  obtain ⟨c0, c1, c2⟩ := (StE.new w #[.int .i64 k, .int .i64 c, .bool o] 43).box
  clear hb
  by_cases h1 : k = 2
  · subst h1
    go_enter Try.func19, Try.ntmps19
    go_wp2_with fail
    refine (encodeData_any _ c o _).mono ?_
    rintro e9 w2 ⟨rfl, hb2⟩
    have HB := hide (HB.out.trans (hb2.mono HB.out.size))
    clear hb2
    go_wp2_with fail
    go_ret2
    exact ⟨rfl, HB.out⟩
  by_cases h2 : okE k c o = true
  · have h3 := h2
    unfold okE at h3
    simp only [decide_eq_true_eq] at h3
    obtain ⟨h4, rfl, rfl⟩ : (k = 0 ∨ k = 1) ∧ c = 0 ∧ o = false := by rcases h3 with h | h; exact absurd h.1 h1; exact h
    have e2 : encN k 0 false = k := by unfold encN; rw [if_pos h2, if_neg h1]
    rw [h2, e2]
    clear h1 h2 h3 e2
    rcases h4 with rfl | rfl
    · go_enter Try.func19, Try.ntmps19
      go_wp2_with fail
      go_ret2
      exact ⟨rfl, HB.out⟩
    · go_enter Try.func19, Try.ntmps19
      go_wp2_with fail
      go_ret2
      exact ⟨rfl, HB.out⟩
  · have h2 : okE k c o = false := by simpa using h2
    have e2 : encN k c o = 0 := by unfold encN; rw [h2]; rfl
    have h3 := h2
    unfold okE at h3
    simp only [decide_eq_false_iff_not] at h3
    rw [h2, e2]
    clear h2 e2
    by_cases k0 : k = 0
    · subst k0
      by_cases cz : c = 0
      · subst cz
        have ho : o = true := by cases o; exact absurd (Or.inr ⟨Or.inl rfl, rfl, rfl⟩) h3; rfl
        subst ho
        clear h3
        go_enter Try.func19, Try.ntmps19
        go_wp2_with fail
        go_ret2
        exact ⟨rfl, HB.out⟩
      · have hcz : (c != 0) = true := by simp [cz]
        clear h3
        go_enter Try.func19, Try.ntmps19
        go_wp2_with fail
        go_ret2
        exact ⟨rfl, HB.out⟩
    by_cases k1 : k = 1
    · subst k1
      by_cases cz : c = 0
      · subst cz
        have ho : o = true := by cases o; exact absurd (Or.inr ⟨Or.inr rfl, rfl, rfl⟩) h3; rfl
        subst ho
        clear h3
        go_enter Try.func19, Try.ntmps19
        go_wp2_with fail
        go_ret2
        exact ⟨rfl, HB.out⟩
      · have hcz : (c != 0) = true := by simp [cz]
        clear h3
        go_enter Try.func19, Try.ntmps19
        go_wp2_with fail
        go_ret2
        exact ⟨rfl, HB.out⟩
    · have e0 : (k != 0) = true := by simp [k0]
      have e1 : (k != 1) = true := by simp [k1]
      have e2 : (k == 2) = false := by simp [h1]
      clear h3
      go_enter Try.func19, Try.ntmps19
      go_wp2_with fail
      go_ret2
      exact ⟨rfl, HB.out⟩
end Go.Proofs.Ytghdngmmlnffkaa.Oct
