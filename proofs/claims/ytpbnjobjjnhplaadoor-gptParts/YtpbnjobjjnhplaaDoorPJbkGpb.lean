/- Entries in memory: a whole one is loaded from a row; two that are the same are told to be. -/
import Derived.Test.YtpbnjobjjnhplaaDoorPAppChg
import Derived.Test.YtpbnjobjjnhplaaDoorChecked
import Derived.Laws.ResultCell
import Derived.Laws.Rows
import Derived.Test.YtpbnjobjjnhplaaDoorPGpa
import Derived.Test.YtpbnjobjjnhplaaDoorPRdLow
import Derived.Laws.StructEq
import Derived.Laws.CopyRow
import Derived.ChangeKeysEq
namespace Go.Proofs.YtpbnjobjjnhplaaDoor.Oct
open Go.RowKit

/-- A block's cells. -/
def Blk (u : World) (R : Nat) (cs : Array Value) (t : TypeId) : Prop := u.heap[R]? = some (.cells cs t (0, 0))
theorem Blk.lt {u : World} {R : Nat} {cs : Array Value} {t : TypeId} (h : Blk u R cs t) : R < u.heap.size := (Array.getElem?_eq_some_iff.1 h).1
theorem Blk.below {u u' : World} {R : Nat} {cs : Array Value} {t : TypeId} (h : Blk u R cs t) (hb : Below u.heap.size u u') : Blk u' R cs t := (hb.block R h.lt).trans h
theorem Blk.chg {X : Nat → Prop} {u u' : World} {R : Nat} {cs : Array Value} {t : TypeId} (h : Blk u R cs t) (hb : Chg X u u') (hx : ¬ X R) : Blk u' R cs t := (hb.block R h.lt hx).trans h
theorem Blk.drew {u : World} {R : Nat} {cs : Array Value} {t : TypeId} (h : Blk u R cs t) : Blk u.drew R cs t := h
theorem Blk.cell {u : World} {R : Nat} {cs : Array Value} {t : TypeId} (h : Blk u R cs t) (i : Nat) (v : Value) (hv : cs[i]? = some v) : u.cell? ⟨R, i, none⟩ = some v := by
  unfold Blk at h
  simp [World.cell?, h, hv]
theorem Blk.frozen {u : World} {R : Nat} {cs : Array Value} {t : TypeId} (h : Blk u R cs t) (i : Nat) : u.frozen? ⟨R, i, none⟩ = false := by
  unfold Blk at h
  simp [World.frozen?, h]
theorem Blk.set {u : World} {R : Nat} {cs : Array Value} {t : TypeId} (h : Blk u R cs t) (i : Nat) (v : Value) : Blk (u.setCell ⟨R, i, none⟩ v) R (cs.setIfInBounds i v) t := by
  unfold Blk at *
  simp [World.setCell, Array.getElem?_modify, h]
theorem Blk.other {u : World} {R R' : Nat} {cs : Array Value} {t : TypeId} (h : Blk u R cs t) (hne : R ≠ R') (i : Nat) (v : Value) : Blk (u.setCell ⟨R', i, none⟩ v) R cs t := by
  unfold Blk at *
  rw [← h]
  exact Below.heap_setCell _ _ _ _ hne
theorem Blk.new (w : World) (cs : Array Value) (t : TypeId) : Blk (w.alloc (.cells cs t)) w.heap.size cs t := heap_alloc_new w _

/-- A result of a struct in a block, and a value. -/
theorem ret_agg {fn : Func} {p u : Tmp} {ty : TypeId} (hr : fn.results = #[.cell p ty, .tmp u]) (tmps : Array Value) (w : World) (R : Nat) (cs : Array Value) (z : Value)
    (hp : tmps.getD p undef = .pointer (some ⟨R, 0, none⟩)) (hz : tmps.getD u undef = z) (hl : (loadVar ty ⟨R, 0, none⟩).run Tryd.prog w = .ok (.agg cs) w) :
    (results fn tmps).run Tryd.prog w = .ok (.tuple #[.agg cs, z]) w := by
  rw [results_cell_tmp hr, hp, hz]
  simp only [asAddr, Sem.run_pure, Result.andThen_ok]
  rw [hl]
  rfl
end Go.Proofs.YtpbnjobjjnhplaaDoor.Oct

namespace Go.Proofs.YtpbnjobjjnhplaaDoor.Oct
open Go.RowKit

/-- A whole value that stands within a block. -/
theorem run_loadVar_part {P : Program} (w : World) (b off : Nat) (ty : TypeId) (cs : List Value) (d : TypeDesc) (hc : ∀ j v, cs[j]? = some v → w.cell? ⟨b, off + j, none⟩ = some v)
    (hu : P.underlying ty = some d) (hd : (match d with | .struct _ | .array _ _ => true | _ => false) = true) (hi : (P.info? ty).map (·.size) = some cs.length) :
    (loadVar ty ⟨b, off, none⟩).run P w = .ok (.agg cs.toArray) w := by
  have hl : (loadCells ⟨b, off, none⟩ cs.length).run P w = .ok cs.toArray w :=
    run_loadCells_list (P := P) w ⟨b, off, none⟩ cs (fun j v hv => by rw [Go.WideShapes.add_plain]; exact hc j v hv)
  cases hq : P.info? ty with
  | none => simp [hq] at hi
  | some i =>
    have hs : i.size = cs.length := by simpa [hq] using hi
    have hagg : (isAgg ty).run P w = .ok true w := by
      unfold isAgg
      rw [Sem.run_bind, run_underlying hu w]
      cases d <;> simp_all
    simp [loadVar, Sem.run_bind, hagg, sizeOf, typeInfo, hq, hs, hl]

theorem wpList_load_part {P : Program} {ops : Array Oper} {rest : List Oper} {o : Oper} {a : Act} {w : World} {Q : Exit → Act → World → Prop} (hgd : o.guard = none) (ty : TypeId) (x : Operand) (ho : o.op = .load ty x)
    (b off : Nat) (hx : a.eval x = .pointer (some ⟨b, off, none⟩)) (cs : List Value) (d : TypeDesc) (hc : ∀ j v, cs[j]? = some v → w.cell? ⟨b, off + j, none⟩ = some v)
    (hu : P.underlying ty = some d) (hd : (match d with | .struct _ | .array _ _ => true | _ => false) = true) (hi : (P.info? ty).map (·.size) = some cs.length)
    (h : wpList P ops Q rest (a.put o.dst (.agg cs.toArray)) w) : wpList P ops Q (o :: rest) a w := by
  refine wpList_plain hgd fun K hK => ?_
  unfold Oper.wp execOp
  simp only [ho, hx, Instr.loadAt, Instr.sureAddr, Sem.run_bind, Sem.run_pure, Result.andThen_ok, run_loadVar_part w b off ty cs d hc hu hd hi]
  exact hK _ _ h

theorem eqItems_u8 (w : World) (d : Nat) (e : TypeId) (he : Tryd.prog.underlying e = some (.int .u8)) (hp : Tryd.prog.plainKey e = true) (l m : List Int) : ∀ is : List Nat, (∀ i ∈ is, i < l.length ∧ i < m.length) →
    ∃ r : Bool, (Op.eqItems (d + 1) e 1 (l.map (Value.int .u8)).toArray (m.map (Value.int .u8)).toArray is).run Tryd.prog w = .ok r w ∧ (r = true ↔ ∀ i ∈ is, l.getD i 0 = m.getD i 0)
  | [], _ => ⟨true, by simp [Op.eqItems], by simp⟩
  | i :: is, h => by
    obtain ⟨h1, h2⟩ := h i (by simp)
    obtain ⟨r, hr, hi⟩ := eqItems_u8 w d e he hp l m is (fun k hk => h k (by simp [hk]))
    have p1 := run_part_plain w hp (xs := (l.map (Value.int .u8)).toArray) (off := i * 1) (v := .int .u8 (l.getD i 0)) (by simp [h1])
    have p2 := run_part_plain w hp (xs := (m.map (Value.int .u8)).toArray) (off := i * 1) (v := .int .u8 (m.getD i 0)) (by simp [h2])
    have p3 := run_equalIn_int w d e .u8 .u8 (l.getD i 0) (m.getD i 0) he
    simp only [Op.eqItems, Sem.run_bind, p1, p2, p3, Result.andThen_ok]
    by_cases hx : l.getD i 0 = m.getD i 0
    · have hb : (l.getD i 0 == m.getD i 0) = true := by simpa using hx
      rw [hb]
      refine ⟨r, by simpa using hr, hi.trans ⟨fun g k hk => ?_, fun g k hk => g k (List.mem_cons_of_mem _ hk)⟩⟩
      rcases List.mem_cons.1 hk with rfl | hk
      · exact hx
      · exact g k hk
    · have hb : (l.getD i 0 == m.getD i 0) = false := by simpa using hx
      rw [hb]
      exact ⟨false, by simp, ⟨fun g => (by cases g), fun g => absurd (g i (by simp)) hx⟩⟩

theorem plain5 : Tryd.prog.plainKey 5 = true := by kernel_rfl
theorem cells5G : Tryd.prog.cellsOf 5 = 1 := by kernel_rfl

/-- Two arrays of bytes. -/
theorem eq_arr (w : World) (d n : Nat) (t : TypeId) (ht : Tryd.prog.underlying t = some (.array n 5)) (l m : List Int) (hl : l.length = n) (hm : m.length = n) :
    (Op.equalIn (d + 2) t (.agg (l.map (Value.int .u8)).toArray) (.agg (m.map (Value.int .u8)).toArray)).run Tryd.prog w = .ok (decide (l = m)) w := by
  obtain ⟨i0, hi, hz0, hz1, hz2⟩ := info_parts info5
  rw [run_equalIn_array w (d + 1) _ _ ht hi, cells5G]
  obtain ⟨r, hr, hiff⟩ := eqItems_u8 w d 5 Tryd.underlying5 plain5 l m (List.range n) (fun i hi => by rw [hl, hm]; exact ⟨List.mem_range.1 hi, List.mem_range.1 hi⟩)
  rw [hr]
  have : r = decide (l = m) := by
    have h : (∀ i ∈ List.range n, l.getD i 0 = m.getD i 0) ↔ l = m := by
      constructor
      · intro h
        refine List.ext_getElem (hl.trans hm.symm) fun i h1 h2 => ?_
        have := h i (List.mem_range.2 (by omega))
        simpa [List.getD_eq_getElem?_getD, List.getElem?_eq_getElem h1, List.getElem?_eq_getElem h2] using this
      · intro h i _
        rw [h]
    rw [h] at hiff
    cases r <;> simp_all
  rw [this]

theorem part_arr (w : World) (t : TypeId) (n off : Nat) (cs : List Value) (ht : Tryd.prog.underlying t = some (.array n 5)) (hi : (Tryd.prog.info? t).map (·.size) = some n) :
    (part t cs.toArray off).run Tryd.prog w = .ok (.agg ((cs.drop off).take n).toArray) w := by
  have hagg : (isAgg t).run Tryd.prog w = .ok true w := by
    unfold isAgg
    rw [Sem.run_bind, run_underlying ht w]
    rfl
  cases hq : Tryd.prog.info? t with
  | none => simp [hq] at hi
  | some i =>
    have hs : i.size = n := by simpa [hq] using hi
    simp [part, hagg, sizeOf, typeInfo, hq, hs, List.extract_toArray, List.extract_eq_take_drop]

theorem part_int (w : World) (t : TypeId) (k : IntKind) (off : Nat) (cs : List Value) (v : Value) (ht : Tryd.prog.underlying t = some (.int k)) (hv : cs[off]? = some v) :
    (part t cs.toArray off).run Tryd.prog w = .ok v w := by
  have hagg : (isAgg t).run Tryd.prog w = .ok false w := by
    unfold isAgg
    rw [Sem.run_bind, run_underlying ht w]
    rfl
  simp [part, hagg, hv]

theorem cells_ids {x : E4} (h : x.ok) : (x.cells.drop 0).take 32 = x.ids.map (Value.int .u8) := by
  unfold E4.cells
  rw [List.drop_zero]
  exact List.take_left' (by simp [h.1])

theorem cells_rest {x : E4} (h : x.ok) : (x.cells.drop 34).take 80 = x.rest.map (Value.int .u8) := by
  unfold E4.cells
  rw [← List.append_assoc, List.drop_left' (by simp [h.1])]
  exact List.take_of_length_le (by simp [h.2])

theorem cells_fi {x : E4} (h : x.ok) : x.cells[32]? = some (.int .i64 x.fi) := by
  unfold E4.cells
  rw [List.getElem?_append_right (by simp [h.1])]
  simp [h.1]

theorem cells_la {x : E4} (h : x.ok) : x.cells[33]? = some (.int .i64 x.la) := by
  unfold E4.cells
  rw [List.getElem?_append_right (by simp [h.1])]
  simp [h.1]

theorem u8_injG : ∀ {l m : List Int}, l.map (Value.int .u8) = m.map (Value.int .u8) → l = m
  | [], [], _ => rfl
  | [], _ :: _, h => by simp at h
  | _ :: _, [], h => by simp at h
  | x :: l, y :: m, h => by
    simp only [List.map_cons, List.cons.injEq, Value.int.injEq, true_and] at h
    rw [h.1, u8_injG h.2]

theorem eqFields_step {P : Program} {w : World} {d : Nat} {xs ys : Array Value} {f : Field} {fs : List Field} {a b : Value} {p : Prop} [Decidable p] {q : Prop} [Decidable q] (n : f.name ≠ "_") (ha : (part f.type xs f.offset).run P w = .ok a w) (hb : (part f.type ys f.offset).run P w = .ok b w)
    (he : (Op.equalIn d f.type a b).run P w = .ok (decide p) w) (hr : (Op.eqFields d xs ys fs).run P w = .ok (decide q) w) : (Op.eqFields d xs ys (f :: fs)).run P w = .ok (decide (p ∧ q)) w := by
  rw [Op.eqFields, if_pos n]
  simp only [Sem.run_bind, ha, hb, he, Result.andThen_ok, Sem.run_ite]
  by_cases h : p
  · simp only [h, decide_true, Bool.not_true, Bool.false_eq_true, if_false, true_and]
    exact hr
  · simp only [h, decide_false, Bool.not_false, if_true, false_and]
    exact Sem.run_pure ..

theorem eq_i64G (w : World) (x y : Int) : (Op.equalIn 9999 2 (.int .i64 x) (.int .i64 y)).run Tryd.prog w = .ok (decide (x = y)) w := by
  have h := run_equalIn_int w 9998 2 .i64 .i64 x y Tryd.underlying2
  exact h

theorem eqf_E4 (w : World) (x y : E4) (hx : x.ok) (hy : y.ok) : (Op.equalIn 10000 66 (.agg x.cells.toArray) (.agg y.cells.toArray)).run Tryd.prog w = .ok (decide (x = y)) w := by
  refine (run_equalIn_agg w 9999 66 _ _ (by kernel_rfl) (by kernel_rfl)).trans ?_
  have hf : (Tryd.prog.fieldsOf 66).toList.map (fun f => (f.name, f.type, f.offset)) = [("Ids", 63, 0), ("First", 2, 32), ("Last", 2, 33), ("Rest", 64, 34)] := by kernel_rfl
  obtain ⟨fs, hfs⟩ : ∃ fs, fs = (Tryd.prog.fieldsOf 66).toList := ⟨_, rfl⟩
  rw [← hfs] at hf ⊢
  clear hfs
  have hl : fs.length = 4 := by simpa using congrArg List.length hf
  obtain ⟨g0, g1, g2, g3, rfl⟩ : ∃ g0 g1 g2 g3, fs = [g0, g1, g2, g3] := by match fs, hl with | [g0, g1, g2, g3], _ => exact ⟨g0, g1, g2, g3, rfl⟩
  simp only [List.map_cons, List.map_nil, List.cons.injEq, Prod.mk.injEq, and_true] at hf
  obtain ⟨⟨a0, b0, c0⟩, ⟨a1, b1, c1⟩, ⟨a2, b2, c2⟩, a3, b3, c3⟩ := hf
  have p0 := fun (z : E4) (hz : z.ok) => (part_arr w 63 32 0 z.cells Tryd.underlying63 (by kernel_rfl)).trans (by rw [cells_ids hz])
  have p3 := fun (z : E4) (hz : z.ok) => (part_arr w 64 80 34 z.cells Tryd.underlying64 (by kernel_rfl)).trans (by rw [cells_rest hz])
  have p1 := fun (z : E4) (hz : z.ok) => part_int w 2 .i64 32 z.cells _ Tryd.underlying2 (cells_fi hz)
  have p2 := fun (z : E4) (hz : z.ok) => part_int w 2 .i64 33 z.cells _ Tryd.underlying2 (cells_la hz)
  rw [← b0, ← c0] at p0
  rw [← b1, ← c1] at p1
  rw [← c2] at p2
  rw [← b3, ← c3] at p3
  have h3 := eqFields_step (P := Tryd.prog) (w := w) (d := 9999) (xs := x.cells.toArray) (ys := y.cells.toArray) (f := g3) (fs := []) (p := x.rest = y.rest) (q := True) (by rw [a3]; decide) (p3 x hx) (p3 y hy) (by rw [b3]; exact eq_arr w 9997 80 64 Tryd.underlying64 x.rest y.rest hx.2 hy.2) (by simp [Op.eqFields])
  have h2 := eqFields_step (P := Tryd.prog) (w := w) (d := 9999) (xs := x.cells.toArray) (ys := y.cells.toArray) (f := g2) (fs := [g3]) (p := x.la = y.la) (by rw [a2]; decide) (by rw [b2]; exact p2 x hx) (by rw [b2]; exact p2 y hy) (by rw [b2]; exact eq_i64G w x.la y.la) h3
  have h1 := eqFields_step (P := Tryd.prog) (w := w) (d := 9999) (xs := x.cells.toArray) (ys := y.cells.toArray) (f := g1) (fs := [g2, g3]) (p := x.fi = y.fi) (by rw [a1]; decide) (p1 x hx) (p1 y hy) (by rw [b1]; exact eq_i64G w x.fi y.fi) h2
  have h0 := eqFields_step (P := Tryd.prog) (w := w) (d := 9999) (xs := x.cells.toArray) (ys := y.cells.toArray) (f := g0) (fs := [g1, g2, g3]) (p := x.ids = y.ids) (by rw [a0]; decide) (p0 x hx) (p0 y hy) (by rw [b0]; exact eq_arr w 9997 32 63 Tryd.underlying63 x.ids y.ids hx.1 hy.1) h1
  refine h0.trans ?_
  congr 1
  refine decide_eq_decide.2 ?_
  cases x
  cases y
  simp
end Go.Proofs.YtpbnjobjjnhplaaDoor.Oct
