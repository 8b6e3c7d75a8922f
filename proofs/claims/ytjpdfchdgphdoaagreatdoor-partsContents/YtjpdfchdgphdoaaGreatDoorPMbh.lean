/- What the object is asked, and told, of the first sector's entries. -/
import Derived.Test.YtjpdfchdgphdoaaGreatDoorPMbg
import Derived.Laws.StructEq
namespace Go.Proofs.YtjpdfchdgphdoaaGreatDoor.Oct
open Go.RowKit

theorem eqf_X (w : World) (x1 x2 y1 y2 : Int) : (Op.equalIn 10000 24 (.agg #[.int .i64 x1, .int .i64 x2]) (.agg #[.int .i64 y1, .int .i64 y2])).run Tryz.prog w = .ok (decide ((x1, x2) = (y1, y2))) w := by
  rw [run_equalIn_agg w 9999 24 _ _ (by kernel_rfl) (by kernel_rfl)]
  have hf : (Tryz.prog.fieldsOf 24).toList.map (fun f => (f.name, f.type, f.offset)) = [("From", 2, 0), ("To", 2, 1)] := by kernel_rfl
  obtain ⟨fs, hfs⟩ : ∃ fs, fs = (Tryz.prog.fieldsOf 24).toList := ⟨_, rfl⟩
  rw [← hfs] at hf ⊢
  clear hfs
  have hl : fs.length = 2 := by simpa using congrArg List.length hf
  obtain ⟨f, g, rfl⟩ : ∃ f g, fs = [f, g] := by match fs, hl with | [f, g], _ => exact ⟨f, g, rfl⟩
  simp only [List.map_cons, List.map_nil, List.cons.injEq, Prod.mk.injEq, and_true] at hf
  obtain ⟨⟨f1, f2, f3⟩, g1, g2, g3⟩ := hf
  have hpx : ∀ (i : Nat) (x y : Int), i = 0 ∨ i = 1 → (part 2 #[.int .i64 x, .int .i64 y] i).run Tryz.prog w = .ok (.int .i64 (if i = 0 then x else y)) w := by
    rintro i x y (rfl | rfl)
    · go_simp
    · go_simp
  simp only [Op.eqFields, f1, f2, f3, g1, g2, g3, Sem.run_bind, Sem.run_ite]
  simp [hpx, run_equalIn_int, Tryz.underlying2, Result.andThen]
  by_cases h1 : x1 = y1 <;> by_cases h2 : x2 = y2 <;> simp [h1, h2]

theorem neq_X (w : World) (x y : Int × Int) (b : Bool) (hb : decide (x = y) = b) : (binOp .neq 24 (.agg #[.int .i64 x.1, .int .i64 x.2]) (.agg #[.int .i64 y.1, .int .i64 y.2])).run Tryz.prog w = .ok (.bool (!b)) w := by
  rw [run_neq_struct, eqf_X, ← hb]
  rfl

theorem guard_X (w : World) (op : BinOp) (p q : Operand) (xs ys : Array Value) : (eqGuard op 24 p q (.agg xs) (.agg ys)).run Tryz.prog w = .ok () w := run_eqGuard_agg w op _ _ _ _ _ (by kernel_rfl)

set_option maxHeartbeats 1000000 in
theorem room_any (w : World) (K : Nat → Prop) (R : Nat) (a : Option Addr) (n cap : Nat) (vP vH : Value) (st : MS) (h : Rdg w K R (.iface 33 (.slice a n cap)) vP vH st) :
    Calls Tryz.prog 79 #[.pointer (some ⟨R, 0, none⟩)] w fun e w' => e = .returned (.agg #[.int .i64 512, .int .i64 (n : Int)]) ∧ Below w.heap.size w w' := by
  have HM : ∀ u, Hid (Calls Tryz.prog 157 #[.slice a n cap] u fun e w' => e = .returned (.int .i64 (n : Int)) ∧ w' = u) := fun u => hide (msize_any a n cap u)
  have hmR : ∀ (u : World) (a : Option Addr) (n c : Nat), (method 342 33 (.slice a n c) "Size").run Tryz.prog u = .ok (157, .slice a n c) u := fun u a n c => by kernel_rfl
  have r5 := h.cell.2.2.2.2.2
  have r6 : (w.alloc (.cells #[.int .i64 0, .int .i64 0] 24)).cell? ⟨R, 5, none⟩ = some (.iface 33 (.slice a n cap)) := (h.below ((Below.refl _ _).alloc (Nat.le_refl _) _)).cell.2.2.2.2.2
  have hlt := h.blk.lt
  have hne : R ≠ w.heap.size := by omega
  have HN := hide (Blk.new w #[.int .i64 512, .int .i64 (n : Int)] 24)
  have HB := hide ((Below.refl w.heap.size w).alloc (Nat.le_refl _) (.cells #[.int .i64 512, .int .i64 (n : Int)] 24))
  clear h
  go_enter Tryz.func79, Tryz.ntmps79
  go_wp2_with (go_at_call 157; refine ((HM _).out).mono ?_; rintro e9 w2 ⟨rfl, h2⟩; subst h2)
  refine bodyPost_ret (results_cell_row rfl _ _ w.heap.size 24 _ (0, 0) _ rfl HN.out Tryz.underlying24 rfl (by kernel_rfl)) rfl ?_
  exact ⟨rfl, HB.out⟩

set_option maxHeartbeats 1000000 in
theorem inner_any (w : World) (K : Nat → Prop) (R : Nat) (dv vP vH : Value) (st : MS) (h : Rdg w K R dv vP vH st) :
    Calls Tryz.prog 57 #[.pointer (some ⟨R, 0, none⟩)] w fun e w' => e = .returned (.bool st.inn) ∧ w' = w := by
  obtain ⟨c0, c1, c2, c3, c4, c5⟩ := h.cell
  have hgd := fun (u : World) (p q : Operand) => guard_X u .neq p q #[.int .i64 st.i1, .int .i64 st.i2] #[.int .i64 0, .int .i64 0]
  have hq := fun u : World => neq_X u (st.i1, st.i2) (0, 0) (decide (st.i1 = 0) && decide (st.i2 = 0)) (by simp)
  have HI : Hid (st.inn = !(decide (st.i1 = 0) && decide (st.i2 = 0))) := hide rfl
  dsimp only at hq
  generalize (decide (st.i1 = 0) && decide (st.i2 = 0)) = b at *
  rw [HI.out]
  clear h HI
  generalize st.i1 = x at *
  generalize st.i2 = y at *
  go_enter Tryz.func57, Tryz.ntmps57
  go_wp2_with fail
  go_ret
  exact ⟨rfl, rfl⟩
end Go.Proofs.YtjpdfchdgphdoaaGreatDoor.Oct
