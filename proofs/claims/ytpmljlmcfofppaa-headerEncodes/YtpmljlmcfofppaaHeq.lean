/- Two headers that are the same are told to be. -/
import Derived.Test.YtpmljlmcfofppaaHdl
import Derived.Laws.StructEq
namespace Go.Proofs.Ytpmljlmcfofppaa.Oct
open Go.RowKit

theorem eqf_H (w : World) (b s o j : Int) (k : Bool) : (Op.equalIn 10000 23 (.agg #[.int .i64 b, .int .i64 s, .int .i64 o, .int .i64 j, .bool k]) (.agg #[.int .i64 b, .int .i64 s, .int .i64 o, .int .i64 j, .bool k])).run Try.prog w = .ok true w := by
  rw [run_equalIn_agg w 9999 23 _ _ (by kernel_rfl) (by kernel_rfl)]
  have hf : (Try.prog.fieldsOf 23).toList.map (fun f => (f.name, f.type, f.offset)) = [("Bits", 3, 0), ("Size", 2, 1), ("Host", 2, 2), ("Journal", 2, 3), ("Backed", 4, 4)] := by kernel_rfl
  obtain ⟨fs, hfs⟩ : ∃ fs, fs = (Try.prog.fieldsOf 23).toList := ⟨_, rfl⟩
  rw [← hfs] at hf ⊢
  clear hfs
  have hl : fs.length = 5 := by simpa using congrArg List.length hf
  obtain ⟨f0, f1, f2, f3, f4, rfl⟩ : ∃ f0 f1 f2 f3 f4, fs = [f0, f1, f2, f3, f4] := by match fs, hl with | [f0, f1, f2, f3, f4], _ => exact ⟨f0, f1, f2, f3, f4, rfl⟩
  simp only [List.map_cons, List.map_nil, List.cons.injEq, Prod.mk.injEq, and_true] at hf
  obtain ⟨⟨a1, a2, a3⟩, ⟨b1, b2, b3⟩, ⟨c1, c2, c3⟩, ⟨d1, d2, d3⟩, e1, e2, e3⟩ := hf
  have p0 : (part 3 #[.int .i64 b, .int .i64 s, .int .i64 o, .int .i64 j, .bool k] 0).run Try.prog w = .ok (.int .i64 b) w := by go_simp
  have p1 : (part 2 #[.int .i64 b, .int .i64 s, .int .i64 o, .int .i64 j, .bool k] 1).run Try.prog w = .ok (.int .i64 s) w := by go_simp
  have p2 : (part 2 #[.int .i64 b, .int .i64 s, .int .i64 o, .int .i64 j, .bool k] 2).run Try.prog w = .ok (.int .i64 o) w := by go_simp
  have p3 : (part 2 #[.int .i64 b, .int .i64 s, .int .i64 o, .int .i64 j, .bool k] 3).run Try.prog w = .ok (.int .i64 j) w := by go_simp
  have p4 : (part 4 #[.int .i64 b, .int .i64 s, .int .i64 o, .int .i64 j, .bool k] 4).run Try.prog w = .ok (.bool k) w := by go_simp
  simp only [Op.eqFields, a1, a2, a3, b1, b2, b3, c1, c2, c3, d1, d2, d3, e1, e2, e3, Sem.run_bind, Sem.run_ite]
  simp [p0, p1, p2, p3, p4, run_equalIn_int, run_equalIn_bool, Try.underlying2, Try.underlying3, Try.underlying4, Result.andThen]

theorem eql_H (w : World) (b s o j : Int) (k : Bool) : (binOp .eql 23 (.agg #[.int .i64 b, .int .i64 s, .int .i64 o, .int .i64 j, .bool k]) (.agg #[.int .i64 b, .int .i64 s, .int .i64 o, .int .i64 j, .bool k])).run Try.prog w = .ok (.bool true) w := by
  rw [run_eql_struct, eqf_H]
  rfl

theorem guard_H (w : World) (op : BinOp) (p q : Operand) (xs ys : Array Value) : (eqGuard op 23 p q (.agg xs) (.agg ys)).run Try.prog w = .ok () w := run_eqGuard_agg w op _ _ _ _ _ (by kernel_rfl)
theorem eqf_W (w : World) (b s o j : Int) (k : Bool) : (Op.equalIn 10000 24 (.agg #[.int .i64 b, .int .i64 s, .int .i64 o, .int .i64 j, .bool k]) (.agg #[.int .i64 b, .int .i64 s, .int .i64 o, .int .i64 j, .bool k])).run Try.prog w = .ok true w := by
  rw [run_equalIn_agg w 9999 24 _ _ (by kernel_rfl) (by kernel_rfl)]
  have hf : (Try.prog.fieldsOf 24).toList.map (fun f => (f.name, f.type, f.offset)) = [("Bits", 3, 0), ("Size", 2, 1), ("Host", 2, 2), ("Journal", 2, 3), ("Backed", 4, 4)] := by kernel_rfl
  obtain ⟨fs, hfs⟩ : ∃ fs, fs = (Try.prog.fieldsOf 24).toList := ⟨_, rfl⟩
  rw [← hfs] at hf ⊢
  clear hfs
  have hl : fs.length = 5 := by simpa using congrArg List.length hf
  obtain ⟨f0, f1, f2, f3, f4, rfl⟩ : ∃ f0 f1 f2 f3 f4, fs = [f0, f1, f2, f3, f4] := by match fs, hl with | [f0, f1, f2, f3, f4], _ => exact ⟨f0, f1, f2, f3, f4, rfl⟩
  simp only [List.map_cons, List.map_nil, List.cons.injEq, Prod.mk.injEq, and_true] at hf
  obtain ⟨⟨a1, a2, a3⟩, ⟨b1, b2, b3⟩, ⟨c1, c2, c3⟩, ⟨d1, d2, d3⟩, e1, e2, e3⟩ := hf
  have p0 : (part 3 #[.int .i64 b, .int .i64 s, .int .i64 o, .int .i64 j, .bool k] 0).run Try.prog w = .ok (.int .i64 b) w := by go_simp
  have p1 : (part 2 #[.int .i64 b, .int .i64 s, .int .i64 o, .int .i64 j, .bool k] 1).run Try.prog w = .ok (.int .i64 s) w := by go_simp
  have p2 : (part 2 #[.int .i64 b, .int .i64 s, .int .i64 o, .int .i64 j, .bool k] 2).run Try.prog w = .ok (.int .i64 o) w := by go_simp
  have p3 : (part 2 #[.int .i64 b, .int .i64 s, .int .i64 o, .int .i64 j, .bool k] 3).run Try.prog w = .ok (.int .i64 j) w := by go_simp
  have p4 : (part 4 #[.int .i64 b, .int .i64 s, .int .i64 o, .int .i64 j, .bool k] 4).run Try.prog w = .ok (.bool k) w := by go_simp
  simp only [Op.eqFields, a1, a2, a3, b1, b2, b3, c1, c2, c3, d1, d2, d3, e1, e2, e3, Sem.run_bind, Sem.run_ite]
  simp [p0, p1, p2, p3, p4, run_equalIn_int, run_equalIn_bool, Try.underlying2, Try.underlying3, Try.underlying4, Result.andThen]

theorem eql_W (w : World) (b s o j : Int) (k : Bool) : (binOp .eql 24 (.agg #[.int .i64 b, .int .i64 s, .int .i64 o, .int .i64 j, .bool k]) (.agg #[.int .i64 b, .int .i64 s, .int .i64 o, .int .i64 j, .bool k])).run Try.prog w = .ok (.bool true) w := by
  rw [run_eql_struct, eqf_W]
  rfl

theorem guard_W (w : World) (op : BinOp) (p q : Operand) (xs ys : Array Value) : (eqGuard op 24 p q (.agg xs) (.agg ys)).run Try.prog w = .ok () w := run_eqGuard_agg w op _ _ _ _ _ (by kernel_rfl)
end Go.Proofs.Ytpmljlmcfofppaa.Oct
