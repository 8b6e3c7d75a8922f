/- Supers that are the same are told to be. -/
import Derived.Test.YtjmajjfknmjifaaDoorPEyh
import Derived.Test.YtjmajjfknmjifaaDoorPEyb
import Derived.Laws.StructEq
namespace Go.Proofs.YtjmajjfknmjifaaDoor.Oct
open Go.RowKit

set_option maxHeartbeats 2000000 in
theorem spput_off (s : Sp) (a : Option Addr) (n cap : Nat) (w : World) (hn : n ≠ 1024) :
    Calls Tryd.prog 12 #[.agg s.cs, .slice a n cap] w fun e w' => e = .returned (.int .i64 4) ∧ Below w.heap.size w w' := by
  have hb1 : Below w.heap.size w (w.alloc (.cells s.cs 23)) := (Below.refl w.heap.size w).alloc (Nat.le_refl _) _
  have HB1 := hide hb1
  have hI : ¬ (n : Int) = 1024 := by omega
  clear hb1 hn
  go_enter Tryd.func12, Tryd.ntmps12
  go_wp2_with fail
  go_ret
  exact ⟨rfl, HB1.out⟩

set_option maxHeartbeats 2000000 in
theorem spput_bad (s : Sp) (a : Option Addr) (cap : Nat) (w : World) (hk : s.chk ≠ 0) :
    Calls Tryd.prog 12 #[.agg s.cs, .slice a 1024 cap] w fun e w' => e = .returned (.int .i64 s.chk) ∧ Below w.heap.size w w' := by
  obtain ⟨c0, c1, c2, c3, c4, c5, c6, c7⟩ := cells_sp (Blk.new w s.cs 23)
  have hb1 : Below w.heap.size w (w.alloc (.cells s.cs 23)) := (Below.refl w.heap.size w).alloc (Nat.le_refl _) _
  have HB1 := hide hb1
  have HCk := fun u => hide (chk_any s u)
  obtain ⟨k, hkk⟩ : ∃ k, k = s.chk := ⟨_, rfl⟩
  rw [← hkk] at HCk hk ⊢
  have x : (k != 0) = true := by simpa using hk
  clear hb1 hkk
  go_enter Tryd.func12, Tryd.ntmps12
  go_wp2_with fail
  refine (HCk _).out.mono ?_
  rintro e9 w2 ⟨rfl, h2⟩
  have HB2 := hide (HB1.out.trans (h2.mono HB1.out.size))
  clear h2
  go_wp2_with fail
  go_ret
  exact ⟨rfl, HB2.out⟩
end Go.Proofs.YtjmajjfknmjifaaDoor.Oct

namespace Go.Proofs.YtjmajjfknmjifaaDoor.Oct
open Go.RowKit

theorem eqf_Se (w : World) (s : Sp) : (Op.equalIn 10000 23 (.agg s.cs) (.agg s.cs)).run Tryd.prog w = .ok true w := by
  obtain ⟨x0, x1, x2, x3, x4, x5, x6, x7⟩ := s
  unfold Sp.cs
  rw [run_equalIn_agg w 9999 23 _ _ (by kernel_rfl) (by kernel_rfl)]
  have hf : (Tryd.prog.fieldsOf 23).toList.map (fun f => (f.name, f.type, f.offset)) = [("Inodes", 2, 0), ("Blocks", 2, 1), ("FreeBlocks", 2, 2), ("FreeInodes", 2, 3), ("Per", 2, 4), ("Each", 2, 5), ("First", 2, 6), ("Types", 4, 7)] := by kernel_rfl
  obtain ⟨fs, hfs⟩ : ∃ fs, fs = (Tryd.prog.fieldsOf 23).toList := ⟨_, rfl⟩
  rw [← hfs] at hf ⊢
  clear hfs
  have hl : fs.length = 8 := by simpa using congrArg List.length hf
  obtain ⟨g0, g1, g2, g3, g4, g5, g6, g7, rfl⟩ : ∃ g0 g1 g2 g3 g4 g5 g6 g7, fs = [g0, g1, g2, g3, g4, g5, g6, g7] := by match fs, hl with | [g0, g1, g2, g3, g4, g5, g6, g7], _ => exact ⟨g0, g1, g2, g3, g4, g5, g6, g7, rfl⟩
  simp only [List.map_cons, List.map_nil, List.cons.injEq, Prod.mk.injEq, and_true] at hf
  obtain ⟨⟨a0, b0, c0⟩, ⟨a1, b1, c1⟩, ⟨a2, b2, c2⟩, ⟨a3, b3, c3⟩, ⟨a4, b4, c4⟩, ⟨a5, b5, c5⟩, ⟨a6, b6, c6⟩, a7, b7, c7⟩ := hf
  have p0 : (part 2 #[.int .i64 x0, .int .i64 x1, .int .i64 x2, .int .i64 x3, .int .i64 x4, .int .i64 x5, .int .i64 x6, .bool x7] 0).run Tryd.prog w = .ok (.int .i64 x0) w := by go_simp
  have p1 : (part 2 #[.int .i64 x0, .int .i64 x1, .int .i64 x2, .int .i64 x3, .int .i64 x4, .int .i64 x5, .int .i64 x6, .bool x7] 1).run Tryd.prog w = .ok (.int .i64 x1) w := by go_simp
  have p2 : (part 2 #[.int .i64 x0, .int .i64 x1, .int .i64 x2, .int .i64 x3, .int .i64 x4, .int .i64 x5, .int .i64 x6, .bool x7] 2).run Tryd.prog w = .ok (.int .i64 x2) w := by go_simp
  have p3 : (part 2 #[.int .i64 x0, .int .i64 x1, .int .i64 x2, .int .i64 x3, .int .i64 x4, .int .i64 x5, .int .i64 x6, .bool x7] 3).run Tryd.prog w = .ok (.int .i64 x3) w := by go_simp
  have p4 : (part 2 #[.int .i64 x0, .int .i64 x1, .int .i64 x2, .int .i64 x3, .int .i64 x4, .int .i64 x5, .int .i64 x6, .bool x7] 4).run Tryd.prog w = .ok (.int .i64 x4) w := by go_simp
  have p5 : (part 2 #[.int .i64 x0, .int .i64 x1, .int .i64 x2, .int .i64 x3, .int .i64 x4, .int .i64 x5, .int .i64 x6, .bool x7] 5).run Tryd.prog w = .ok (.int .i64 x5) w := by go_simp
  have p6 : (part 2 #[.int .i64 x0, .int .i64 x1, .int .i64 x2, .int .i64 x3, .int .i64 x4, .int .i64 x5, .int .i64 x6, .bool x7] 6).run Tryd.prog w = .ok (.int .i64 x6) w := by go_simp
  have p7 : (part 4 #[.int .i64 x0, .int .i64 x1, .int .i64 x2, .int .i64 x3, .int .i64 x4, .int .i64 x5, .int .i64 x6, .bool x7] 7).run Tryd.prog w = .ok (.bool x7) w := by go_simp
  simp only [Op.eqFields, a0, b0, c0, a1, b1, c1, a2, b2, c2, a3, b3, c3, a4, b4, c4, a5, b5, c5, a6, b6, c6, a7, b7, c7, Sem.run_bind, Sem.run_ite]
  simp [p0, p1, p2, p3, p4, p5, p6, p7, run_equalIn_int, run_equalIn_bool, Tryd.underlying2, Tryd.underlying4, Result.andThen]

theorem eql_Se (w : World) (s : Sp) : (binOp .eql 23 (.agg s.cs) (.agg s.cs)).run Tryd.prog w = .ok (.bool true) w := by
  rw [run_eql_struct, eqf_Se]
  rfl
theorem neq_Se (w : World) (s : Sp) : (binOp .neq 23 (.agg s.cs) (.agg s.cs)).run Tryd.prog w = .ok (.bool false) w := by
  rw [run_neq_struct, eqf_Se]
  rfl
theorem guard_Se (w : World) (op : BinOp) (p q : Operand) (xs ys : Array Value) : (eqGuard op 23 p q (.agg xs) (.agg ys)).run Tryd.prog w = .ok () w := run_eqGuard_agg w op _ _ _ _ _ (by kernel_rfl)
theorem eqf_Sr (w : World) (s : Sp) : (Op.equalIn 10000 30 (.agg s.cs) (.agg s.cs)).run Tryd.prog w = .ok true w := by
  obtain ⟨x0, x1, x2, x3, x4, x5, x6, x7⟩ := s
  unfold Sp.cs
  rw [run_equalIn_agg w 9999 30 _ _ (by kernel_rfl) (by kernel_rfl)]
  have hf : (Tryd.prog.fieldsOf 30).toList.map (fun f => (f.name, f.type, f.offset)) = [("Inodes", 2, 0), ("Blocks", 2, 1), ("FreeBlocks", 2, 2), ("FreeInodes", 2, 3), ("Per", 2, 4), ("Each", 2, 5), ("First", 2, 6), ("Types", 4, 7)] := by kernel_rfl
  obtain ⟨fs, hfs⟩ : ∃ fs, fs = (Tryd.prog.fieldsOf 30).toList := ⟨_, rfl⟩
  rw [← hfs] at hf ⊢
  clear hfs
  have hl : fs.length = 8 := by simpa using congrArg List.length hf
  obtain ⟨g0, g1, g2, g3, g4, g5, g6, g7, rfl⟩ : ∃ g0 g1 g2 g3 g4 g5 g6 g7, fs = [g0, g1, g2, g3, g4, g5, g6, g7] := by match fs, hl with | [g0, g1, g2, g3, g4, g5, g6, g7], _ => exact ⟨g0, g1, g2, g3, g4, g5, g6, g7, rfl⟩
  simp only [List.map_cons, List.map_nil, List.cons.injEq, Prod.mk.injEq, and_true] at hf
  obtain ⟨⟨a0, b0, c0⟩, ⟨a1, b1, c1⟩, ⟨a2, b2, c2⟩, ⟨a3, b3, c3⟩, ⟨a4, b4, c4⟩, ⟨a5, b5, c5⟩, ⟨a6, b6, c6⟩, a7, b7, c7⟩ := hf
  have p0 : (part 2 #[.int .i64 x0, .int .i64 x1, .int .i64 x2, .int .i64 x3, .int .i64 x4, .int .i64 x5, .int .i64 x6, .bool x7] 0).run Tryd.prog w = .ok (.int .i64 x0) w := by go_simp
  have p1 : (part 2 #[.int .i64 x0, .int .i64 x1, .int .i64 x2, .int .i64 x3, .int .i64 x4, .int .i64 x5, .int .i64 x6, .bool x7] 1).run Tryd.prog w = .ok (.int .i64 x1) w := by go_simp
  have p2 : (part 2 #[.int .i64 x0, .int .i64 x1, .int .i64 x2, .int .i64 x3, .int .i64 x4, .int .i64 x5, .int .i64 x6, .bool x7] 2).run Tryd.prog w = .ok (.int .i64 x2) w := by go_simp
  have p3 : (part 2 #[.int .i64 x0, .int .i64 x1, .int .i64 x2, .int .i64 x3, .int .i64 x4, .int .i64 x5, .int .i64 x6, .bool x7] 3).run Tryd.prog w = .ok (.int .i64 x3) w := by go_simp
  have p4 : (part 2 #[.int .i64 x0, .int .i64 x1, .int .i64 x2, .int .i64 x3, .int .i64 x4, .int .i64 x5, .int .i64 x6, .bool x7] 4).run Tryd.prog w = .ok (.int .i64 x4) w := by go_simp
  have p5 : (part 2 #[.int .i64 x0, .int .i64 x1, .int .i64 x2, .int .i64 x3, .int .i64 x4, .int .i64 x5, .int .i64 x6, .bool x7] 5).run Tryd.prog w = .ok (.int .i64 x5) w := by go_simp
  have p6 : (part 2 #[.int .i64 x0, .int .i64 x1, .int .i64 x2, .int .i64 x3, .int .i64 x4, .int .i64 x5, .int .i64 x6, .bool x7] 6).run Tryd.prog w = .ok (.int .i64 x6) w := by go_simp
  have p7 : (part 4 #[.int .i64 x0, .int .i64 x1, .int .i64 x2, .int .i64 x3, .int .i64 x4, .int .i64 x5, .int .i64 x6, .bool x7] 7).run Tryd.prog w = .ok (.bool x7) w := by go_simp
  simp only [Op.eqFields, a0, b0, c0, a1, b1, c1, a2, b2, c2, a3, b3, c3, a4, b4, c4, a5, b5, c5, a6, b6, c6, a7, b7, c7, Sem.run_bind, Sem.run_ite]
  simp [p0, p1, p2, p3, p4, p5, p6, p7, run_equalIn_int, run_equalIn_bool, Tryd.underlying2, Tryd.underlying4, Result.andThen]

theorem eql_Sr (w : World) (s : Sp) : (binOp .eql 30 (.agg s.cs) (.agg s.cs)).run Tryd.prog w = .ok (.bool true) w := by
  rw [run_eql_struct, eqf_Sr]
  rfl
theorem neq_Sr (w : World) (s : Sp) : (binOp .neq 30 (.agg s.cs) (.agg s.cs)).run Tryd.prog w = .ok (.bool false) w := by
  rw [run_neq_struct, eqf_Sr]
  rfl
theorem guard_Sr (w : World) (op : BinOp) (p q : Operand) (xs ys : Array Value) : (eqGuard op 30 p q (.agg xs) (.agg ys)).run Tryd.prog w = .ok () w := run_eqGuard_agg w op _ _ _ _ _ (by kernel_rfl)
end Go.Proofs.YtjmajjfknmjifaaDoor.Oct
