/- A row is the same as itself; an inode's kind. -/
import Derived.Test.YtjmajjfknmjifaaDoorEyp
import Derived.Laws.StructEq
namespace Go.Proofs.YtjmajjfknmjifaaDoor.Oct
open Go.RowKit

theorem eqf_Rw (w : World) (r : Rw) : (Op.equalIn 10000 41 (.agg r.cs) (.agg r.cs)).run Tryd.prog w = .ok true w := by
  obtain ⟨x0, x1, x2, x3, x4, x5⟩ := r
  unfold Rw.cs
  rw [run_equalIn_agg w 9999 41 _ _ (by kernel_rfl) (by kernel_rfl)]
  have hf : (Tryd.prog.fieldsOf 41).toList.map (fun f => (f.name, f.type, f.offset)) = [("Blocks", 2, 0), ("Inodes", 2, 1), ("Table", 2, 2), ("FreeBlocks", 2, 3), ("FreeInodes", 2, 4), ("Folders", 2, 5)] := by kernel_rfl
  obtain ⟨fs, hfs⟩ : ∃ fs, fs = (Tryd.prog.fieldsOf 41).toList := ⟨_, rfl⟩
  rw [← hfs] at hf ⊢
  clear hfs
  have hl : fs.length = 6 := by simpa using congrArg List.length hf
  obtain ⟨f, g, h, i, j, k, rfl⟩ : ∃ f g h i j k, fs = [f, g, h, i, j, k] := by match fs, hl with | [f, g, h, i, j, k], _ => exact ⟨f, g, h, i, j, k, rfl⟩
  simp only [List.map_cons, List.map_nil, List.cons.injEq, Prod.mk.injEq, and_true] at hf
  obtain ⟨⟨f1, f2, f3⟩, ⟨g1, g2, g3⟩, ⟨h1, h2, h3⟩, ⟨i1, i2, i3⟩, ⟨j1, j2, j3⟩, k1, k2, k3⟩ := hf
  have p0 : (part 2 #[.int .i64 x0, .int .i64 x1, .int .i64 x2, .int .i64 x3, .int .i64 x4, .int .i64 x5] 0).run Tryd.prog w = .ok (.int .i64 x0) w := by go_simp
  have p1 : (part 2 #[.int .i64 x0, .int .i64 x1, .int .i64 x2, .int .i64 x3, .int .i64 x4, .int .i64 x5] 1).run Tryd.prog w = .ok (.int .i64 x1) w := by go_simp
  have p2 : (part 2 #[.int .i64 x0, .int .i64 x1, .int .i64 x2, .int .i64 x3, .int .i64 x4, .int .i64 x5] 2).run Tryd.prog w = .ok (.int .i64 x2) w := by go_simp
  have p3 : (part 2 #[.int .i64 x0, .int .i64 x1, .int .i64 x2, .int .i64 x3, .int .i64 x4, .int .i64 x5] 3).run Tryd.prog w = .ok (.int .i64 x3) w := by go_simp
  have p4 : (part 2 #[.int .i64 x0, .int .i64 x1, .int .i64 x2, .int .i64 x3, .int .i64 x4, .int .i64 x5] 4).run Tryd.prog w = .ok (.int .i64 x4) w := by go_simp
  have p5 : (part 2 #[.int .i64 x0, .int .i64 x1, .int .i64 x2, .int .i64 x3, .int .i64 x4, .int .i64 x5] 5).run Tryd.prog w = .ok (.int .i64 x5) w := by go_simp
  simp only [Op.eqFields, f1, f2, f3, g1, g2, g3, h1, h2, h3, i1, i2, i3, j1, j2, j3, k1, k2, k3, Sem.run_bind, Sem.run_ite]
  simp [p0, p1, p2, p3, p4, p5, run_equalIn_int, Tryd.underlying2, Result.andThen]

theorem eql_Rw (w : World) (r : Rw) : (binOp .eql 41 (.agg r.cs) (.agg r.cs)).run Tryd.prog w = .ok (.bool true) w := by
  rw [run_eql_struct, eqf_Rw]
  rfl
theorem neq_Rw (w : World) (r : Rw) : (binOp .neq 41 (.agg r.cs) (.agg r.cs)).run Tryd.prog w = .ok (.bool false) w := by
  rw [run_neq_struct, eqf_Rw]
  rfl
theorem guard_Rw (w : World) (op : BinOp) (p q : Operand) (xs ys : Array Value) : (eqGuard op 41 p q (.agg xs) (.agg ys)).run Tryd.prog w = .ok () w := run_eqGuard_agg w op _ _ _ _ _ (by kernel_rfl)

theorem and_kind (x : Nat) (h : x < 65536) : x &&& 61440 = x / 4096 * 4096 := by
  apply Nat.eq_of_testBit_eq
  intro i
  rw [Nat.testBit_and, show (x / 4096 * 4096) = 2 ^ 12 * (x / 2 ^ 12) by omega, show 61440 = 2 ^ 12 * (2 ^ 4 - 1) by rfl, Nat.testBit_two_pow_mul, Nat.testBit_two_pow_mul, Nat.testBit_two_pow_sub_one, Nat.testBit_div_two_pow]
  by_cases h12 : 12 ≤ i
  · simp [h12]
    intro hx
    refine Decidable.byContradiction fun hn => ?_
    have h16 : 16 ≤ i := by omega
    have hb := Nat.ge_two_pow_of_testBit hx
    have : 2 ^ 16 ≤ 2 ^ i := Nat.pow_le_pow_right (by omega) h16
    omega
  · simp [h12]

theorem kind_bits (x : Int) (h0 : 0 ≤ x) (h1 : x < 65536) : bits .and .i64 x 61440 = x / 4096 * 4096 := by
  obtain ⟨n, rfl⟩ := Int.eq_ofNat_of_zero_le h0
  have h := and_kind n (by omega)
  have h61 : (BitVec.ofInt 64 61440).toNat = 61440 := by decide
  have hn : (BitVec.ofInt 64 (n : Int)).toNat = n := by rw [BitVec.toNat_ofInt]; omega
  show IntKind.i64.wrap ((BitVec.ofInt 64 (n : Int) &&& BitVec.ofInt 64 61440).toNat : Nat) = _
  rw [BitVec.toNat_and, h61, hn, h, IntKind.wrap_i64]
  omega

set_option maxHeartbeats 1000000 in
/-- Kind: the number's upper part. -/
theorem kind_any (w : World) (cs : Array Value) (mo : Int) (h0 : cs[0]? = some (.int .i64 mo)) (hm : 0 ≤ mo ∧ mo < 65536) :
    Calls Tryd.prog 23 #[.agg cs] w fun e w' => e = .returned (.int .i64 (mo / 4096 * 4096)) ∧ Below w.heap.size w w' := by
  have hb1 : Below w.heap.size w (w.alloc (.cells cs 47)) := (Below.refl w.heap.size w).alloc (Nat.le_refl _) _
  have hc := (Blk.new w cs 47).cell 0 _ h0
  have hk := kind_bits mo hm.1 hm.2
  have HB := hide hb1
  clear hb1 h0
  go_enter Tryd.func23, Tryd.ntmps23
  go_wp2_with fail
  go_ret
  exact ⟨rfl, HB.out⟩
end Go.Proofs.YtjmajjfknmjifaaDoor.Oct
