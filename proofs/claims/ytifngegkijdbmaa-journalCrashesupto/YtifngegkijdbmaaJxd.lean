/- A case's file. -/
import Derived.Test.YtifngegkijdbmaaJxc
namespace Go.Proofs.Ytifngegkijdbmaa.Oct
open Go.RowKit Go.Deep Go.WideShapes Go.ChangeShapes Go.ChangeAt

/-- A case, as it came in. -/
structure CaseV where
  s0 : Int
  fa : Option Addr
  fc : Nat
  fl : List Int
  s2 : Int
  s3 : Int
  ra : Option Addr
  rc : Nat
  R : List JR

def CaseV.cells (x : CaseV) : Array Value := #[.int .i64 x.s0, .slice x.fa x.fl.length x.fc, .int .i64 x.s2, .int .i64 x.s3, .slice x.ra x.R.length x.rc]

theorem mod_nat (x : Int) (m : Nat) (hm : 0 < m) (hm2 : m ≤ 1000) : ∃ n : Nat, n < m ∧ (IntKind.u64.wrap x).tmod (m : Int) = n ∧ IntKind.i64.wrap ((IntKind.u64.wrap x).tmod (m : Int)) = n ∧ wrap64 ((IntKind.u64.wrap x).tmod (m : Int)) = n := by
  have h0 : 0 ≤ IntKind.u64.wrap x := by rw [IntKind.wrap_u64]; omega
  have e : (IntKind.u64.wrap x).tmod (m : Int) = (IntKind.u64.wrap x) % (m : Int) := Int.tmod_eq_emod_of_nonneg h0
  have h1 : 0 ≤ (IntKind.u64.wrap x) % (m : Int) := Int.emod_nonneg _ (by omega)
  have h2 : (IntKind.u64.wrap x) % (m : Int) < m := Int.emod_lt_of_pos _ (by omega)
  rw [e]
  generalize (IntKind.u64.wrap x) % (m : Int) = y at *
  refine ⟨y.toNat, by omega, by omega, ?_, ?_⟩
  · rw [IntKind.wrap_i64]; omega
  · unfold wrap64; omega


/-- The numbers of a case, in the forms in which the walk of file meets them. -/
theorem file_nums (s0 s2 s3 : Int) : ∃ n0 n3 n2 : Nat, n0 < 40 ∧ n3 < n0 + 6 ∧ n2 < n0 + 6 - n3 + 1 ∧
    (IntKind.u64.wrap s0).tmod 40 = (n0 : Int) ∧ IntKind.u64.wrap (8 + (n0 : Int) - 2) = 8 + (n0 : Int) - 2 ∧ (IntKind.u64.wrap s3).tmod (8 + (n0 : Int) - 2) = (n3 : Int) ∧
    IntKind.u64.wrap (8 + (n0 : Int) - (2 + (n3 : Int)) + 1) = 8 + (n0 : Int) - (2 + (n3 : Int)) + 1 ∧ (IntKind.u64.wrap s2).tmod (8 + (n0 : Int) - (2 + (n3 : Int)) + 1) = (n2 : Int) ∧
    ¬ (8 + (n0 : Int) - 2 = 0) ∧ ¬ (8 + (n0 : Int) - (2 + (n3 : Int)) + 1 = 0) := by
  obtain ⟨n0, hn0, m1, _, _⟩ := mod_nat s0 40 (by omega) (by omega)
  obtain ⟨n3, hn3, k1, _, _⟩ := mod_nat s3 (n0 + 6) (by omega) (by omega)
  obtain ⟨n2, hn2, j1, _, _⟩ := mod_nat s2 (n0 + 6 - n3 + 1) (by omega) (by omega)
  refine ⟨n0, n3, n2, hn0, hn3, hn2, m1, by rw [IntKind.wrap_u64]; omega, ?_, by rw [IntKind.wrap_u64]; omega, ?_, by omega, by omega⟩
  · rw [← k1]; congr 1; omega
  · rw [← j1]; congr 1; omega
end Go.Proofs.Ytifngegkijdbmaa.Oct
