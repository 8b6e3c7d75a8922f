/- What the calls that make new lists of bytes answer: Part, Zeros, Bytes, With of the reference; Slice and Patch of the program. -/
import Derived.Test.YtpdcnaijhiogdaaLow
import Derived.Test.YtpdcnaijhiogdaaApp
import Derived.Test.YtpdcnaijhiogdaaWr
namespace Go.Proofs.Ytpdcnaijhiogdaa.Oct
open Go.RowKit



/-- A number's first bytes, the lowest first. -/
def bytesOf (v : Int) : Nat → List Int
  | 0 => []
  | k + 1 => bytesOf v k ++ [v / 256 ^ k % 256]

theorem bytesOf_length (v : Int) : ∀ k, (bytesOf v k).length = k
  | 0 => rfl
  | k + 1 => by simp [bytesOf, bytesOf_length v k]

theorem Byts.one (x : Int) (hx : 0 ≤ x ∧ x < 256) : Byts [x] := by
  intro k
  match k with
  | 0 => simpa using hx
  | k + 1 => simp

theorem Byts.bytesOf (v : Int) : ∀ k, Byts (bytesOf v k)
  | 0 => by intro k; simp [Oct.bytesOf]
  | k + 1 => (Byts.bytesOf v k).append (Byts.one _ (by omega))

theorem lies_one (w : World) (x : Int) : Lies (w.alloc (.cells #[.int .u8 x] 5)) (some ⟨w.heap.size, 0, none⟩) [x] := by
  refine Lies.mk fun k hk => ?_
  have : k = 0 := by simpa using hk
  subst this
  simp

theorem div_step (v : Int) (k : Nat) : v / 256 ^ k / 256 = v / 256 ^ (k + 1) := by
  rw [Int.pow_succ, Int.ediv_ediv_of_nonneg (by exact Int.le_of_lt (Int.pow_pos (by omega)))]

set_option maxHeartbeats 1000000 in
theorem Bytes_any (v : Int) (n : Nat) (w : World) (hn : n ≤ 8) (hv0 : 0 ≤ v) (hv : v < 18446744073709551616) :
    Calls Try.prog 12 #[.int .u64 v, .int .i64 n] w fun e w' => ∃ r, e = .returned r ∧ Own w' w.heap.size r (bytesOf v n) ∧ Below w.heap.size w w' := by
  go_enter Try.func12, Try.ntmps12
  go_wp2
  go_loopw [0, 5, 6] (fun x r i wr => ∃ k : Nat, k ≤ n ∧ i = .int .i64 k ∧ x = .int .u64 (v / 256 ^ k) ∧ Own wr w.heap.size r (bytesOf v k) ∧ Below w.heap.size w wr) (fun _ _ i _ => n - (intOf i).toNat)
  case atStart => exact ⟨0, by omega, rfl, by simp, Own.nil _ _, Below.refl _ _⟩
  case round =>
    obtain ⟨k, hk, rfl, rfl, ho, hbel⟩ := hrel
    by_cases hlt : k < n
    · have hy0 : 0 ≤ v / 256 ^ k := Int.ediv_nonneg hv0 (Int.le_of_lt (Int.pow_pos (by omega)))
      have hy1 : v / 256 ^ k < 18446744073709551616 := Int.lt_of_le_of_lt (Int.ediv_le_self _ hv0) hv
      have HS : Hid (v / 256 ^ k / 256 = v / 256 ^ (k + 1)) := div_step v k
      have HK : Hid (bytesOf v (k + 1) = bytesOf v k ++ [v / 256 ^ k % 256]) := rfl
      have hbl := bytesOf_length v k
      have HBL := hide hbl
      clear hbl
      generalize v / 256 ^ k = y at *
      go_wp2_with (at_builtin; refine wpList_append_bytes rfl _ _ 40 rfl Try.underlying40 info5 w.heap.size _ (bytesOf v k) rfl (by exact ho.alloc _) _ _ _ [y % 256] rfl rfl (by exact lies_one _ _) (by rw [HBL.out]; simp; omega) (by have := hbel.size; simp; omega) ?_; intro v' w1 ho' hg')
      go_roundw
      case rel =>
        refine ⟨k + 1, by omega, by go_num, by rw [HS.out], ?_, Own.behind (ho.alloc _) (hbel.alloc hbel.size _) hg' (by have := hbel.size; simp; omega)⟩
        rw [HK.out]
        exact ho'
      case measure => simp [intOf]; omega
    · have hk4 : k = n := by omega
      subst hk4
      go_wp2
      go_ret
      exact ⟨_, rfl, ho, hbel⟩



end Go.Proofs.Ytpdcnaijhiogdaa.Oct
