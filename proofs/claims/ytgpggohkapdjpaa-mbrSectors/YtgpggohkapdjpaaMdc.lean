/- Disks that are none, or too many rows; no disk; which sector tells of a slot. -/
import Derived.Test.YtgpggohkapdjpaaMbs
import Derived.Test.YtgpggohkapdjpaaMda
namespace Go.Proofs.Ytgpggohkapdjpaa.Oct
open Go.RowKit

set_option maxHeartbeats 1000000 in
set_option maxRecDepth 100000 in
theorem disk_many (w : World) (sec : Int) (p : Option Addr) (cap n : Nat) (h : 40 < n) :
    Calls Try.prog 16 #[.int .i64 sec, .slice p n cap] w fun e w' => e = .returned (.tuple #[.slice none 0 0, .bool false]) ∧ w' = w := by
  have hd : (40 : Int) < (n : Int) := by omega
  go_enter Try.func16, Try.ntmps16
  go_wp2_with fail
  go_ret2
  exact ⟨rfl, rfl⟩

set_option maxHeartbeats 1000000 in
set_option maxRecDepth 100000 in
theorem disk_zero (w : World) (sec : Int) (p : Option Addr) (cap n : Nat) (h : n ≤ 40) (hz : sec % p64 % 200 = 0) :
    Calls Try.prog 16 #[.int .i64 sec, .slice p n cap] w fun e w' => ∃ a c, e = .returned (.tuple #[.slice a 0 c, .bool true]) ∧ Own w' w.heap.size (.slice a 0 c) [] ∧ Below w.heap.size w w' := by
  have hd : ¬ (40 : Int) < (n : Int) := by omega
  have HZ := hide (Zeros_any 0 w (by omega))
  have hz0 : ((0 : Nat) : Int) = 0 := rfl
  rw [hz0] at HZ
  obtain ⟨U, hU⟩ : ∃ U, U = sec % p64 := ⟨_, rfl⟩
  have hU0 : 0 ≤ U ∧ U < 18446744073709551616 := by rw [hU]; unfold p64; omega
  have hwU : IntKind.u64.wrap sec = U := by rw [IntKind.wrap_u64, hU]; rfl
  rw [← hU] at hz
  have hrt : U.tmod 200 = 0 := by rw [Int.tmod_eq_emod_of_nonneg hU0.1]; exact hz
  clear hU hz0
  go_enter Try.func16, Try.ntmps16
  go_wp2_with fail
  refine HZ.out.mono ?_
  rintro e9 w1 ⟨v1, rfl, ho1, hb1⟩
  obtain ⟨a1, c1, hv1, _⟩ := ho1.form
  subst hv1
  have HO1 := hide ho1
  have HB1 := hide hb1
  clear ho1 hb1 HZ
  have hl0 : (List.replicate 0 (0 : Int)).length = 0 := rfl
  rw [hl0] at HO1 ⊢
  clear hl0
  go_wp2_with fail
  go_loopw [7, 8] (fun v i wr => v = .slice a1 0 c1 ∧ i = .int .i64 0 ∧ wr = w1) (fun _ _ _ => 0)
  case atStart => exact ⟨rfl, rfl, rfl⟩
  case round =>
    obtain ⟨rfl, rfl, rfl⟩ := hrel
    by_cases h0 : (0 : Int) < (n : Int)
    · go_wp2_with fail
      go_ret2
      exact ⟨a1, c1, rfl, HO1.out, HB1.out⟩
    · go_wp2_with fail
      go_ret2
      exact ⟨a1, c1, rfl, HO1.out, HB1.out⟩

set_option maxHeartbeats 1000000 in
set_option maxRecDepth 100000 in
theorem tsector_first (w : World) (aP : Option Addr) (nP cP : Nat) (aH : Option Addr) (H : List (Int × Int)) (cH : Nat) (i1 i2 : Int) (g : Bool) (slot : Int) (h : 0 ≤ slot ∧ slot < 4) :
    Calls Try.prog 18 #[.agg #[.slice aP nP cP, .slice aH H.length cH, .int .i64 i1, .int .i64 i2, .bool g], .int .i64 slot] w fun e w' => e = .returned (.tuple #[.int .i64 0, .int .i64 slot, .int .i64 0]) ∧ Below w.heap.size w w' := by
  obtain ⟨h1, h2⟩ := h
  have HB := hide ((Below.refl w.heap.size w).alloc (Nat.le_refl _) (.cells #[.slice aP nP cP, .slice aH H.length cH, .int .i64 i1, .int .i64 i2, .bool g] 51))
  go_enter Try.func18, Try.ntmps18
  go_wp2_with fail
  go_ret3
  exact ⟨rfl, HB.out⟩

set_option maxHeartbeats 1000000 in
set_option maxRecDepth 100000 in
theorem tsector_none (w : World) (aP : Option Addr) (nP cP : Nat) (aH : Option Addr) (H : List (Int × Int)) (cH : Nat) (i1 i2 : Int) (g : Bool) (slot : Int) (hs : slot ≤ 9223372036854775807) (h : slot < 0 ∨ (4 ≤ slot ∧ 3 + (H.length : Int) ≤ slot)) :
    Calls Try.prog 18 #[.agg #[.slice aP nP cP, .slice aH H.length cH, .int .i64 i1, .int .i64 i2, .bool g], .int .i64 slot] w fun e w' => e = .returned (.tuple #[.int .i64 0, .int .i64 0, .int .i64 22]) ∧ Below w.heap.size w w' := by
  have HB := hide ((Below.refl w.heap.size w).alloc (Nat.le_refl _) (.cells #[.slice aP nP cP, .slice aH H.length cH, .int .i64 i1, .int .i64 i2, .bool g] 51))
  rcases h with h | ⟨h1, h2⟩
  · generalize H.length = k at *
    have h' : ¬ (0 : Int) ≤ slot := by omega
    go_enter Try.func18, Try.ntmps18
    go_wp2_with fail
    go_ret3
    exact ⟨rfl, HB.out⟩
  · generalize H.length = k at *
    have h0 : (0 : Int) ≤ slot := by omega
    have h4 : ¬ slot < 4 := by omega
    have hw1 : IntKind.i64.wrap (slot - 4) = slot - 4 := by rw [IntKind.wrap_i64]; omega
    have hw2 : IntKind.i64.wrap (slot - 4 + 1) = slot - 4 + 1 := by rw [IntKind.wrap_i64]; omega
    have h5 : ¬ slot < 0 := by omega
    have h6 : (k : Int) ≤ slot - 4 + 1 := by omega
    go_enter Try.func18, Try.ntmps18
    go_wp2_with fail
    go_ret3
    exact ⟨rfl, HB.out⟩

set_option maxHeartbeats 1000000 in
set_option maxRecDepth 100000 in
theorem tsector_chain (w : World) (aP : Option Addr) (nP cP : Nat) (aH : Option Addr) (H : List (Int × Int)) (cH : Nat) (i1 i2 : Int) (g : Bool) (i s : Nat) (hl : LiesE w aH H) (hi : 1 ≤ i) (hiH : i < H.length) (hs : (H.getD i (0, 0)).1 = 512 * (s : Int)) (hs2 : s ≤ 1000000000) (hH : H.length ≤ 100) :
    Calls Try.prog 18 #[.agg #[.slice aP nP cP, .slice aH H.length cH, .int .i64 i1, .int .i64 i2, .bool g], .int .i64 ((i : Int) + 3)] w fun e w' => e = .returned (.tuple #[.int .i64 s, .int .i64 0, .int .i64 0]) ∧ Below w.heap.size w w' := by
  have hb := (Below.refl w.heap.size w).alloc (Nat.le_refl _) (.cells #[.slice aP nP cP, .slice aH H.length cH, .int .i64 i1, .int .i64 i2, .bool g] 51)
  rcases hl.below hb with hE | ⟨b, o, rfl, hlt, hc⟩
  · rw [hE] at hiH; simp at hiH
  have c0 := (hc i hiH).1
  rw [hs] at c0
  have HB := hide hb
  have hd : (512 * (s : Int)).tdiv 512 = s := Int.mul_tdiv_cancel_left _ (by omega)
  have hws : IntKind.i64.wrap (s : Int) = s := by rw [IntKind.wrap_i64]; omega
  clear hb hc hs hl
  generalize H.length = k at *
  have h0 : (0 : Int) ≤ (i : Int) + 3 := by omega
  have h4 : ¬ (i : Int) + 3 < 4 := by omega
  have hw1 : IntKind.i64.wrap ((i : Int) + 3 - 4) = (i : Int) - 1 := by rw [IntKind.wrap_i64]; omega
  have hw2 : IntKind.i64.wrap ((i : Int) - 1 + 1) = (i : Int) := by rw [IntKind.wrap_i64]; omega
  have h5 : ¬ (i : Int) + 3 < 0 := by omega
  have h6 : ¬ (k : Int) ≤ (i : Int) := by omega
  have h7 : (i : Int) < (k : Int) := by omega
  go_enter Try.func18, Try.ntmps18
  go_wp2_with fail
  go_ret3
  exact ⟨rfl, HB.out⟩

set_option maxHeartbeats 1000000 in
set_option maxRecDepth 100000 in
theorem parse_nil (w : World) : Calls Try.prog 17 #[.nilIface] w fun e w' => e = .returned (.tuple #[.agg #[.slice none 0 0, .slice none 0 0, .int .i64 0, .int .i64 0, .bool false], .int .i64 2]) ∧ Below w.heap.size w w' := by
  have hb := (Below.refl w.heap.size w).alloc (Nat.le_refl _) (.cells #[.slice none 0 0, .slice none 0 0, .int .i64 0, .int .i64 0, .bool false] 51)
  have hq := Blk.new w #[.slice none 0 0, .slice none 0 0, .int .i64 0, .int .i64 0, .bool false] 51
  have hnil : ∀ (u : World), (binOp .eql 73 .nilIface .nilIface).run Try.prog u = .ok (.bool true) u := fun u => by rfl
  have f0 := hq.frozen 0
  have f1 := hq.frozen 1
  have f2 := hq.frozen 2
  have f3 := hq.frozen 3
  have f4 := hq.frozen 4
  have HQ := hide hq
  have HB := hide hb
  clear hq hb
  go_enter Try.func17, Try.ntmps17
  go_wp2_with fail
  refine bodyPost_ret (ret_agg rfl _ _ w.heap.size #[.slice none 0 0, .slice none 0 0, .int .i64 0, .int .i64 0, .bool false] _ rfl rfl (run_loadVar_row _ w.heap.size 51 51 _ (0, 0) _ HQ.out Try.underlying51 rfl (by kernel_rfl))) rfl ?_
  exact ⟨rfl, HB.out⟩
end Go.Proofs.Ytgpggohkapdjpaa.Oct
