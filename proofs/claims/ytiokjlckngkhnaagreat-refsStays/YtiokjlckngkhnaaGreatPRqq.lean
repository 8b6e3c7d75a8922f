/- An operation on both: the counts, and the document's row. -/
import Derived.Test.YtiokjlckngkhnaaGreatPRqp
namespace Go.Proofs.YtiokjlckngkhnaaGreat.Oct
open Go.RowKit Go.Deep

/-- An operation lies in a block. -/
def BxO (u : World) (P : Nat) (c n v : Int) : Prop := u.heap[P]? = some (.cells #[.int .i64 c, .int .i64 n, .int .i64 v] 41 (0, 0))
theorem BxO.cell {u : World} {P : Nat} {c n v : Int} (h : BxO u P c n v) : u.cell? ⟨P, 0, none⟩ = some (.int .i64 c) ∧ u.cell? ⟨P, 1, none⟩ = some (.int .i64 n) ∧ u.cell? ⟨P, 2, none⟩ = some (.int .i64 v) := by
  unfold BxO at h
  simp [World.cell?, h]

theorem BxO.set {u : World} {P R i : Nat} {c n v : Int} {x : Value} (h : BxO u P c n v) (hne : P ≠ R) : BxO (u.setCell ⟨R, i, none⟩ x) P c n v := by
  unfold BxO at *
  rw [← h]
  exact Below.heap_setCell _ _ _ _ hne

theorem belowN {n : Nat} {w w' : World} (hb : Below n w w') (k : Nat) : Below n w (w'.drewN k) := ⟨hb.os, hb.tape, hb.output, hb.size, hb.block⟩

theorem RInv.lts {K : Nat → Option Obj} {w0 w : World} {T J F A Rm H : Nat} {X : Nat → Prop} {S Ct m : List Int} {k : Nat} (h : RInv K w0 w T J F A Rm H X S Ct m k) (hp : PlcR w0.heap.size T J F A Rm X) (hH : 0 < H) : w.heap.size ≠ T ∧ ¬ X w.heap.size ∧ w.heap.size ≠ Rm := by
  have hc := lt_of_cell (h.cell 0 hH)
  obtain ⟨f, vb, vm, B, M, h1, _⟩ := h
  have := h1.tx.lt
  have := h1.jr.lt
  exact ⟨by omega, fun e => by have := (hp.x _ e).2; omega, by omega⟩

set_option maxRecDepth 100000 in
set_option maxHeartbeats 8000000 in
theorem play_get {K : Nat → Option Obj} {w0 w : World} {T J F A Rm H : Nat} {X : Nat → Prop} {S m : List Int} {k : Nat} (h : RInv K w0 w T J F A Rm H X S m m k) (hp : PlcR w0.heap.size T J F A Rm X) (hS : S.length ≤ 4194304) (hk : k < 1000) (hH0 : 40 ≤ H) (hH : H < 100) (n v : Int) :
    Calls Tryz.prog 10 #[.pointer (some ⟨A, 0, none⟩), .slice (some ⟨Rm, 0, none⟩) H H, .int .i64 33, .agg #[.int .i64 1, .int .i64 n, .int .i64 v]] w fun e w' => e = .returned (.bool true) ∧ ∃ m', RInv K w0 w' T J F A Rm H X S m' m' (k + 1) := by
  obtain ⟨hPT, hPX, hPR⟩ := h.lts hp (by omega)
  have HX : Hid (BxO (w.alloc (.cells #[.int .i64 1, .int .i64 n, .int .i64 v] 41)) w.heap.size 1 n v) := hide (heap_new9 w _)
  have HI := hide (h.below ((Below.refl _ _).alloc (Nat.le_refl _) (.cells #[.int .i64 1, .int .i64 n, .int .i64 v] 41)))
  have HP := hide hp
  have HS := hide hS
  have HPX := hide hPX
  clear h hp hS hPX
  by_cases hn0 : n < 0
  · have hn1 : ¬ 0 ≤ n := by omega
    go_enter Tryz.func10, Tryz.ntmps10
    go_wp2_with fail
    generalize w.alloc (.cells #[.int .i64 1, .int .i64 n, .int .i64 v] 41) = w1 at *
    refine (rinv_get_no HI.out n (by omega)).mono ?_
    rintro e9 w2 ⟨rfl, hi2, _⟩
    have HI2 := hide (hi2.more (show k ≤ k + 1 by omega))
    clear hi2
    go_wp2_with fail
    go_ret
    exact ⟨rfl, m, HI2.out⟩
  by_cases hn1 : (H : Int) ≤ n
  · have hn2 : ¬ n < H := by omega
    go_enter Tryz.func10, Tryz.ntmps10
    go_wp2_with fail
    generalize w.alloc (.cells #[.int .i64 1, .int .i64 n, .int .i64 v] 41) = w1 at *
    refine (rinv_get_no HI.out n (by omega)).mono ?_
    rintro e9 w2 ⟨rfl, hi2, _⟩
    have HI2 := hide (hi2.more (show k ≤ k + 1 by omega))
    clear hi2
    go_wp2_with fail
    go_ret
    exact ⟨rfl, m, HI2.out⟩
  obtain ⟨i, rfl⟩ := Int.eq_ofNat_of_zero_le (show 0 ≤ n by omega)
  have hi : i < H := by omega
  have hd : decide ((i : Int) < H) = true := by simp; omega
  clear hn0 hn1
  go_enter Tryz.func10, Tryz.ntmps10
  go_wp2_with fail
  generalize w.alloc (.cells #[.int .i64 1, .int .i64 i, .int .i64 v] 41) = w1 at *
  refine (rinv_get HI.out HP.out HS.out hk hH i hi).mono ?_
  rintro e9 w2 ⟨rfl, hi2, hk2⟩
  have HI2 := hide hi2
  obtain ⟨x0, x1, x2⟩ := BxO.cell (hk2 _ _ _ HX.out hPT HPX.out)
  have cc := hi2.cell i hi
  clear hi2 hk2
  generalize m.getD i 0 = z at *
  have hzz : (z == z) = true := by simp
  go_wp2_with fail
  go_ret
  exact ⟨rfl, m, HI2.out⟩

set_option maxRecDepth 100000 in
set_option maxHeartbeats 8000000 in
theorem play_set {K : Nat → Option Obj} {w0 w : World} {T J F A Rm H : Nat} {X : Nat → Prop} {S m : List Int} {k : Nat} (h : RInv K w0 w T J F A Rm H X S m m k) (hp : PlcR w0.heap.size T J F A Rm X) (hS : S.length ≤ 4194304) (_ : k < 1000) (hH0 : 40 ≤ H) (hH : H < 100) (n v : Int) :
    Calls Tryz.prog 10 #[.pointer (some ⟨A, 0, none⟩), .slice (some ⟨Rm, 0, none⟩) H H, .int .i64 33, .agg #[.int .i64 2, .int .i64 n, .int .i64 v]] w fun e w' => e = .returned (.bool true) ∧ ∃ m', RInv K w0 w' T J F A Rm H X S m' m' (k + 1) := by
  obtain ⟨hPT, hPX, hPR⟩ := h.lts hp (by omega)
  have HX : Hid (BxO (w.alloc (.cells #[.int .i64 2, .int .i64 n, .int .i64 v] 41)) w.heap.size 2 n v) := hide (heap_new9 w _)
  have HI := hide (h.below ((Below.refl _ _).alloc (Nat.le_refl _) (.cells #[.int .i64 2, .int .i64 n, .int .i64 v] 41)))
  have HP := hide hp
  have HS := hide hS
  have HPX := hide hPX
  clear h hp hS hPX
  by_cases hn0 : n < 0
  · have hn1 : ¬ 0 ≤ n := by omega
    go_enter Tryz.func10, Tryz.ntmps10
    go_wp2_with fail
    generalize w.alloc (.cells #[.int .i64 2, .int .i64 n, .int .i64 v] 41) = w1 at *
    refine (rinv_set_no HI.out n v (by omega)).mono ?_
    rintro e9 w2 ⟨rfl, hi2, hk2⟩
    have HI2 := hide (hi2.more (show k ≤ k + 1 by omega))
    obtain ⟨x0, x1, x2⟩ := BxO.cell (hk2 _ _ _ HX.out hPT HPX.out)
    clear hi2 hk2
    go_wp2_with fail
    go_ret
    exact ⟨rfl, m, HI2.out⟩
  by_cases hn1 : (H : Int) ≤ n
  · have hn2 : ¬ n < H := by omega
    go_enter Tryz.func10, Tryz.ntmps10
    go_wp2_with fail
    generalize w.alloc (.cells #[.int .i64 2, .int .i64 n, .int .i64 v] 41) = w1 at *
    refine (rinv_set_no HI.out n v (by omega)).mono ?_
    rintro e9 w2 ⟨rfl, hi2, hk2⟩
    have HI2 := hide (hi2.more (show k ≤ k + 1 by omega))
    obtain ⟨x0, x1, x2⟩ := BxO.cell (hk2 _ _ _ HX.out hPT HPX.out)
    clear hi2 hk2
    go_wp2_with fail
    go_ret
    exact ⟨rfl, m, HI2.out⟩
  obtain ⟨i, rfl⟩ := Int.eq_ofNat_of_zero_le (show 0 ≤ n by omega)
  have hi : i < H := by omega
  have hd : decide ((i : Int) < H) = true := by simp; omega
  clear hn0 hn1
  by_cases hv0 : v < 0
  · have hv1 : ¬ 0 ≤ v := by omega
    go_enter Tryz.func10, Tryz.ntmps10
    go_wp2_with fail
    generalize w.alloc (.cells #[.int .i64 2, .int .i64 i, .int .i64 v] 41) = w1 at *
    refine (rinv_set_big HI.out i v (by omega) (by omega)).mono ?_
    rintro e9 w2 ⟨rfl, hi2, hk2⟩
    have HI2 := hide (hi2.more (show k ≤ k + 1 by omega))
    obtain ⟨x0, x1, x2⟩ := BxO.cell (hk2 _ _ _ HX.out hPT HPX.out)
    clear hi2 hk2
    go_wp2_with fail
    go_ret
    exact ⟨rfl, m, HI2.out⟩
  by_cases hv1 : 65535 < v
  · have hv2 : decide (v ≤ 65535) = false := by simp; omega
    have hv3 : 0 ≤ v := by omega
    go_enter Tryz.func10, Tryz.ntmps10
    go_wp2_with fail
    generalize w.alloc (.cells #[.int .i64 2, .int .i64 i, .int .i64 v] 41) = w1 at *
    refine (rinv_set_big HI.out i v (by omega) (by omega)).mono ?_
    rintro e9 w2 ⟨rfl, hi2, hk2⟩
    have HI2 := hide (hi2.more (show k ≤ k + 1 by omega))
    obtain ⟨x0, x1, x2⟩ := BxO.cell (hk2 _ _ _ HX.out hPT HPX.out)
    clear hi2 hk2
    go_wp2_with fail
    go_ret
    exact ⟨rfl, m, HI2.out⟩
  have hv2 : 0 ≤ v := by omega
  have hv3 : v ≤ 65535 := by omega
  clear hv0 hv1
  go_enter Tryz.func10, Tryz.ntmps10
  go_wp2_with fail
  generalize w.alloc (.cells #[.int .i64 2, .int .i64 i, .int .i64 v] 41) = w1 at *
  refine (rinv_set HI.out HP.out hH i hi v (by omega)).mono ?_
  rintro e9 w2 ⟨rfl, hi2, hk2⟩
  have HI2 := hide hi2
  obtain ⟨x0, x1, x2⟩ := BxO.cell (hk2 _ _ _ HX.out hPT HPX.out)
  have cc := hi2.cell i hi
  have ff := hi2.free i
  have HR := hide (hi2.row HP.out i v)
  clear hi2 hk2
  generalize m.getD i 0 = z at *
  go_wp2_with fail
  go_ret
  exact ⟨rfl, m.set i v, HR.out⟩

set_option maxRecDepth 100000 in
set_option maxHeartbeats 8000000 in
theorem play_add {K : Nat → Option Obj} {w0 w : World} {T J F A Rm H : Nat} {X : Nat → Prop} {S m : List Int} {k : Nat} (h : RInv K w0 w T J F A Rm H X S m m k) (hp : PlcR w0.heap.size T J F A Rm X) (hS : S.length ≤ 4194304) (hk : k < 1000) (hH0 : 40 ≤ H) (hH : H < 100) (n v : Int) :
    Calls Tryz.prog 10 #[.pointer (some ⟨A, 0, none⟩), .slice (some ⟨Rm, 0, none⟩) H H, .int .i64 33, .agg #[.int .i64 3, .int .i64 n, .int .i64 v]] w fun e w' => e = .returned (.bool true) ∧ ∃ m', RInv K w0 w' T J F A Rm H X S m' m' (k + 1) := by
  obtain ⟨hPT, hPX, hPR⟩ := h.lts hp (by omega)
  have HX : Hid (BxO (w.alloc (.cells #[.int .i64 3, .int .i64 n, .int .i64 v] 41)) w.heap.size 3 n v) := hide (heap_new9 w _)
  have HI := hide (h.below ((Below.refl _ _).alloc (Nat.le_refl _) (.cells #[.int .i64 3, .int .i64 n, .int .i64 v] 41)))
  have HP := hide hp
  have HS := hide hS
  have HPX := hide hPX
  clear h hp hS hPX
  by_cases hn0 : n < 0
  · have hn1 : ¬ 0 ≤ n := by omega
    go_enter Tryz.func10, Tryz.ntmps10
    go_wp2_with fail
    generalize w.alloc (.cells #[.int .i64 3, .int .i64 n, .int .i64 v] 41) = w1 at *
    refine (rinv_add_no HI.out n v (by omega)).mono ?_
    rintro e9 w2 ⟨rfl, hi2, hk2⟩
    have HI2 := hide (hi2.more (show k ≤ k + 1 by omega))
    obtain ⟨x0, x1, x2⟩ := BxO.cell (hk2 _ _ _ HX.out hPT HPX.out)
    clear hi2 hk2
    go_wp2_with fail
    go_ret
    exact ⟨rfl, m, HI2.out⟩
  by_cases hn1 : (H : Int) ≤ n
  · have hn2 : ¬ n < H := by omega
    go_enter Tryz.func10, Tryz.ntmps10
    go_wp2_with fail
    generalize w.alloc (.cells #[.int .i64 3, .int .i64 n, .int .i64 v] 41) = w1 at *
    refine (rinv_add_no HI.out n v (by omega)).mono ?_
    rintro e9 w2 ⟨rfl, hi2, hk2⟩
    have HI2 := hide (hi2.more (show k ≤ k + 1 by omega))
    obtain ⟨x0, x1, x2⟩ := BxO.cell (hk2 _ _ _ HX.out hPT HPX.out)
    clear hi2 hk2
    go_wp2_with fail
    go_ret
    exact ⟨rfl, m, HI2.out⟩
  obtain ⟨i, rfl⟩ := Int.eq_ofNat_of_zero_le (show 0 ≤ n by omega)
  have hi : i < H := by omega
  have hd : decide ((i : Int) < H) = true := by simp; omega
  clear hn0 hn1
  obtain ⟨z, hz⟩ : ∃ z, m.getD i 0 = z := ⟨_, rfl⟩
  have hzb := HI.out.bd i
  rw [hz] at hzb
  have HZ := hide hz
  have hwn : IntKind.i64.wrap (-z) = -z := by rw [IntKind.wrap_i64]; omega
  have hws : IntKind.i64.wrap (65535 - z) = 65535 - z := by rw [IntKind.wrap_i64]; omega
  clear hz
  go_enter Tryz.func10, Tryz.ntmps10
  go_wp2_with fail
  generalize w.alloc (.cells #[.int .i64 3, .int .i64 i, .int .i64 v] 41) = w1 at *
  refine (rinv_add HI.out HP.out HS.out hk hH i hi v z HZ.out).mono ?_
  rintro e9 w2 (⟨hl, rfl, hi2, hk2⟩ | ⟨hl, rfl, hi2, hk2⟩ | ⟨hl, hl2, rfl, hi2, hk2⟩)
  · have HI2 := hide hi2
    obtain ⟨x0, x1, x2⟩ := BxO.cell (hk2 _ _ _ HX.out hPT HPX.out)
    have cc := hi2.cell i hi
    rw [HZ.out] at cc
    have hd1 : decide (v < -z) = true := by simp; omega
    clear hi2 hk2
    go_wp2_with fail
    go_quiet (fail)
    go_wp2_with fail
    go_ret
    exact ⟨rfl, m, HI2.out.below (belowN (Below.refl _ _) _)⟩
  · have HI2 := hide hi2
    obtain ⟨x0, x1, x2⟩ := BxO.cell (hk2 _ _ _ HX.out hPT HPX.out)
    have cc := hi2.cell i hi
    rw [HZ.out] at cc
    have hd1 : decide (v < -z) = false := by simp; omega
    have hd2 : decide (65535 - z < v) = true := by simp; omega
    clear hi2 hk2
    go_wp2_with fail
    go_quiet (fail)
    go_wp2_with fail
    go_quiet (fail)
    go_wp2_with fail
    go_ret
    exact ⟨rfl, m, HI2.out.below (belowN (Below.refl _ _) _)⟩
  · have HI2 := hide hi2
    obtain ⟨x0, x1, x2⟩ := BxO.cell (hk2 _ _ _ HX.out hPT HPX.out)
    have cc := hi2.cell i hi
    rw [HZ.out] at cc
    have hd1 : decide (v < -z) = false := by simp; omega
    have hd2 : decide (65535 - z < v) = false := by simp; omega
    have ff := hi2.free i
    clear hi2 hk2
    go_wp2_with fail
    go_quiet (fail)
    go_wp2_with fail
    go_quiet (fail)
    go_wp2_with fail
    have hwa : IntKind.i64.wrap (z + v) = z + v := by rw [IntKind.wrap_i64]; omega
    have HI2n := fun q => hide (HI2.out.below (belowN (Below.refl _ _) q))
    have HRq := fun q => hide ((HI2n q).out.row HP.out i (z + v))
    have hss : (z + v == z + v) = true := by simp
    go_region
    go_wp2_with fail
    go_ret
    exact ⟨rfl, m.set i (z + v), (HRq _).out⟩

theorem loR_none (c : Nat → Int) : ∀ k, loR c k = -1 → ∀ q, 33 ≤ q → q < k → c q ≠ 0
  | 0, _, q, _, h => by omega
  | k + 1, h, q, h1, h2 => by
    rw [loR] at h
    split at h
    · omega
    · rename_i hn
      by_cases he : q = k
      · subst he
        exact fun e => hn ⟨e, h1, h⟩
      · exact loR_none c k h q h1 (by omega)

theorem loR_least (c : Nat → Int) (n : Nat) : ∀ k, loR c k = n → c n = 0 ∧ ∀ q, 33 ≤ q → q < n → c q ≠ 0
  | 0, h => by rw [loR] at h; omega
  | k + 1, h => by
    rw [loR] at h
    split at h
    · rename_i hn
      have e : k = n := by omega
      subst e
      exact ⟨hn.1, loR_none c k hn.2.2⟩
    · exact loR_least c n k h

set_option maxRecDepth 100000 in
set_option maxHeartbeats 8000000 in
theorem play_alloc {K : Nat → Option Obj} {w0 w : World} {T J F A Rm H : Nat} {X : Nat → Prop} {S m : List Int} {k : Nat} (h : RInv K w0 w T J F A Rm H X S m m k) (hp : PlcR w0.heap.size T J F A Rm X) (hS : S.length ≤ 4194304) (hk : k < 1000) (hH0 : 40 ≤ H) (hH : H < 100) (n v : Int) :
    Calls Tryz.prog 10 #[.pointer (some ⟨A, 0, none⟩), .slice (some ⟨Rm, 0, none⟩) H H, .int .i64 33, .agg #[.int .i64 4, .int .i64 n, .int .i64 v]] w fun e w' => e = .returned (.bool true) ∧ ∃ m', RInv K w0 w' T J F A Rm H X S m' m' (k + 1) := by
  obtain ⟨hPT, hPX, hPR⟩ := h.lts hp (by omega)
  have HX : Hid (BxO (w.alloc (.cells #[.int .i64 4, .int .i64 n, .int .i64 v] 41)) w.heap.size 4 n v) := hide (heap_new9 w _)
  have HI := hide (h.below ((Below.refl _ _).alloc (Nat.le_refl _) (.cells #[.int .i64 4, .int .i64 n, .int .i64 v] 41)))
  have HP := hide hp
  have HS := hide hS
  have HPX := hide hPX
  clear h hp hS hPX
  go_enter Tryz.func10, Tryz.ntmps10
  by_cases hn0 : n < 0
  · have hn1 : ¬ 0 ≤ n := by omega
    go_wp2_with fail
    generalize w.alloc (.cells #[.int .i64 4, .int .i64 n, .int .i64 v] 41) = w1 at *
    refine (rinv_alloc HI.out HP.out HS.out hk hH0 hH).mono ?_
    rintro e9 w2 (⟨hl, rfl, hi2, hk2⟩ | ⟨a, hl, h33, haH, ha0, rfl, hi2, hk2⟩)
    · have HI2 := hide hi2
      have HNo := hide (loR_none _ H hl)
      clear hi2 hk2 hl
      go_wp2_with fail
      go_loopw [18] (fun i wr => ∃ (j : Nat), 33 ≤ j ∧ j ≤ H ∧ i = .int .i64 (j : Int) ∧ wr = w2) (fun i _ => H - (intOf i).toNat)
      case atStart => exact ⟨33, by omega, by omega, rfl, rfl⟩
      case round =>
        obtain ⟨j, hj33, hjH, rfl, hwr⟩ := hrel
        subst hwr
        by_cases hlt : j < H
        · have cc := HI2.out.cell j hlt
          have hz := HNo.out j hj33 hlt
          obtain ⟨z, hzz⟩ : ∃ z, m.getD j 0 = z := ⟨_, rfl⟩
          rw [hzz] at cc hz
          have hz2 : (z == 0) = false := by simp [hz]
          clear hzz
          go_wp2_with fail
          exact ⟨⟨j + 1, by omega, by omega, by congr 1 <;> omega, (by first | rfl | trivial)⟩, by simp [intOf]; omega⟩
        · obtain rfl : j = H := by omega
          go_wp2_with fail
          go_ret
          exact ⟨rfl, m, HI2.out⟩
    · have HI2 := hide hi2
      have HLe := hide (loR_least _ a H hl).2
      have HA0 := hide ha0
      clear hi2 hk2 hl ha0
      go_wp2_with fail
      go_loopw [18] (fun i wr => ∃ (j : Nat), 33 ≤ j ∧ j ≤ a ∧ i = .int .i64 (j : Int) ∧ wr = w2) (fun i _ => H - (intOf i).toNat)
      case atStart => exact ⟨33, by omega, by omega, rfl, rfl⟩
      case round =>
        obtain ⟨j, hj33, hja, rfl, hwr⟩ := hrel
        subst hwr
        have hjH : j < H := by omega
        have cc := HI2.out.cell j hjH
        by_cases hlt : j < a
        · have hz := HLe.out j hj33 hlt
          obtain ⟨z, hzz⟩ : ∃ z, m.getD j 0 = z := ⟨_, rfl⟩
          rw [hzz] at cc hz
          have hz2 : (z == 0) = false := by simp [hz]
          clear hzz
          go_wp2_with fail
          exact ⟨⟨j + 1, by omega, by omega, by congr 1 <;> omega, (by first | rfl | trivial)⟩, by simp [intOf]; omega⟩
        · obtain rfl : j = a := by omega
          rw [HA0.out] at cc
          have ff := HI2.out.free j
          have HR := hide (HI2.out.row HP.out j 1)
          go_wp2_with fail
          go_ret
          exact ⟨rfl, m.set j 1, HR.out⟩
  by_cases hn1 : (H : Int) ≤ n
  · have hn2 : ¬ n < H := by omega
    go_wp2_with fail
    generalize w.alloc (.cells #[.int .i64 4, .int .i64 n, .int .i64 v] 41) = w1 at *
    refine (rinv_alloc HI.out HP.out HS.out hk hH0 hH).mono ?_
    rintro e9 w2 (⟨hl, rfl, hi2, hk2⟩ | ⟨a, hl, h33, haH, ha0, rfl, hi2, hk2⟩)
    · have HI2 := hide hi2
      have HNo := hide (loR_none _ H hl)
      clear hi2 hk2 hl
      go_wp2_with fail
      go_loopw [18] (fun i wr => ∃ (j : Nat), 33 ≤ j ∧ j ≤ H ∧ i = .int .i64 (j : Int) ∧ wr = w2) (fun i _ => H - (intOf i).toNat)
      case atStart => exact ⟨33, by omega, by omega, rfl, rfl⟩
      case round =>
        obtain ⟨j, hj33, hjH, rfl, hwr⟩ := hrel
        subst hwr
        by_cases hlt : j < H
        · have cc := HI2.out.cell j hlt
          have hz := HNo.out j hj33 hlt
          obtain ⟨z, hzz⟩ : ∃ z, m.getD j 0 = z := ⟨_, rfl⟩
          rw [hzz] at cc hz
          have hz2 : (z == 0) = false := by simp [hz]
          clear hzz
          go_wp2_with fail
          exact ⟨⟨j + 1, by omega, by omega, by congr 1 <;> omega, (by first | rfl | trivial)⟩, by simp [intOf]; omega⟩
        · obtain rfl : j = H := by omega
          go_wp2_with fail
          go_ret
          exact ⟨rfl, m, HI2.out⟩
    · have HI2 := hide hi2
      have HLe := hide (loR_least _ a H hl).2
      have HA0 := hide ha0
      clear hi2 hk2 hl ha0
      go_wp2_with fail
      go_loopw [18] (fun i wr => ∃ (j : Nat), 33 ≤ j ∧ j ≤ a ∧ i = .int .i64 (j : Int) ∧ wr = w2) (fun i _ => H - (intOf i).toNat)
      case atStart => exact ⟨33, by omega, by omega, rfl, rfl⟩
      case round =>
        obtain ⟨j, hj33, hja, rfl, hwr⟩ := hrel
        subst hwr
        have hjH : j < H := by omega
        have cc := HI2.out.cell j hjH
        by_cases hlt : j < a
        · have hz := HLe.out j hj33 hlt
          obtain ⟨z, hzz⟩ : ∃ z, m.getD j 0 = z := ⟨_, rfl⟩
          rw [hzz] at cc hz
          have hz2 : (z == 0) = false := by simp [hz]
          clear hzz
          go_wp2_with fail
          exact ⟨⟨j + 1, by omega, by omega, by congr 1 <;> omega, (by first | rfl | trivial)⟩, by simp [intOf]; omega⟩
        · obtain rfl : j = a := by omega
          rw [HA0.out] at cc
          have ff := HI2.out.free j
          have HR := hide (HI2.out.row HP.out j 1)
          go_wp2_with fail
          go_ret
          exact ⟨rfl, m.set j 1, HR.out⟩
  have hn2 : 0 ≤ n := by omega
  have hn3 : decide (n < (H : Int)) = true := by simp; omega
  go_wp2_with fail
  generalize w.alloc (.cells #[.int .i64 4, .int .i64 n, .int .i64 v] 41) = w1 at *
  refine (rinv_alloc HI.out HP.out HS.out hk hH0 hH).mono ?_
  rintro e9 w2 (⟨hl, rfl, hi2, hk2⟩ | ⟨a, hl, h33, haH, ha0, rfl, hi2, hk2⟩)
  · have HI2 := hide hi2
    have HNo := hide (loR_none _ H hl)
    clear hi2 hk2 hl
    go_wp2_with fail
    go_loopw [18] (fun i wr => ∃ (j : Nat), 33 ≤ j ∧ j ≤ H ∧ i = .int .i64 (j : Int) ∧ wr = w2) (fun i _ => H - (intOf i).toNat)
    case atStart => exact ⟨33, by omega, by omega, rfl, rfl⟩
    case round =>
      obtain ⟨j, hj33, hjH, rfl, hwr⟩ := hrel
      subst hwr
      by_cases hlt : j < H
      · have cc := HI2.out.cell j hlt
        have hz := HNo.out j hj33 hlt
        obtain ⟨z, hzz⟩ : ∃ z, m.getD j 0 = z := ⟨_, rfl⟩
        rw [hzz] at cc hz
        have hz2 : (z == 0) = false := by simp [hz]
        clear hzz
        go_wp2_with fail
        exact ⟨⟨j + 1, by omega, by omega, by congr 1 <;> omega, (by first | rfl | trivial)⟩, by simp [intOf]; omega⟩
      · obtain rfl : j = H := by omega
        go_wp2_with fail
        go_ret
        exact ⟨rfl, m, HI2.out⟩
  · have HI2 := hide hi2
    have HLe := hide (loR_least _ a H hl).2
    have HA0 := hide ha0
    clear hi2 hk2 hl ha0
    go_wp2_with fail
    go_loopw [18] (fun i wr => ∃ (j : Nat), 33 ≤ j ∧ j ≤ a ∧ i = .int .i64 (j : Int) ∧ wr = w2) (fun i _ => H - (intOf i).toNat)
    case atStart => exact ⟨33, by omega, by omega, rfl, rfl⟩
    case round =>
      obtain ⟨j, hj33, hja, rfl, hwr⟩ := hrel
      subst hwr
      have hjH : j < H := by omega
      have cc := HI2.out.cell j hjH
      by_cases hlt : j < a
      · have hz := HLe.out j hj33 hlt
        obtain ⟨z, hzz⟩ : ∃ z, m.getD j 0 = z := ⟨_, rfl⟩
        rw [hzz] at cc hz
        have hz2 : (z == 0) = false := by simp [hz]
        clear hzz
        go_wp2_with fail
        exact ⟨⟨j + 1, by omega, by omega, by congr 1 <;> omega, (by first | rfl | trivial)⟩, by simp [intOf]; omega⟩
      · obtain rfl : j = a := by omega
        rw [HA0.out] at cc
        have ff := HI2.out.free j
        have HR := hide (HI2.out.row HP.out j 1)
        go_wp2_with fail
        go_ret
        exact ⟨rfl, m.set j 1, HR.out⟩

set_option maxRecDepth 100000 in
set_option maxHeartbeats 8000000 in
theorem play_any {K : Nat → Option Obj} {w0 w : World} {T J F A Rm H : Nat} {X : Nat → Prop} {S m : List Int} {k : Nat} (h : RInv K w0 w T J F A Rm H X S m m k) (hp : PlcR w0.heap.size T J F A Rm X) (hS : S.length ≤ 4194304) (hk : k < 1000) (hH0 : 40 ≤ H) (hH : H < 100) (c n v : Int) :
    Calls Tryz.prog 10 #[.pointer (some ⟨A, 0, none⟩), .slice (some ⟨Rm, 0, none⟩) H H, .int .i64 33, .agg #[.int .i64 c, .int .i64 n, .int .i64 v]] w fun e w' => e = .returned (.bool true) ∧ ∃ m', RInv K w0 w' T J F A Rm H X S m' m' (k + 1) := by
  by_cases h1 : c = 1
  · subst h1; exact play_get h hp hS hk hH0 hH n v
  by_cases h2 : c = 2
  · subst h2; exact play_set h hp hS hk hH0 hH n v
  by_cases h3 : c = 3
  · subst h3; exact play_add h hp hS hk hH0 hH n v
  by_cases h4 : c = 4
  · subst h4; exact play_alloc h hp hS hk hH0 hH n v
  have HI := hide ((h.below ((Below.refl _ _).alloc (Nat.le_refl _) (.cells #[.int .i64 c, .int .i64 n, .int .i64 v] 41))).more (show k ≤ k + 1 by omega))
  have e1 : (c == 1) = false := by simp [h1]
  have e2 : (c == 2) = false := by simp [h2]
  have e3 : (c == 3) = false := by simp [h3]
  have e4 : (c == 4) = false := by simp [h4]
  clear h hp hS
  by_cases hn0 : n < 0
  · have hn1 : ¬ 0 ≤ n := by omega
    go_enter Tryz.func10, Tryz.ntmps10
    go_wp2_with fail
    go_ret
    exact ⟨rfl, m, HI.out⟩
  · have hn1 : 0 ≤ n := by omega
    go_enter Tryz.func10, Tryz.ntmps10
    go_wp2_with fail
    go_ret
    exact ⟨rfl, m, HI.out⟩
end Go.Proofs.YtiokjlckngkhnaaGreat.Oct
