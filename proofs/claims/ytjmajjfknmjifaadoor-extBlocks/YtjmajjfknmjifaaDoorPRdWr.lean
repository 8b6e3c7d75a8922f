/- What the calls that write numbers into bytes do, at all places: contracts of the program's functions write and Put16, Put32, Put64. -/
import Derived.Test.YtjmajjfknmjifaaDoorChecked
import Derived.Test.YtjmajjfknmjifaaDoorPNumMem
import Derived.WalkKit
namespace Go.Proofs.YtjmajjfknmjifaaDoor.Oct
open Go.RowKit

/-- Are n bytes there at a place? -/
def thereB (len : Nat) (p n : Int) : Bool := decide (0 ≤ p ∧ 0 ≤ n ∧ n ≤ len - p)

theorem thereB_yes {len : Nat} {p n : Int} (h0 : 0 ≤ p) (h1 : 0 ≤ n) (h2 : n ≤ len - p) : thereB len p n = true := by simp [thereB, h0, h1, h2]
theorem thereB_no {len : Nat} {p n : Int} (h : ¬ (0 ≤ p ∧ 0 ≤ n ∧ n ≤ len - p)) : thereB len p n = false := by simpa [thereB] using h

set_option maxHeartbeats 400000 in
theorem there_any (a : Option Addr) (len cap : Nat) (p n : Int) (w : World) (hlen : len ≤ maxLen) (hp : p ≤ 9223372036854775807) (hp2 : -9223372036854775808 ≤ p) :
    Calls Tryd.prog 67 #[.slice a len cap, .int .i64 p, .int .i64 n] w fun e w' => e = .returned (.bool (thereB len p n)) ∧ w' = w := by
  unfold maxLen at hlen
  by_cases h0 : 0 ≤ p
  · by_cases h1 : 0 ≤ n
    · by_cases h2 : n ≤ len - p
      · rw [thereB_yes h0 h1 h2]
        go_enter Tryd.func67, Tryd.ntmps67
        go_wp2
        go_ret
        exact ⟨by simp, rfl⟩
      · rw [thereB_no (by omega)]
        go_enter Tryd.func67, Tryd.ntmps67
        go_wp2
        go_ret
        exact ⟨by simp, rfl⟩
    · rw [thereB_no (by omega)]
      go_enter Tryd.func67, Tryd.ntmps67
      go_wp2
      go_ret
      exact ⟨by simp, rfl⟩
  · rw [thereB_no (by omega)]
    go_enter Tryd.func67, Tryd.ntmps67
    go_wp2
    go_ret
    exact ⟨by simp, rfl⟩

theorem there_yes (a : Option Addr) (len cap : Nat) (p n : Int) (w : World) (hlen : len ≤ maxLen) (h0 : 0 ≤ p) (h1 : 0 ≤ n) (h2 : n ≤ len - p) :
    Calls Tryd.prog 67 #[.slice a len cap, .int .i64 p, .int .i64 n] w fun e w' => e = .returned (.bool true) ∧ w' = w := by
  have := there_any a len cap p n w hlen (by unfold maxLen at hlen; omega) (by omega)
  rwa [thereB_yes h0 h1 h2] at this

theorem there_no (a : Option Addr) (len cap : Nat) (p n : Int) (w : World) (hlen : len ≤ maxLen) (hp : p ≤ 9223372036854775807) (hp2 : -9223372036854775808 ≤ p) (h : ¬ (0 ≤ p ∧ 0 ≤ n ∧ n ≤ len - p)) :
    Calls Tryd.prog 67 #[.slice a len cap, .int .i64 p, .int .i64 n] w fun e w' => e = .returned (.bool false) ∧ w' = w := by
  have := there_any a len cap p n w hlen hp hp2
  rwa [thereB_no h] at this

/-- The number of n bytes at a place; 0, where they aren't there. -/
def numAt (l : List Int) (p : Int) (n : Nat) : Int := if thereB l.length p n then num l p.toNat n else 0

theorem numAt_yes {l : List Int} {p : Nat} {n : Nat} (h : p + n ≤ l.length) : numAt l p n = num l p n := by
  rw [numAt, if_pos (thereB_yes (by omega) (by omega) (by omega)), Int.toNat_natCast]

set_option maxHeartbeats 400000 in
theorem read16_yes (b off cap : Nat) (l : List Int) (p : Nat) (w : World) (hlen : l.length ≤ maxLen) (hp : p + 2 ≤ l.length) (hb : Byts l)
    (hc : ∀ k, k < l.length → w.cell? ⟨b, off + k, none⟩ = some (.int .u8 (l.getD k 0))) :
    Calls Tryd.prog 80 #[.slice (some ⟨b, off, none⟩) l.length cap, .int .i64 p, .int .i64 2] w fun e w' => e = .returned (.tuple #[.int .u16 (num l p 2), .bool true]) ∧ w' = w := by
  unfold maxLen at hlen
  go_enter Tryd.func80, Tryd.ntmps80
  go_wp2_with (go_at_call 67; refine (there_yes _ _ _ _ _ _ (by unfold maxLen; omega) (by omega) (by omega) (by omega)).mono ?_; rintro e w' ⟨rfl, rfl⟩)
  go_loop [8, 16] (fun v i => ∃ k : Nat, k ≤ 2 ∧ i = .int .i64 k ∧ v = .int .u16 (num l p k)) (fun _ i => 2 - (intOf i).toNat)
  case atStart => exact ⟨0, by omega, rfl, rfl⟩
  case round =>
    obtain ⟨k, hk, rfl, rfl⟩ := hrel
    by_cases hlt : k < 2
    · have hcell := hc (p + k) (by omega)
      have HS : Hid (bits .or .u16 (num l p k) (l.getD (p + k) 0 % 2 ^ 16 * 2 ^ (8 * k) % 2 ^ 16) = num l p (k + 1)) :=
        or_step16 _ _ k hlt (num_lt l p hb k) (hb (p + k))
      clear hc hb
      go_wp2
      go_round
      case rel =>
        refine ⟨k + 1, by omega, by go_num, ?_⟩
        have := HS.out
        simp only [List.getD_eq_getElem?_getD] at this
        rw [← this]
        rfl
      case measure => simp [intOf]; omega
    · have hk4 : k = 2 := by omega
      subst hk4
      go_wp2
      go_ret2
      exact ⟨rfl, rfl⟩

set_option maxHeartbeats 400000 in
theorem read16_no (a : Option Addr) (len cap : Nat) (p : Int) (w : World) (hlen : len ≤ maxLen) (hp : p ≤ 9223372036854775807) (hp2 : -9223372036854775808 ≤ p) (h : ¬ (0 ≤ p ∧ (0 : Int) ≤ 2 ∧ 2 ≤ len - p)) :
    Calls Tryd.prog 80 #[.slice a len cap, .int .i64 p, .int .i64 2] w fun e w' => e = .returned (.tuple #[.int .u16 0, .bool false]) ∧ w' = w := by
  have hno := fun w => there_no a len cap p 2 w hlen hp hp2 h
  go_enter Tryd.func80, Tryd.ntmps80
  go_wp2_with (go_at_call 67; refine (hno _).mono ?_; rintro e w' ⟨rfl, rfl⟩)
  go_ret2
  exact ⟨rfl, rfl⟩

/-- U16 at all places of all bytes. -/
theorem U16_any (a : Option Addr) (cap : Nat) (l : List Int) (p : Int) (w : World) (hlen : l.length ≤ maxLen) (hb : Byts l) (hl : Lies w a l) (hp : p ≤ 9223372036854775807) (hp2 : -9223372036854775808 ≤ p) :
    Calls Tryd.prog 60 #[.slice a l.length cap, .int .i64 p] w fun e w' => e = .returned (.tuple #[.int .u16 (numAt l p 2), .bool (thereB l.length p 2)]) ∧ w' = w := by
  by_cases h : 0 ≤ p ∧ (0 : Int) ≤ 2 ∧ 2 ≤ l.length - p
  · obtain ⟨p, rfl⟩ := Int.eq_ofNat_of_zero_le h.1
    rcases hl with rfl | ⟨b, off, rfl, _, hc⟩
    · simp at h
      omega
    have hy := fun w => read16_yes b off cap l p w hlen (by omega) hb
    rw [thereB_yes h.1 h.2.1 h.2.2, numAt_yes (by omega)]
    have hc' : Hid (∀ k, k < l.length → w.cell? ⟨b, off + k, none⟩ = some (.int .u8 (l.getD k 0))) := hc
    clear hc
    go_enter Tryd.func60, Tryd.ntmps60
    go_wp2_with (go_at_call 80; refine (hy _ hc'.out).mono ?_; rintro e w' ⟨rfl, rfl⟩)
    go_ret2
    exact ⟨rfl, rfl⟩
  · have hn := fun w => read16_no a l.length cap p w hlen hp hp2 h
    have e : numAt l p 2 = 0 := by rw [numAt, if_neg]; rw [show ((2 : Nat) : Int) = 2 from rfl, thereB_no h]; simp
    rw [thereB_no h, e]
    go_enter Tryd.func60, Tryd.ntmps60
    go_wp2_with (go_at_call 80; refine (hn _).mono ?_; rintro e w' ⟨rfl, rfl⟩)
    go_ret2
    exact ⟨rfl, rfl⟩
set_option maxHeartbeats 400000 in
theorem read32_yes (b off cap : Nat) (l : List Int) (p : Nat) (w : World) (hlen : l.length ≤ maxLen) (hp : p + 4 ≤ l.length) (hb : Byts l)
    (hc : ∀ k, k < l.length → w.cell? ⟨b, off + k, none⟩ = some (.int .u8 (l.getD k 0))) :
    Calls Tryd.prog 61 #[.slice (some ⟨b, off, none⟩) l.length cap, .int .i64 p, .int .i64 4] w fun e w' => e = .returned (.tuple #[.int .u32 (num l p 4), .bool true]) ∧ w' = w := by
  unfold maxLen at hlen
  go_enter Tryd.func61, Tryd.ntmps61
  go_wp2_with (go_at_call 67; refine (there_yes _ _ _ _ _ _ (by unfold maxLen; omega) (by omega) (by omega) (by omega)).mono ?_; rintro e w' ⟨rfl, rfl⟩)
  go_loop [8, 16] (fun v i => ∃ k : Nat, k ≤ 4 ∧ i = .int .i64 k ∧ v = .int .u32 (num l p k)) (fun _ i => 4 - (intOf i).toNat)
  case atStart => exact ⟨0, by omega, rfl, rfl⟩
  case round =>
    obtain ⟨k, hk, rfl, rfl⟩ := hrel
    by_cases hlt : k < 4
    · have hcell := hc (p + k) (by omega)
      have HS : Hid (bits .or .u32 (num l p k) (l.getD (p + k) 0 % 2 ^ 32 * 2 ^ (8 * k) % 2 ^ 32) = num l p (k + 1)) :=
        or_step32 _ _ k hlt (num_lt l p hb k) (hb (p + k))
      clear hc hb
      go_wp2
      go_round
      case rel =>
        refine ⟨k + 1, by omega, by go_num, ?_⟩
        have := HS.out
        simp only [List.getD_eq_getElem?_getD] at this
        rw [← this]
        rfl
      case measure => simp [intOf]; omega
    · have hk4 : k = 4 := by omega
      subst hk4
      go_wp2
      go_ret2
      exact ⟨rfl, rfl⟩

set_option maxHeartbeats 400000 in
theorem read32_no (a : Option Addr) (len cap : Nat) (p : Int) (w : World) (hlen : len ≤ maxLen) (hp : p ≤ 9223372036854775807) (hp2 : -9223372036854775808 ≤ p) (h : ¬ (0 ≤ p ∧ (0 : Int) ≤ 4 ∧ 4 ≤ len - p)) :
    Calls Tryd.prog 61 #[.slice a len cap, .int .i64 p, .int .i64 4] w fun e w' => e = .returned (.tuple #[.int .u32 0, .bool false]) ∧ w' = w := by
  have hno := fun w => there_no a len cap p 4 w hlen hp hp2 h
  go_enter Tryd.func61, Tryd.ntmps61
  go_wp2_with (go_at_call 67; refine (hno _).mono ?_; rintro e w' ⟨rfl, rfl⟩)
  go_ret2
  exact ⟨rfl, rfl⟩

/-- U32 at all places of all bytes. -/
theorem U32_any (a : Option Addr) (cap : Nat) (l : List Int) (p : Int) (w : World) (hlen : l.length ≤ maxLen) (hb : Byts l) (hl : Lies w a l) (hp : p ≤ 9223372036854775807) (hp2 : -9223372036854775808 ≤ p) :
    Calls Tryd.prog 34 #[.slice a l.length cap, .int .i64 p] w fun e w' => e = .returned (.tuple #[.int .u32 (numAt l p 4), .bool (thereB l.length p 4)]) ∧ w' = w := by
  by_cases h : 0 ≤ p ∧ (0 : Int) ≤ 4 ∧ 4 ≤ l.length - p
  · obtain ⟨p, rfl⟩ := Int.eq_ofNat_of_zero_le h.1
    rcases hl with rfl | ⟨b, off, rfl, _, hc⟩
    · simp at h
      omega
    have hy := fun w => read32_yes b off cap l p w hlen (by omega) hb
    rw [thereB_yes h.1 h.2.1 h.2.2, numAt_yes (by omega)]
    have hc' : Hid (∀ k, k < l.length → w.cell? ⟨b, off + k, none⟩ = some (.int .u8 (l.getD k 0))) := hc
    clear hc
    go_enter Tryd.func34, Tryd.ntmps34
    go_wp2_with (go_at_call 61; refine (hy _ hc'.out).mono ?_; rintro e w' ⟨rfl, rfl⟩)
    go_ret2
    exact ⟨rfl, rfl⟩
  · have hn := fun w => read32_no a l.length cap p w hlen hp hp2 h
    have e : numAt l p 4 = 0 := by rw [numAt, if_neg]; rw [show ((4 : Nat) : Int) = 4 from rfl, thereB_no h]; simp
    rw [thereB_no h, e]
    go_enter Tryd.func34, Tryd.ntmps34
    go_wp2_with (go_at_call 61; refine (hn _).mono ?_; rintro e w' ⟨rfl, rfl⟩)
    go_ret2
    exact ⟨rfl, rfl⟩
end Go.Proofs.YtjmajjfknmjifaaDoor.Oct

namespace Go.Proofs.YtjmajjfknmjifaaDoor.Oct
open Go.RowKit

/-- Bytes with the first k bytes of a number written from place p on. -/
def putN (l : List Int) (p : Nat) (v : Int) : Nat → List Int
  | 0 => l
  | k + 1 => (putN l p v k).set (p + k) (v / 2 ^ (8 * k) % 256)

theorem putN_length (l : List Int) (p : Nat) (v : Int) : ∀ k, (putN l p v k).length = l.length
  | 0 => rfl
  | k + 1 => by simp [putN, putN_length l p v k]

theorem Byts.set {l : List Int} (h : Byts l) (j : Nat) (x : Int) (hx : 0 ≤ x ∧ x < 256) : Byts (l.set j x) := by
  intro k
  rw [List.getD_eq_getElem?_getD, List.getElem?_set]
  split
  · split
    · simpa using hx
    · simp
  · have := h k; rwa [List.getD_eq_getElem?_getD] at this

theorem Byts.putN {l : List Int} (h : Byts l) (p : Nat) (v : Int) : ∀ k, Byts (putN l p v k)
  | 0 => h
  | k + 1 => (Byts.putN h p v k).set _ _ (by omega)

theorem getD_set (l : List Int) (j k : Nat) (x : Int) (hj : j < l.length) : (l.set j x).getD k 0 = if j = k then x else l.getD k 0 := by
  rw [List.getD_eq_getElem?_getD, List.getElem?_set]
  split
  · simp
  · rw [List.getD_eq_getElem?_getD]

theorem getD_putN (l : List Int) (p : Nat) (v : Int) (i : Nat) : ∀ n, p + n ≤ l.length → (putN l p v n).getD i 0 = if p ≤ i ∧ i < p + n then v / 2 ^ (8 * (i - p)) % 256 else l.getD i 0
  | 0, _ => by rw [if_neg (by omega)]; rfl
  | n + 1, h => by
    rw [putN, getD_set _ _ _ _ (by rw [putN_length]; omega), getD_putN l p v i n (by omega)]
    by_cases h1 : p + n = i
    · subst h1
      rw [if_pos rfl, if_pos (by omega), Nat.add_sub_cancel_left]
    · rw [if_neg h1]
      by_cases h2 : p ≤ i ∧ i < p + n
      · rw [if_pos h2, if_pos (by omega)]
      · rw [if_neg h2, if_neg (by omega)]

/-- The number of bytes that are those of x, is x (as far as they go). -/
theorem num_of (m : List Int) (q : Nat) (x : Int) : ∀ k, (∀ i, i < k → m.getD (q + i) 0 = x / 2 ^ (8 * i) % 256) → num m q k = x % 256 ^ k
  | 0, _ => by simp [num, Int.emod_one]
  | k + 1, h => by
    rw [num, num_of m q x k (fun i hi => h i (by omega)), h k (by omega)]
    have e1 : (2 : Int) ^ (8 * k) = 256 ^ k := by rw [Int.pow_mul]; rfl
    rw [e1, Int.pow_succ]
    have hp : (0 : Int) < 256 ^ k := Int.pow_pos (by omega)
    generalize (256 : Int) ^ k = y at *
    have h1 : x % (y * 256) = x % y + y * (x / y % 256) := by
      have a1 := Int.emod_add_mul_ediv x (y * 256)
      have a2 := Int.emod_add_mul_ediv x y
      have a3 := Int.emod_add_mul_ediv (x / y) 256
      have a4 : x / (y * 256) = x / y / 256 := (Int.ediv_ediv_of_nonneg (by omega)).symm
      rw [a4] at a1
      have a5 : y * 256 * (x / y / 256) = y * (256 * (x / y / 256)) := by rw [Int.mul_assoc]
      rw [a5] at a1
      have a6 : y * (x / y) = y * (x / y % 256) + y * (256 * (x / y / 256)) := by rw [← Int.mul_add, a3]
      omega
    rw [h1, Int.mul_comm y]

theorem Own.cell {w : World} {B g n cap : Nat} {l : List Int} (h : Own w B (.slice (some ⟨g, 0, none⟩) n cap) l) (hn : n = l.length) (j : Nat) (hj : j < n) :
    w.cell? ⟨g, j, none⟩ = some (.int .u8 (l.getD j 0)) := by
  subst hn
  have := h.lies j hj
  rwa [Nat.zero_add] at this

theorem Own.free {w : World} {B g n cap : Nat} {l : List Int} (h : Own w B (.slice (some ⟨g, 0, none⟩) n cap) l) (hn : n = l.length) (j : Nat) : w.frozen? ⟨g, j, none⟩ = false := by
  subst hn
  exact World.ownsRow.frozenAt h j

theorem Own.set {w : World} {B g n cap : Nat} {l : List Int} (h : Own w B (.slice (some ⟨g, 0, none⟩) n cap) l) (hn : n = l.length) (j : Nat) (x : Int) :
    Own (w.setCell ⟨g, j, none⟩ (.int .u8 x)) B (.slice (some ⟨g, 0, none⟩) n cap) (l.set j x) ∧ w.grownBy (w.setCell ⟨g, j, none⟩ (.int .u8 x)) (some g) := by
  subst hn
  have := h.stored j x
  rwa [List.length_set] at this

theorem grown_trans {a b c : World} {row : Option Nat} (h : a.grownBy b row) (k : b.grownBy c row) : a.grownBy c row :=
  ⟨k.os.trans h.os, k.tape.trans h.tape, k.output.trans h.output, Nat.le_trans h.size k.size, fun i hi hr => (k.block i (Nat.lt_of_lt_of_le hi h.size) hr).trans (h.block i hi hr)⟩

set_option maxHeartbeats 400000 in
theorem write16_yes (B g cap : Nat) (l : List Int) (p : Nat) (v : Int) (w : World) (hlen : l.length ≤ maxLen) (hp : p + 2 ≤ l.length)
    (hown : Own w B (.slice (some ⟨g, 0, none⟩) l.length cap) l) :
    Calls Tryd.prog 66 #[.slice (some ⟨g, 0, none⟩) l.length cap, .int .i64 p, .int .i64 2, .int .u16 v] w fun e w' =>
      e = .returned (.bool true) ∧ Own w' B (.slice (some ⟨g, 0, none⟩) l.length cap) (putN l p v 2) ∧ w.grownBy w' (some g) := by
  unfold maxLen at hlen
  go_enter Tryd.func66, Tryd.ntmps66
  go_wp2_with (go_at_call 67; refine (there_yes _ _ _ _ _ _ (by unfold maxLen; omega) (by omega) (by omega) (by omega)).mono ?_; rintro e w' ⟨rfl, rfl⟩)
  go_loopw [16] (fun i wr => ∃ k : Nat, k ≤ 2 ∧ i = .int .i64 k ∧ Own wr B (.slice (some ⟨g, 0, none⟩) l.length cap) (putN l p v k) ∧ w'.grownBy wr (some g)) (fun i _ => 2 - (intOf i).toNat)
  case atStart => exact ⟨0, by omega, rfl, hown, World.grownBy.refl _ _⟩
  case round =>
    obtain ⟨k, hk, rfl, ho, hg⟩ := hrel
    by_cases hlt : k < 2
    · have hcell := ho.cell (putN_length l p v k).symm (p + k) (by omega)
      have hfr := ho.free (putN_length l p v k).symm (p + k)
      go_wp2
      go_roundw
      case rel =>
        have hs := ho.set (putN_length l p v k).symm (p + k) (v / 2 ^ (8 * k) % 256)
        exact ⟨k + 1, by omega, by go_num, hs.1, grown_trans hg hs.2⟩
      case measure => simp [intOf]; omega
    · have hk4 : k = 2 := by omega
      subst hk4
      go_wp2
      go_ret
      exact ⟨rfl, ho, hg⟩

set_option maxHeartbeats 400000 in
theorem write16_no (a : Option Addr) (len cap : Nat) (p v : Int) (w : World) (hlen : len ≤ maxLen) (hp : p ≤ 9223372036854775807) (hp2 : -9223372036854775808 ≤ p) (h : ¬ (0 ≤ p ∧ (0 : Int) ≤ 2 ∧ 2 ≤ len - p)) :
    Calls Tryd.prog 66 #[.slice a len cap, .int .i64 p, .int .i64 2, .int .u16 v] w fun e w' => e = .returned (.bool false) ∧ w' = w := by
  have hno := fun w => there_no a len cap p 2 w hlen hp hp2 h
  go_enter Tryd.func66, Tryd.ntmps66
  go_wp2_with (go_at_call 67; refine (hno _).mono ?_; rintro e w' ⟨rfl, rfl⟩)
  go_ret
  exact ⟨rfl, rfl⟩

theorem Put16_yes (B g cap : Nat) (l : List Int) (p : Nat) (v : Int) (w : World) (hlen : l.length ≤ maxLen) (hp : p + 2 ≤ l.length)
    (hown : Own w B (.slice (some ⟨g, 0, none⟩) l.length cap) l) :
    Calls Tryd.prog 39 #[.slice (some ⟨g, 0, none⟩) l.length cap, .int .i64 p, .int .u16 v] w fun e w' =>
      e = .returned (.bool true) ∧ Own w' B (.slice (some ⟨g, 0, none⟩) l.length cap) (putN l p v 2) ∧ w.grownBy w' (some g) := by
  have hy := write16_yes B g cap l p v w hlen hp hown
  go_enter Tryd.func39, Tryd.ntmps39
  go_wp2_with (go_at_call 66; refine hy.mono ?_; rintro e w' ⟨rfl, ho, hg⟩)
  go_ret
  exact ⟨rfl, ho, hg⟩

theorem Put16_no (a : Option Addr) (len cap : Nat) (p v : Int) (w : World) (hlen : len ≤ maxLen) (hp : p ≤ 9223372036854775807) (hp2 : -9223372036854775808 ≤ p) (h : ¬ (0 ≤ p ∧ (0 : Int) ≤ 2 ∧ 2 ≤ len - p)) :
    Calls Tryd.prog 39 #[.slice a len cap, .int .i64 p, .int .u16 v] w fun e w' => e = .returned (.bool false) ∧ w' = w := by
  have hn := fun w => write16_no a len cap p v w hlen hp hp2 h
  go_enter Tryd.func39, Tryd.ntmps39
  go_wp2_with (go_at_call 66; refine (hn _).mono ?_; rintro e w' ⟨rfl, rfl⟩)
  go_ret
  exact ⟨rfl, rfl⟩
set_option maxHeartbeats 400000 in
theorem write32_yes (B g cap : Nat) (l : List Int) (p : Nat) (v : Int) (w : World) (hlen : l.length ≤ maxLen) (hp : p + 4 ≤ l.length)
    (hown : Own w B (.slice (some ⟨g, 0, none⟩) l.length cap) l) :
    Calls Tryd.prog 65 #[.slice (some ⟨g, 0, none⟩) l.length cap, .int .i64 p, .int .i64 4, .int .u32 v] w fun e w' =>
      e = .returned (.bool true) ∧ Own w' B (.slice (some ⟨g, 0, none⟩) l.length cap) (putN l p v 4) ∧ w.grownBy w' (some g) := by
  unfold maxLen at hlen
  go_enter Tryd.func65, Tryd.ntmps65
  go_wp2_with (go_at_call 67; refine (there_yes _ _ _ _ _ _ (by unfold maxLen; omega) (by omega) (by omega) (by omega)).mono ?_; rintro e w' ⟨rfl, rfl⟩)
  go_loopw [16] (fun i wr => ∃ k : Nat, k ≤ 4 ∧ i = .int .i64 k ∧ Own wr B (.slice (some ⟨g, 0, none⟩) l.length cap) (putN l p v k) ∧ w'.grownBy wr (some g)) (fun i _ => 4 - (intOf i).toNat)
  case atStart => exact ⟨0, by omega, rfl, hown, World.grownBy.refl _ _⟩
  case round =>
    obtain ⟨k, hk, rfl, ho, hg⟩ := hrel
    by_cases hlt : k < 4
    · have hcell := ho.cell (putN_length l p v k).symm (p + k) (by omega)
      have hfr := ho.free (putN_length l p v k).symm (p + k)
      go_wp2
      go_roundw
      case rel =>
        have hs := ho.set (putN_length l p v k).symm (p + k) (v / 2 ^ (8 * k) % 256)
        exact ⟨k + 1, by omega, by go_num, hs.1, grown_trans hg hs.2⟩
      case measure => simp [intOf]; omega
    · have hk4 : k = 4 := by omega
      subst hk4
      go_wp2
      go_ret
      exact ⟨rfl, ho, hg⟩

set_option maxHeartbeats 400000 in
theorem write32_no (a : Option Addr) (len cap : Nat) (p v : Int) (w : World) (hlen : len ≤ maxLen) (hp : p ≤ 9223372036854775807) (hp2 : -9223372036854775808 ≤ p) (h : ¬ (0 ≤ p ∧ (0 : Int) ≤ 4 ∧ 4 ≤ len - p)) :
    Calls Tryd.prog 65 #[.slice a len cap, .int .i64 p, .int .i64 4, .int .u32 v] w fun e w' => e = .returned (.bool false) ∧ w' = w := by
  have hno := fun w => there_no a len cap p 4 w hlen hp hp2 h
  go_enter Tryd.func65, Tryd.ntmps65
  go_wp2_with (go_at_call 67; refine (hno _).mono ?_; rintro e w' ⟨rfl, rfl⟩)
  go_ret
  exact ⟨rfl, rfl⟩

theorem Put32_yes (B g cap : Nat) (l : List Int) (p : Nat) (v : Int) (w : World) (hlen : l.length ≤ maxLen) (hp : p + 4 ≤ l.length)
    (hown : Own w B (.slice (some ⟨g, 0, none⟩) l.length cap) l) :
    Calls Tryd.prog 38 #[.slice (some ⟨g, 0, none⟩) l.length cap, .int .i64 p, .int .u32 v] w fun e w' =>
      e = .returned (.bool true) ∧ Own w' B (.slice (some ⟨g, 0, none⟩) l.length cap) (putN l p v 4) ∧ w.grownBy w' (some g) := by
  have hy := write32_yes B g cap l p v w hlen hp hown
  go_enter Tryd.func38, Tryd.ntmps38
  go_wp2_with (go_at_call 65; refine hy.mono ?_; rintro e w' ⟨rfl, ho, hg⟩)
  go_ret
  exact ⟨rfl, ho, hg⟩

theorem Put32_no (a : Option Addr) (len cap : Nat) (p v : Int) (w : World) (hlen : len ≤ maxLen) (hp : p ≤ 9223372036854775807) (hp2 : -9223372036854775808 ≤ p) (h : ¬ (0 ≤ p ∧ (0 : Int) ≤ 4 ∧ 4 ≤ len - p)) :
    Calls Tryd.prog 38 #[.slice a len cap, .int .i64 p, .int .u32 v] w fun e w' => e = .returned (.bool false) ∧ w' = w := by
  have hn := fun w => write32_no a len cap p v w hlen hp hp2 h
  go_enter Tryd.func38, Tryd.ntmps38
  go_wp2_with (go_at_call 65; refine (hn _).mono ?_; rintro e w' ⟨rfl, rfl⟩)
  go_ret
  exact ⟨rfl, rfl⟩
end Go.Proofs.YtjmajjfknmjifaaDoor.Oct
