/- What the calls that make new lists of bytes answer: Part, Zeros, Bytes, With of the reference; Slice and Patch of the program. -/
import Derived.Test.YtpbnjobjjnhplaaDoorPRdLow
import Derived.Test.YtpbnjobjjnhplaaDoorPAppChg
namespace Go.Proofs.YtpbnjobjjnhplaaDoor.Oct
open Go.RowKit

/-- Bytes with the first k bytes of a number written from place p on. -/
def putN (l : List Int) (p : Nat) (v : Int) : Nat → List Int
  | 0 => l
  | k + 1 => (putN l p v k).set (p + k) (v / 2 ^ (8 * k) % 256)

theorem putN_length (l : List Int) (p : Nat) (v : Int) : ∀ k, (putN l p v k).length = l.length
  | 0 => rfl
  | k + 1 => by simp [putN, putN_length l p v k]

theorem Byts.set {l : List Int} (h : Byts l) (j : Nat) (x : Int) (hx : 0 ≤ x ∧ x < 256) : Byts (l.set j x) := by
  intro k
  rw [List.getD_eq_getElem?_getD, List.getElem?_set]
  split
  · split
    · simpa using hx
    · simp
  · have := h k; rwa [List.getD_eq_getElem?_getD] at this

theorem Byts.putN {l : List Int} (h : Byts l) (p : Nat) (v : Int) : ∀ k, Byts (putN l p v k)
  | 0 => h
  | k + 1 => (Byts.putN h p v k).set _ _ (by omega)

theorem getD_set (l : List Int) (j k : Nat) (x : Int) (hj : j < l.length) : (l.set j x).getD k 0 = if j = k then x else l.getD k 0 := by
  rw [List.getD_eq_getElem?_getD, List.getElem?_set]
  split
  · simp
  · rw [List.getD_eq_getElem?_getD]

theorem getD_putN (l : List Int) (p : Nat) (v : Int) (i : Nat) : ∀ n, p + n ≤ l.length → (putN l p v n).getD i 0 = if p ≤ i ∧ i < p + n then v / 2 ^ (8 * (i - p)) % 256 else l.getD i 0
  | 0, _ => by rw [if_neg (by omega)]; rfl
  | n + 1, h => by
    rw [putN, getD_set _ _ _ _ (by rw [putN_length]; omega), getD_putN l p v i n (by omega)]
    by_cases h1 : p + n = i
    · subst h1
      rw [if_pos rfl, if_pos (by omega), Nat.add_sub_cancel_left]
    · rw [if_neg h1]
      by_cases h2 : p ≤ i ∧ i < p + n
      · rw [if_pos h2, if_pos (by omega)]
      · rw [if_neg h2, if_neg (by omega)]

/-- The number of bytes that are those of x, is x (as far as they go). -/
theorem num_of (m : List Int) (q : Nat) (x : Int) : ∀ k, (∀ i, i < k → m.getD (q + i) 0 = x / 2 ^ (8 * i) % 256) → num m q k = x % 256 ^ k
  | 0, _ => by simp [num, Int.emod_one]
  | k + 1, h => by
    rw [num, num_of m q x k (fun i hi => h i (by omega)), h k (by omega)]
    have e1 : (2 : Int) ^ (8 * k) = 256 ^ k := by rw [Int.pow_mul]; rfl
    rw [e1, Int.pow_succ]
    have hp : (0 : Int) < 256 ^ k := Int.pow_pos (by omega)
    generalize (256 : Int) ^ k = y at *
    have h1 : x % (y * 256) = x % y + y * (x / y % 256) := by
      have a1 := Int.emod_add_mul_ediv x (y * 256)
      have a2 := Int.emod_add_mul_ediv x y
      have a3 := Int.emod_add_mul_ediv (x / y) 256
      have a4 : x / (y * 256) = x / y / 256 := (Int.ediv_ediv_of_nonneg (by omega)).symm
      rw [a4] at a1
      have a5 : y * 256 * (x / y / 256) = y * (256 * (x / y / 256)) := by rw [Int.mul_assoc]
      rw [a5] at a1
      have a6 : y * (x / y) = y * (x / y % 256) + y * (256 * (x / y / 256)) := by rw [← Int.mul_add, a3]
      omega
    rw [h1, Int.mul_comm y]

theorem Own.cell {w : World} {B g n cap : Nat} {l : List Int} (h : Own w B (.slice (some ⟨g, 0, none⟩) n cap) l) (hn : n = l.length) (j : Nat) (hj : j < n) :
    w.cell? ⟨g, j, none⟩ = some (.int .u8 (l.getD j 0)) := by
  subst hn
  have := h.lies j hj
  rwa [Nat.zero_add] at this

theorem Own.free {w : World} {B g n cap : Nat} {l : List Int} (h : Own w B (.slice (some ⟨g, 0, none⟩) n cap) l) (hn : n = l.length) (j : Nat) : w.frozen? ⟨g, j, none⟩ = false := by
  subst hn
  exact World.ownsRow.frozenAt h j

theorem Own.set {w : World} {B g n cap : Nat} {l : List Int} (h : Own w B (.slice (some ⟨g, 0, none⟩) n cap) l) (hn : n = l.length) (j : Nat) (x : Int) :
    Own (w.setCell ⟨g, j, none⟩ (.int .u8 x)) B (.slice (some ⟨g, 0, none⟩) n cap) (l.set j x) ∧ w.grownBy (w.setCell ⟨g, j, none⟩ (.int .u8 x)) (some g) := by
  subst hn
  have := h.stored j x
  rwa [List.length_set] at this

theorem grown_trans {a b c : World} {row : Option Nat} (h : a.grownBy b row) (k : b.grownBy c row) : a.grownBy c row :=
  ⟨k.os.trans h.os, k.tape.trans h.tape, k.output.trans h.output, Nat.le_trans h.size k.size, fun i hi hr => (k.block i (Nat.lt_of_lt_of_le hi h.size) hr).trans (h.block i hi hr)⟩

end Go.Proofs.YtpbnjobjjnhplaaDoor.Oct

namespace Go.Proofs.YtpbnjobjjnhplaaDoor.Oct
open Go.RowKit

set_option maxHeartbeats 400000 in
theorem Part_some (b off cap : Nat) (l : List Int) (w : World) (hlen : l.length ≤ 1000000) (hpos : 0 < l.length) (hcap : l.length ≤ cap) (hl : Lies w (some ⟨b, off, none⟩) l) :
    Calls Tryd.prog 33 #[.slice (some ⟨b, off, none⟩) l.length cap, .int .i64 0, .int .i64 l.length] w fun e w' => ∃ v, e = .returned v ∧ Own w' w.heap.size v l ∧ Below w.heap.size w w' := by
  go_enter Tryd.func33, Tryd.ntmps33
  go_wp2_with (at_builtin; refine wpList_append_bytes rfl _ _ 31 rfl Tryd.underlying31 info5 w.heap.size _ [] rfl (Own.nil _ _) _ _ _ l rfl rfl (by exact hl) (by simp; omega) (by exact Nat.le_refl _) ?_; intro v' w1 ho hg)
  go_ret
  exact ⟨_, rfl, ho, Own.behind (Own.nil _ _) (Below.refl _ _) hg (Nat.le_refl _)⟩

set_option maxHeartbeats 400000 in
theorem Part_zero (a : Option Addr) (cap : Nat) (w : World) (hn : a = none → cap = 0) (hcm : cap ≤ maxLen) :
    Calls Tryd.prog 33 #[.slice a 0 cap, .int .i64 0, .int .i64 0] w fun e w' => ∃ v, e = .returned v ∧ Own w' w.heap.size v [] ∧ Below w.heap.size w w' := by
  unfold maxLen at hcm
  cases a with
  | none =>
    obtain rfl := hn rfl
    go_enter Tryd.func33, Tryd.ntmps33
    go_wp2_with fail
    go_ret
    exact ⟨_, rfl, Own.nil _ _, Below.refl _ _⟩
  | some x =>
    clear hn
    go_enter Tryd.func33, Tryd.ntmps33
    go_wp2_with fail
    go_ret
    exact ⟨_, rfl, Own.nil _ _, Below.refl _ _⟩

/-- A copy of all bytes. -/
theorem Part_any (a : Option Addr) (cap : Nat) (l : List Int) (w : World) (hlen : l.length ≤ 1000000) (hs : Sl w a cap l) :
    Calls Tryd.prog 33 #[.slice a l.length cap, .int .i64 0, .int .i64 l.length] w fun e w' => ∃ v, e = .returned v ∧ Own w' w.heap.size v l ∧ Below w.heap.size w w' := by
  rcases hs.lies with rfl | ⟨b, off, rfl, _, hc⟩
  · exact Part_zero a cap w hs.none hs.max
  · by_cases h0 : l = []
    · subst h0
      exact Part_zero _ cap w hs.none hs.max
    · exact Part_some b off cap l w hlen (List.length_pos_iff.2 h0) hs.le hs.lies

theorem Zeros_any (n : Nat) (w : World) (hn : n ≤ 1000000) :
    Calls Tryd.prog 23 #[.int .i64 n] w fun e w' => ∃ v, e = .returned v ∧ Own w' w.heap.size v (List.replicate n 0) ∧ Below w.heap.size w w' := by
  have hmk := run_make_bytes w n (by omega)
  have ho := Own.made w n (by unfold maxLen; omega)
  have HO := hide ho
  clear ho
  go_enter Tryd.func23, Tryd.ntmps23
  go_wp2
  go_ret
  exact ⟨.slice (some ⟨_, 0, none⟩) n n, rfl, HO.out, (Below.refl _ _).alloc (Nat.le_refl _) _⟩

/-- A number's first bytes, the lowest first. -/
def bytesOf (v : Int) : Nat → List Int
  | 0 => []
  | k + 1 => bytesOf v k ++ [v / 256 ^ k % 256]

theorem bytesOf_length (v : Int) : ∀ k, (bytesOf v k).length = k
  | 0 => rfl
  | k + 1 => by simp [bytesOf, bytesOf_length v k]

theorem Byts.one (x : Int) (hx : 0 ≤ x ∧ x < 256) : Byts [x] := by
  intro k
  match k with
  | 0 => simpa using hx
  | k + 1 => simp

theorem Byts.bytesOf (v : Int) : ∀ k, Byts (bytesOf v k)
  | 0 => by intro k; simp [Oct.bytesOf]
  | k + 1 => (Byts.bytesOf v k).append (Byts.one _ (by omega))

theorem lies_one (w : World) (x : Int) : Lies (w.alloc (.cells #[.int .u8 x] 5)) (some ⟨w.heap.size, 0, none⟩) [x] := by
  refine Lies.mk fun k hk => ?_
  have : k = 0 := by simpa using hk
  subst this
  simp

theorem div_step (v : Int) (k : Nat) : v / 256 ^ k / 256 = v / 256 ^ (k + 1) := by
  rw [Int.pow_succ, Int.ediv_ediv_of_nonneg (by exact Int.le_of_lt (Int.pow_pos (by omega)))]

set_option maxRecDepth 100000 in
set_option maxHeartbeats 1000000 in
theorem Bytes_any (v : Int) (n : Nat) (w : World) (hn : n ≤ 8) (hv0 : 0 ≤ v) (hv : v < 18446744073709551616) :
    Calls Tryd.prog 50 #[.int .u64 v, .int .i64 n] w fun e w' => ∃ r, e = .returned r ∧ Own w' w.heap.size r (bytesOf v n) ∧ Below w.heap.size w w' := by
  go_enter Tryd.func50, Tryd.ntmps50
  go_wp2
  go_loopw [0, 5, 6] (fun x r i wr => ∃ k : Nat, k ≤ n ∧ i = .int .i64 k ∧ x = .int .u64 (v / 256 ^ k) ∧ Own wr w.heap.size r (bytesOf v k) ∧ Below w.heap.size w wr) (fun _ _ i _ => n - (intOf i).toNat)
  case atStart => exact ⟨0, by omega, rfl, by simp, Own.nil _ _, Below.refl _ _⟩
  case round =>
    obtain ⟨k, hk, rfl, rfl, ho, hbel⟩ := hrel
    by_cases hlt : k < n
    · have hy0 : 0 ≤ v / 256 ^ k := Int.ediv_nonneg hv0 (Int.le_of_lt (Int.pow_pos (by omega)))
      have hy1 : v / 256 ^ k < 18446744073709551616 := Int.lt_of_le_of_lt (Int.ediv_le_self _ hv0) hv
      have HS : Hid (v / 256 ^ k / 256 = v / 256 ^ (k + 1)) := div_step v k
      have HK : Hid (bytesOf v (k + 1) = bytesOf v k ++ [v / 256 ^ k % 256]) := rfl
      have hbl := bytesOf_length v k
      have HBL := hide hbl
      clear hbl
      generalize v / 256 ^ k = y at *
      go_wp2_with (at_builtin; refine wpList_append_bytes rfl _ _ 31 rfl Tryd.underlying31 info5 w.heap.size _ (bytesOf v k) rfl (by exact ho.alloc _) _ _ _ [y % 256] rfl rfl (by exact lies_one _ _) (by rw [HBL.out]; simp; omega) (by have := hbel.size; simp; omega) ?_; intro v' w1 ho' hg')
      go_roundw
      case rel =>
        refine ⟨k + 1, by omega, by go_num, by rw [HS.out], ?_, Own.behind (ho.alloc _) (hbel.alloc hbel.size _) hg' (by have := hbel.size; simp; omega)⟩
        rw [HK.out]
        exact ho'
      case measure => simp [intOf]; omega
    · have hk4 : k = n := by omega
      subst hk4
      go_wp2
      go_ret
      exact ⟨_, rfl, ho, hbel⟩

set_option maxHeartbeats 1000000 in
/-- Bytes, others in the place of some. -/
theorem With_some (b off cap : Nat) (l : List Int) (a' : Option Addr) (cap' : Nat) (m : List Int) (p : Nat) (w : World) (hlen : l.length ≤ 1000000) (hlen' : m.length ≤ 1000000) (hpos : 0 < l.length) (hfit : p + m.length ≤ l.length)
    (hcap : l.length ≤ cap) (hl : Lies w (some ⟨b, off, none⟩) l) (hl' : Lies w a' m) :
    Calls Tryd.prog 34 #[.slice (some ⟨b, off, none⟩) l.length cap, .int .i64 p, .slice a' m.length cap'] w fun e w' => ∃ v, e = .returned v ∧ Own w' w.heap.size v (over l p m) ∧ Below w.heap.size w w' := by
  have h1 : Lies w (some ⟨b, off, none⟩) (l.take p) := by have := hl.of_part 0 p; simpa using this
  have e1 : (l.take p).length = p := by simp; omega
  have H1 := hide h1
  have H2 := hide hl'
  have H3 := hide hl
  have HE1 := hide e1
  clear h1 hl hl' e1
  by_cases hrest : p + m.length < l.length
  · go_enter Tryd.func34, Tryd.ntmps34
    go_wp2_with (first
      | (at_builtin; refine wpList_append_bytes rfl _ _ 31 rfl Tryd.underlying31 info5 w.heap.size _ [] rfl (Own.nil _ _) _ _ _ (l.take p) rfl HE1.out.symm (by exact H1.out) (by rw [HE1.out]; simp; omega) (by exact Nat.le_refl _) ?_; intro v1 w1 ho1 hg1; have HB1 := hide (Own.behind (Own.nil _ _) (Below.refl _ _) hg1 (Nat.le_refl _)); clear hg1)
      | (at_builtin; refine wpList_append_bytes rfl _ _ 31 rfl Tryd.underlying31 info5 w.heap.size _ ([] ++ l.take p) rfl ho1 _ _ _ m rfl rfl (by exact H2.out.below HB1.out) (by rw [List.nil_append, HE1.out]; omega) (by exact HB1.out.size) ?_; intro v2 w2 ho2 hg2; have HB2 := hide (Own.behind ho1 HB1.out hg2 HB1.out.size); clear hg2)
      | (at_builtin; refine wpList_append_bytes rfl _ _ 31 rfl Tryd.underlying31 info5 w.heap.size _ ([] ++ l.take p ++ m) rfl ho2 _ _ _ ((l.drop (p + m.length)).take (l.length - (p + m.length))) rfl (by simp) (by exact (H3.out.of_part (p + m.length) (l.length - (p + m.length))).below HB2.out) (by simp; omega) (by exact HB2.out.size) ?_; intro v3 w3 ho3 hg3; have HB3 := hide (Own.behind ho2 HB2.out hg3 HB2.out.size); clear hg3))
    go_ret
    refine ⟨_, rfl, ?_, HB3.out⟩
    have e : over l p m = [] ++ l.take p ++ m ++ (l.drop (p + m.length)).take (l.length - (p + m.length)) := by
      have e0 : (l.drop (p + m.length)).take (l.length - (p + m.length)) = l.drop (p + m.length) := List.take_of_length_le (by simp)
      rw [e0]
      simp [over]
    rw [e]
    exact ho3
  · go_enter Tryd.func34, Tryd.ntmps34
    go_wp2_with (first
      | (at_builtin; refine wpList_append_bytes rfl _ _ 31 rfl Tryd.underlying31 info5 w.heap.size _ [] rfl (Own.nil _ _) _ _ _ (l.take p) rfl HE1.out.symm (by exact H1.out) (by rw [HE1.out]; simp; omega) (by exact Nat.le_refl _) ?_; intro v1 w1 ho1 hg1; have HB1 := hide (Own.behind (Own.nil _ _) (Below.refl _ _) hg1 (Nat.le_refl _)); clear hg1)
      | (at_builtin; refine wpList_append_bytes rfl _ _ 31 rfl Tryd.underlying31 info5 w.heap.size _ ([] ++ l.take p) rfl ho1 _ _ _ m rfl rfl (by exact H2.out.below HB1.out) (by rw [List.nil_append, HE1.out]; omega) (by exact HB1.out.size) ?_; intro v2 w2 ho2 hg2; have HB2 := hide (Own.behind ho1 HB1.out hg2 HB1.out.size); clear hg2)
      | (at_builtin; refine wpList_append_bytes rfl _ _ 31 rfl Tryd.underlying31 info5 w.heap.size _ ([] ++ l.take p ++ m) rfl ho2 _ _ _ [] rfl (by simp; omega) (by exact Lies.nil _ _) (by simp; omega) (by exact HB2.out.size) ?_; intro v3 w3 ho3 hg3; have HB3 := hide (Own.behind ho2 HB2.out hg3 HB2.out.size); clear hg3))
    all_goals
      go_ret
      refine ⟨_, rfl, ?_, HB3.out⟩
      have e : over l p m = [] ++ l.take p ++ m ++ [] := by
        simp [over]
        omega
      rw [e]
      exact ho3

set_option maxHeartbeats 400000 in
theorem With_zero (a : Option Addr) (cap : Nat) (a' : Option Addr) (cap' : Nat) (w : World) (hn : a = none → cap = 0) (hcm : cap ≤ maxLen) (hn' : a' = none → cap' = 0) :
    Calls Tryd.prog 34 #[.slice a 0 cap, .int .i64 0, .slice a' 0 cap'] w fun e w' => ∃ v, e = .returned v ∧ Own w' w.heap.size v [] ∧ Below w.heap.size w w' := by
  unfold maxLen at hcm
  cases a with
  | none =>
    obtain rfl := hn rfl
    clear hn
    cases a' with
    | none =>
      obtain rfl := hn' rfl
      go_enter Tryd.func34, Tryd.ntmps34
      go_wp2_with fail
      go_ret
      exact ⟨_, rfl, Own.nil _ _, Below.refl _ _⟩
    | some y =>
      clear hn'
      go_enter Tryd.func34, Tryd.ntmps34
      go_wp2_with fail
      go_ret
      exact ⟨_, rfl, Own.nil _ _, Below.refl _ _⟩
  | some x =>
    clear hn
    cases a' with
    | none =>
      obtain rfl := hn' rfl
      go_enter Tryd.func34, Tryd.ntmps34
      go_wp2_with fail
      all_goals
        go_ret
        exact ⟨_, rfl, Own.nil _ _, Below.refl _ _⟩
    | some y =>
      clear hn'
      go_enter Tryd.func34, Tryd.ntmps34
      go_wp2_with fail
      all_goals
        go_ret
        exact ⟨_, rfl, Own.nil _ _, Below.refl _ _⟩

theorem With_any (a : Option Addr) (cap : Nat) (l : List Int) (a' : Option Addr) (cap' : Nat) (m : List Int) (p : Nat) (w : World) (hlen : l.length ≤ 1000000) (hlen' : m.length ≤ 1000000) (hfit : p + m.length ≤ l.length)
    (hs : Sl w a cap l) (hs' : Sl w a' cap' m) :
    Calls Tryd.prog 34 #[.slice a l.length cap, .int .i64 p, .slice a' m.length cap'] w fun e w' => ∃ v, e = .returned v ∧ Own w' w.heap.size v (over l p m) ∧ Below w.heap.size w w' := by
  by_cases h0 : l = []
  · subst h0
    have hz : p + m.length ≤ 0 := hfit
    have hp : p = 0 := by omega
    have hm : m = [] := List.length_eq_zero_iff.1 (by omega)
    subst hp hm
    exact With_zero a cap a' cap' w hs.none hs.max hs'.none
  · rcases hs.lies with h | ⟨b, off, rfl, _, hc⟩
    · exact absurd h h0
    · exact With_some b off cap l a' cap' m p w hlen hlen' (List.length_pos_iff.2 h0) hfit hs.le hs.lies hs'.lies


end Go.Proofs.YtpbnjobjjnhplaaDoor.Oct
