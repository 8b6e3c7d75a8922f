/- What the calls that make new lists of bytes answer: Part, Zeros, Bytes, With of the reference; Slice and Patch of the program. -/
import Derived.Test.YtjmajjfknmjifaaDoorPRdWr
import Derived.Test.YtjmajjfknmjifaaDoorPAppChg
namespace Go.Proofs.YtjmajjfknmjifaaDoor.Oct
open Go.RowKit

theorem info5 : (Tryd.prog.info? 5).map (fun i => (i.zero, i.size, i.bytes)) = some (some (.int .u8 0), 1, 1) := by kernel_rfl
theorem size5 : (Tryd.prog.info? 5).map (·.size) = some 1 := by kernel_rfl

/-- Two lists of bytes as the same text? -/
theorem Same_any (a a' : Option Addr) (cap cap' : Nat) (l l' : List Int) (w : World) (hl : Lies w a l) (hl' : Lies w a' l') (hb : Byts l) (hb' : Byts l') :
    Calls Tryd.prog 13 #[.slice a l.length cap, .slice a' l'.length cap'] w fun e w' => e = .returned (.bool (decide (l = l'))) ∧ w' = w := by
  have h1 := run_text (P := Tryd.prog) (dst := 9) Tryd.underlying24 Tryd.underlying5 Tryd.underlying9 w a l cap hl
  have h2 := run_text (P := Tryd.prog) (dst := 9) Tryd.underlying24 Tryd.underlying5 Tryd.underlying9 w a' l' cap' hl'
  go_enter Tryd.func13, Tryd.ntmps13
  go_wp2
  go_ret
  refine ⟨?_, rfl⟩
  rw [← beq_text hb hb']
  rfl

/-- make of so many bytes. -/
theorem run_make_bytes (w : World) (n : Nat) (hn : n ≤ 140737488355328) :
    (Instr.makeSlice 24 (.int .i64 (n : Int)) (.int .i64 (n : Int))).run Tryd.prog w = .ok (.slice (some ⟨w.heap.size, 0, none⟩) n n) (w.alloc (.cells (madeCells #[.int .u8 0] n) 5)) := by
  obtain ⟨i0, hi, hz0, hz1, hz2⟩ := info_parts info5
  have h := run_make (P := Tryd.prog) w 24 5 i0 (.int .u8 0) Tryd.underlying24 hi hz0 .i64 .i64 (n : Int) (n : Int) (by omega) (Int.le_refl _) (by rw [hz2]; omega) (by omega)
  simpa [hz1, Value.cells] using h

end Go.Proofs.YtjmajjfknmjifaaDoor.Oct

namespace Go.Proofs.YtjmajjfknmjifaaDoor.Oct
open Go.RowKit

set_option maxHeartbeats 400000 in
theorem Part_some (b off cap : Nat) (l : List Int) (w : World) (hlen : l.length ≤ 1000000) (hpos : 0 < l.length) (hcap : l.length ≤ cap) (hl : Lies w (some ⟨b, off, none⟩) l) :
    Calls Tryd.prog 11 #[.slice (some ⟨b, off, none⟩) l.length cap, .int .i64 0, .int .i64 l.length] w fun e w' => ∃ v, e = .returned v ∧ Own w' w.heap.size v l ∧ Below w.heap.size w w' := by
  go_enter Tryd.func11, Tryd.ntmps11
  go_wp2_with (at_builtin; refine wpList_append_bytes rfl _ _ 24 rfl Tryd.underlying24 info5 w.heap.size _ [] rfl (Own.nil _ _) _ _ _ l rfl rfl (by exact hl) (by simp; omega) (by exact Nat.le_refl _) ?_; intro v' w1 ho hg)
  go_ret
  exact ⟨_, rfl, ho, Own.behind (Own.nil _ _) (Below.refl _ _) hg (Nat.le_refl _)⟩

set_option maxHeartbeats 400000 in
theorem Part_zero (a : Option Addr) (cap : Nat) (w : World) (hn : a = none → cap = 0) (hcm : cap ≤ maxLen) :
    Calls Tryd.prog 11 #[.slice a 0 cap, .int .i64 0, .int .i64 0] w fun e w' => ∃ v, e = .returned v ∧ Own w' w.heap.size v [] ∧ Below w.heap.size w w' := by
  unfold maxLen at hcm
  cases a with
  | none =>
    obtain rfl := hn rfl
    go_enter Tryd.func11, Tryd.ntmps11
    go_wp2_with fail
    go_ret
    exact ⟨_, rfl, Own.nil _ _, Below.refl _ _⟩
  | some x =>
    clear hn
    go_enter Tryd.func11, Tryd.ntmps11
    go_wp2_with fail
    go_ret
    exact ⟨_, rfl, Own.nil _ _, Below.refl _ _⟩

/-- A copy of all bytes. -/
theorem Part_any (a : Option Addr) (cap : Nat) (l : List Int) (w : World) (hlen : l.length ≤ 1000000) (hs : Sl w a cap l) :
    Calls Tryd.prog 11 #[.slice a l.length cap, .int .i64 0, .int .i64 l.length] w fun e w' => ∃ v, e = .returned v ∧ Own w' w.heap.size v l ∧ Below w.heap.size w w' := by
  rcases hs.lies with rfl | ⟨b, off, rfl, _, hc⟩
  · exact Part_zero a cap w hs.none hs.max
  · by_cases h0 : l = []
    · subst h0
      exact Part_zero _ cap w hs.none hs.max
    · exact Part_some b off cap l w hlen (List.length_pos_iff.2 h0) hs.le hs.lies


/-- A number's first bytes, the lowest first. -/
def bytesOf (v : Int) : Nat → List Int
  | 0 => []
  | k + 1 => bytesOf v k ++ [v / 256 ^ k % 256]

theorem bytesOf_length (v : Int) : ∀ k, (bytesOf v k).length = k
  | 0 => rfl
  | k + 1 => by simp [bytesOf, bytesOf_length v k]

theorem Byts.one (x : Int) (hx : 0 ≤ x ∧ x < 256) : Byts [x] := by
  intro k
  match k with
  | 0 => simpa using hx
  | k + 1 => simp

theorem Byts.bytesOf (v : Int) : ∀ k, Byts (bytesOf v k)
  | 0 => by intro k; simp [Oct.bytesOf]
  | k + 1 => (Byts.bytesOf v k).append (Byts.one _ (by omega))

theorem lies_one (w : World) (x : Int) : Lies (w.alloc (.cells #[.int .u8 x] 5)) (some ⟨w.heap.size, 0, none⟩) [x] := by
  refine Lies.mk fun k hk => ?_
  have : k = 0 := by simpa using hk
  subst this
  simp

theorem div_step (v : Int) (k : Nat) : v / 256 ^ k / 256 = v / 256 ^ (k + 1) := by
  rw [Int.pow_succ, Int.ediv_ediv_of_nonneg (by exact Int.le_of_lt (Int.pow_pos (by omega)))]

set_option maxRecDepth 100000 in
set_option maxHeartbeats 1000000 in
theorem Bytes_any (v : Int) (n : Nat) (w : World) (hn : n ≤ 8) (hv0 : 0 ≤ v) (hv : v < 18446744073709551616) :
    Calls Tryd.prog 44 #[.int .u64 v, .int .i64 n] w fun e w' => ∃ r, e = .returned r ∧ Own w' w.heap.size r (bytesOf v n) ∧ Below w.heap.size w w' := by
  go_enter Tryd.func44, Tryd.ntmps44
  go_wp2
  go_loopw [0, 5, 6] (fun x r i wr => ∃ k : Nat, k ≤ n ∧ i = .int .i64 k ∧ x = .int .u64 (v / 256 ^ k) ∧ Own wr w.heap.size r (bytesOf v k) ∧ Below w.heap.size w wr) (fun _ _ i _ => n - (intOf i).toNat)
  case atStart => exact ⟨0, by omega, rfl, by simp, Own.nil _ _, Below.refl _ _⟩
  case round =>
    obtain ⟨k, hk, rfl, rfl, ho, hbel⟩ := hrel
    by_cases hlt : k < n
    · have hy0 : 0 ≤ v / 256 ^ k := Int.ediv_nonneg hv0 (Int.le_of_lt (Int.pow_pos (by omega)))
      have hy1 : v / 256 ^ k < 18446744073709551616 := Int.lt_of_le_of_lt (Int.ediv_le_self _ hv0) hv
      have HS : Hid (v / 256 ^ k / 256 = v / 256 ^ (k + 1)) := div_step v k
      have HK : Hid (bytesOf v (k + 1) = bytesOf v k ++ [v / 256 ^ k % 256]) := rfl
      have hbl := bytesOf_length v k
      have HBL := hide hbl
      clear hbl
      generalize v / 256 ^ k = y at *
      go_wp2_with (at_builtin; refine wpList_append_bytes rfl _ _ 24 rfl Tryd.underlying24 info5 w.heap.size _ (bytesOf v k) rfl (by exact ho.alloc _) _ _ _ [y % 256] rfl rfl (by exact lies_one _ _) (by rw [HBL.out]; simp; omega) (by have := hbel.size; simp; omega) ?_; intro v' w1 ho' hg')
      go_roundw
      case rel =>
        refine ⟨k + 1, by omega, by go_num, by rw [HS.out], ?_, Own.behind (ho.alloc _) (hbel.alloc hbel.size _) hg' (by have := hbel.size; simp; omega)⟩
        rw [HK.out]
        exact ho'
      case measure => simp [intOf]; omega
    · have hk4 : k = n := by omega
      subst hk4
      go_wp2
      go_ret
      exact ⟨_, rfl, ho, hbel⟩

set_option maxHeartbeats 1000000 in
/-- Bytes, others in the place of some. -/
theorem With_some (b off cap : Nat) (l : List Int) (a' : Option Addr) (cap' : Nat) (m : List Int) (p : Nat) (w : World) (hlen : l.length ≤ 1000000) (hlen' : m.length ≤ 1000000) (hpos : 0 < l.length) (hfit : p + m.length ≤ l.length)
    (hcap : l.length ≤ cap) (hl : Lies w (some ⟨b, off, none⟩) l) (hl' : Lies w a' m) :
    Calls Tryd.prog 43 #[.slice (some ⟨b, off, none⟩) l.length cap, .int .i64 p, .slice a' m.length cap'] w fun e w' => ∃ v, e = .returned v ∧ Own w' w.heap.size v (over l p m) ∧ Below w.heap.size w w' := by
  have h1 : Lies w (some ⟨b, off, none⟩) (l.take p) := by have := hl.of_part 0 p; simpa using this
  have e1 : (l.take p).length = p := by simp; omega
  have H1 := hide h1
  have H2 := hide hl'
  have H3 := hide hl
  have HE1 := hide e1
  clear h1 hl hl' e1
  by_cases hrest : p + m.length < l.length
  · go_enter Tryd.func43, Tryd.ntmps43
    go_wp2_with (first
      | (at_builtin; refine wpList_append_bytes rfl _ _ 24 rfl Tryd.underlying24 info5 w.heap.size _ [] rfl (Own.nil _ _) _ _ _ (l.take p) rfl HE1.out.symm (by exact H1.out) (by rw [HE1.out]; simp; omega) (by exact Nat.le_refl _) ?_; intro v1 w1 ho1 hg1; have HB1 := hide (Own.behind (Own.nil _ _) (Below.refl _ _) hg1 (Nat.le_refl _)); clear hg1)
      | (at_builtin; refine wpList_append_bytes rfl _ _ 24 rfl Tryd.underlying24 info5 w.heap.size _ ([] ++ l.take p) rfl ho1 _ _ _ m rfl rfl (by exact H2.out.below HB1.out) (by rw [List.nil_append, HE1.out]; omega) (by exact HB1.out.size) ?_; intro v2 w2 ho2 hg2; have HB2 := hide (Own.behind ho1 HB1.out hg2 HB1.out.size); clear hg2)
      | (at_builtin; refine wpList_append_bytes rfl _ _ 24 rfl Tryd.underlying24 info5 w.heap.size _ ([] ++ l.take p ++ m) rfl ho2 _ _ _ ((l.drop (p + m.length)).take (l.length - (p + m.length))) rfl (by simp) (by exact (H3.out.of_part (p + m.length) (l.length - (p + m.length))).below HB2.out) (by simp; omega) (by exact HB2.out.size) ?_; intro v3 w3 ho3 hg3; have HB3 := hide (Own.behind ho2 HB2.out hg3 HB2.out.size); clear hg3))
    go_ret
    refine ⟨_, rfl, ?_, HB3.out⟩
    have e : over l p m = [] ++ l.take p ++ m ++ (l.drop (p + m.length)).take (l.length - (p + m.length)) := by
      have e0 : (l.drop (p + m.length)).take (l.length - (p + m.length)) = l.drop (p + m.length) := List.take_of_length_le (by simp)
      rw [e0]
      simp [over]
    rw [e]
    exact ho3
  · go_enter Tryd.func43, Tryd.ntmps43
    go_wp2_with (first
      | (at_builtin; refine wpList_append_bytes rfl _ _ 24 rfl Tryd.underlying24 info5 w.heap.size _ [] rfl (Own.nil _ _) _ _ _ (l.take p) rfl HE1.out.symm (by exact H1.out) (by rw [HE1.out]; simp; omega) (by exact Nat.le_refl _) ?_; intro v1 w1 ho1 hg1; have HB1 := hide (Own.behind (Own.nil _ _) (Below.refl _ _) hg1 (Nat.le_refl _)); clear hg1)
      | (at_builtin; refine wpList_append_bytes rfl _ _ 24 rfl Tryd.underlying24 info5 w.heap.size _ ([] ++ l.take p) rfl ho1 _ _ _ m rfl rfl (by exact H2.out.below HB1.out) (by rw [List.nil_append, HE1.out]; omega) (by exact HB1.out.size) ?_; intro v2 w2 ho2 hg2; have HB2 := hide (Own.behind ho1 HB1.out hg2 HB1.out.size); clear hg2)
      | (at_builtin; refine wpList_append_bytes rfl _ _ 24 rfl Tryd.underlying24 info5 w.heap.size _ ([] ++ l.take p ++ m) rfl ho2 _ _ _ [] rfl (by simp; omega) (by exact Lies.nil _ _) (by simp; omega) (by exact HB2.out.size) ?_; intro v3 w3 ho3 hg3; have HB3 := hide (Own.behind ho2 HB2.out hg3 HB2.out.size); clear hg3))
    all_goals
      go_ret
      refine ⟨_, rfl, ?_, HB3.out⟩
      have e : over l p m = [] ++ l.take p ++ m ++ [] := by
        simp [over]
        omega
      rw [e]
      exact ho3

set_option maxHeartbeats 400000 in
theorem With_zero (a : Option Addr) (cap : Nat) (a' : Option Addr) (cap' : Nat) (w : World) (hn : a = none → cap = 0) (hcm : cap ≤ maxLen) (hn' : a' = none → cap' = 0) :
    Calls Tryd.prog 43 #[.slice a 0 cap, .int .i64 0, .slice a' 0 cap'] w fun e w' => ∃ v, e = .returned v ∧ Own w' w.heap.size v [] ∧ Below w.heap.size w w' := by
  unfold maxLen at hcm
  cases a with
  | none =>
    obtain rfl := hn rfl
    clear hn
    cases a' with
    | none =>
      obtain rfl := hn' rfl
      go_enter Tryd.func43, Tryd.ntmps43
      go_wp2_with fail
      go_ret
      exact ⟨_, rfl, Own.nil _ _, Below.refl _ _⟩
    | some y =>
      clear hn'
      go_enter Tryd.func43, Tryd.ntmps43
      go_wp2_with fail
      go_ret
      exact ⟨_, rfl, Own.nil _ _, Below.refl _ _⟩
  | some x =>
    clear hn
    cases a' with
    | none =>
      obtain rfl := hn' rfl
      go_enter Tryd.func43, Tryd.ntmps43
      go_wp2_with fail
      all_goals
        go_ret
        exact ⟨_, rfl, Own.nil _ _, Below.refl _ _⟩
    | some y =>
      clear hn'
      go_enter Tryd.func43, Tryd.ntmps43
      go_wp2_with fail
      all_goals
        go_ret
        exact ⟨_, rfl, Own.nil _ _, Below.refl _ _⟩

theorem With_any (a : Option Addr) (cap : Nat) (l : List Int) (a' : Option Addr) (cap' : Nat) (m : List Int) (p : Nat) (w : World) (hlen : l.length ≤ 1000000) (hlen' : m.length ≤ 1000000) (hfit : p + m.length ≤ l.length)
    (hs : Sl w a cap l) (hs' : Sl w a' cap' m) :
    Calls Tryd.prog 43 #[.slice a l.length cap, .int .i64 p, .slice a' m.length cap'] w fun e w' => ∃ v, e = .returned v ∧ Own w' w.heap.size v (over l p m) ∧ Below w.heap.size w w' := by
  by_cases h0 : l = []
  · subst h0
    have hz : p + m.length ≤ 0 := hfit
    have hp : p = 0 := by omega
    have hm : m = [] := List.length_eq_zero_iff.1 (by omega)
    subst hp hm
    exact With_zero a cap a' cap' w hs.none hs.max hs'.none
  · rcases hs.lies with h | ⟨b, off, rfl, _, hc⟩
    · exact absurd h h0
    · exact With_some b off cap l a' cap' m p w hlen hlen' (List.length_pos_iff.2 h0) hfit hs.le hs.lies hs'.lies

theorem over_all (n : Nat) (l : List Int) (h : l.length = n) : over (List.replicate n 0) 0 l = l := by
  subst h
  simp [over]

set_option maxRecDepth 100000 in
set_option maxHeartbeats 1000000 in
theorem Slice_some (b off cap : Nat) (l : List Int) (p n : Nat) (w : World) (hlen : l.length ≤ 1000000) (hcap : l.length ≤ cap) (hl : Lies w (some ⟨b, off, none⟩) l) (hn : 0 < n) (hp : p + n ≤ l.length) :
    Calls Tryd.prog 45 #[.slice (some ⟨b, off, none⟩) l.length cap, .int .i64 p, .int .i64 n] w fun e w' => ∃ v, e = .returned (.tuple #[v, .bool true]) ∧ Own w' w.heap.size v ((l.drop p).take n) ∧ Below w.heap.size w w' := by
  have hmk := run_make_bytes w n (by omega)
  have hpl : ((l.drop p).take n).length = n := by simp; omega
  obtain ⟨w1, hrun, ho, hg⟩ := run_copy_part (P := Tryd.prog) (dT := 24) (sT := 24) (ty := 3) Tryd.underlying24 size5 _ _ w.heap.size 0 n n n n (l.length - p) (cap - p) (some ⟨w.heap.size, 0, none⟩) (some ⟨b, off + p, none⟩)
    ((l.drop p).take n) (List.replicate n 0) (Own.made w n (by unfold maxLen; omega)) (by simp) ((hl.of_part p n).alloc _) (fun _ => rfl) (by rw [hpl]; exact (Nat.min_eq_right (by omega)).symm) (by rw [hpl]; simp)
  rw [hpl] at hrun
  rw [over_all n _ hpl] at ho
  clear hpl
  have HB : Hid (Below w.heap.size w w1) := ((Below.refl w.heap.size w).alloc (Nat.le_refl _) _).grown hg (by simp) (by intro k hk; simp at hk; omega)
  have HO := hide ho
  clear hl ho hg
  go_enter Tryd.func45, Tryd.ntmps45
  go_wp2_with (go_at_call 67; refine (there_yes _ _ _ _ _ _ (by unfold maxLen; omega) (by omega) (by omega) (by omega)).mono ?_; rintro e w' ⟨rfl, rfl⟩)
  go_ret2
  exact ⟨_, rfl, HO.out, HB.out⟩

set_option maxRecDepth 100000 in
set_option maxHeartbeats 1000000 in
theorem Slice_zero (a : Option Addr) (cap len : Nat) (p : Nat) (w : World) (hlen : len ≤ 1000000) (hcap : len ≤ cap) (hcm : cap ≤ maxLen) (hn : a = none → cap = 0) (hp : p ≤ len) :
    Calls Tryd.prog 45 #[.slice a len cap, .int .i64 p, .int .i64 0] w fun e w' => ∃ v, e = .returned (.tuple #[v, .bool true]) ∧ Own w' w.heap.size v [] ∧ Below w.heap.size w w' := by
  have hmk : (Instr.makeSlice 24 (.int .i64 0) (.int .i64 0)).run Tryd.prog w = .ok (.slice (some ⟨w.heap.size, 0, none⟩) 0 0) (w.alloc (.cells (madeCells #[.int .u8 0] 0) 5)) := run_make_bytes w 0 (by omega)
  have hcp : ∀ (d a : Option Addr) (dCap sLen sCap : Nat) (w : World), (Builtin.copy_ #[24, 24] 3 #[.slice d 0 dCap, .slice a sLen sCap]).run Tryd.prog w = .ok (goInt 0) w :=
    fun d a dCap sLen sCap w => run_copy_none w 24 24 3 5 d a 0 dCap sLen sCap Tryd.underlying24 size5 (by simp)
  have HO := hide (Own.made w 0 (by unfold maxLen; omega))
  unfold maxLen at hcm
  cases a with
  | none =>
    obtain rfl := hn rfl
    obtain rfl : len = 0 := by omega
    obtain rfl : p = 0 := by omega
    go_enter Tryd.func45, Tryd.ntmps45
    go_wp2_with (go_at_call 67; refine (there_yes _ _ _ _ _ _ (by unfold maxLen; omega) (by omega) (by omega) (by omega)).mono ?_; rintro e w' ⟨rfl, rfl⟩)
    go_ret2
    exact ⟨_, rfl, HO.out, (Below.refl _ _).alloc (Nat.le_refl _) _⟩
  | some x =>
    clear hn
    go_enter Tryd.func45, Tryd.ntmps45
    go_wp2_with (go_at_call 67; refine (there_yes _ _ _ _ _ _ (by unfold maxLen; omega) (by omega) (by omega) (by omega)).mono ?_; rintro e w' ⟨rfl, rfl⟩)
    all_goals
      go_ret2
      exact ⟨_, rfl, HO.out, (Below.refl _ _).alloc (Nat.le_refl _) _⟩

theorem Slice_yes (a : Option Addr) (cap : Nat) (l : List Int) (p n : Nat) (w : World) (hlen : l.length ≤ 1000000) (hs : Sl w a cap l) (hp : p + n ≤ l.length) :
    Calls Tryd.prog 45 #[.slice a l.length cap, .int .i64 p, .int .i64 n] w fun e w' => ∃ v, e = .returned (.tuple #[v, .bool true]) ∧ Own w' w.heap.size v ((l.drop p).take n) ∧ Below w.heap.size w w' := by
  by_cases hn : n = 0
  · subst hn
    exact Slice_zero a cap l.length p w hlen hs.le hs.max hs.none (by omega)
  · rcases hs.lies with h | ⟨b, off, rfl, _, hc⟩
    · subst h
      simp at hp
      omega
    · exact Slice_some b off cap l p n w hlen hs.le hs.lies (by omega) hp

theorem Slice_no (a : Option Addr) (len cap : Nat) (p n : Int) (w : World) (hlen : len ≤ maxLen) (hp : p ≤ 9223372036854775807) (hp2 : -9223372036854775808 ≤ p) (h : ¬ (0 ≤ p ∧ 0 ≤ n ∧ n ≤ len - p)) :
    Calls Tryd.prog 45 #[.slice a len cap, .int .i64 p, .int .i64 n] w fun e w' => e = .returned (.tuple #[.slice none 0 0, .bool false]) ∧ w' = w := by
  have hno := fun w => there_no a len cap p n w hlen hp hp2 h
  go_enter Tryd.func45, Tryd.ntmps45
  go_wp2_with (go_at_call 67; refine (hno _).mono ?_; rintro e w' ⟨rfl, rfl⟩)
  go_ret2
  exact ⟨rfl, rfl⟩

set_option maxHeartbeats 1000000 in
/-- Bytes are put over others of an own row. -/
theorem Patch_some (B g cap : Nat) (l : List Int) (a' : Option Addr) (cap' : Nat) (m : List Int) (p : Nat) (w : World) (hlen : l.length ≤ 1000000) (hcap : l.length ≤ cap) (hm : m ≠ []) (hp : p + m.length ≤ l.length)
    (hown : Own w B (.slice (some ⟨g, 0, none⟩) l.length cap) l) (hl' : Lies w a' m) :
    Calls Tryd.prog 87 #[.slice (some ⟨g, 0, none⟩) l.length cap, .int .i64 p, .slice a' m.length cap'] w fun e w' =>
      e = .returned (.bool true) ∧ Own w' B (.slice (some ⟨g, 0, none⟩) l.length cap) (over l p m) ∧ w.grownBy w' (some g) := by
  have hpos : 0 < m.length := List.length_pos_iff.2 hm
  obtain ⟨w1, hrun, ho, hg⟩ := run_copy_part (P := Tryd.prog) (dT := 24) (sT := 24) (ty := 3) Tryd.underlying24 size5 w B g p l.length cap (l.length - p) (cap - p) m.length cap' (some ⟨g, p, none⟩) a'
    m l hown rfl hl' (fun _ => rfl) (Nat.min_eq_left (by omega)).symm hp
  have HO := hide ho
  have HG := hide hg
  clear hown hl' ho hg hm
  go_enter Tryd.func87, Tryd.ntmps87
  go_wp2_with (go_at_call 67; refine (there_yes _ _ _ _ _ _ (by unfold maxLen; omega) (by omega) (by omega) (by omega)).mono ?_; rintro e w' ⟨rfl, rfl⟩)
  go_ret
  exact ⟨rfl, HO.out, HG.out⟩

set_option maxRecDepth 100000 in
set_option maxHeartbeats 1000000 in
theorem Patch_zero (a a' : Option Addr) (cap cap' len : Nat) (p : Nat) (w : World) (hlen : len ≤ 1000000) (hcap : len ≤ cap) (hcm : cap ≤ maxLen) (hn : a = none → cap = 0) (hp : p ≤ len) :
    Calls Tryd.prog 87 #[.slice a len cap, .int .i64 p, .slice a' 0 cap'] w fun e w' => e = .returned (.bool true) ∧ w' = w := by
  have hcp : ∀ (d a : Option Addr) (dLen dCap sCap : Nat) (w : World), (Builtin.copy_ #[24, 24] 3 #[.slice d dLen dCap, .slice a 0 sCap]).run Tryd.prog w = .ok (goInt 0) w :=
    fun d a dLen dCap sCap w => run_copy_none w 24 24 3 5 d a dLen dCap 0 sCap Tryd.underlying24 size5 (by simp)
  unfold maxLen at hcm
  cases a with
  | none =>
    obtain rfl := hn rfl
    obtain rfl : len = 0 := by omega
    obtain rfl : p = 0 := by omega
    go_enter Tryd.func87, Tryd.ntmps87
    go_wp2_with (go_at_call 67; refine (there_yes _ _ _ _ _ _ (by unfold maxLen; omega) (by omega) (by omega) (by omega)).mono ?_; rintro e w' ⟨rfl, rfl⟩)
    go_ret
    exact ⟨rfl, rfl⟩
  | some x =>
    clear hn
    go_enter Tryd.func87, Tryd.ntmps87
    go_wp2_with (go_at_call 67; refine (there_yes _ _ _ _ _ _ (by unfold maxLen; omega) (by omega) (by omega) (by omega)).mono ?_; rintro e w' ⟨rfl, rfl⟩)
    all_goals
      go_ret
      exact ⟨rfl, rfl⟩

theorem Patch_no (a a' : Option Addr) (len cap len' cap' : Nat) (p : Int) (w : World) (hlen : len ≤ maxLen) (hp : p ≤ 9223372036854775807) (hp2 : -9223372036854775808 ≤ p) (h : ¬ (0 ≤ p ∧ (0 : Int) ≤ len' ∧ len' ≤ len - p)) :
    Calls Tryd.prog 87 #[.slice a len cap, .int .i64 p, .slice a' len' cap'] w fun e w' => e = .returned (.bool false) ∧ w' = w := by
  have hno := fun w => there_no a len cap p len' w hlen hp hp2 h
  go_enter Tryd.func87, Tryd.ntmps87
  go_wp2_with (go_at_call 67; refine (hno _).mono ?_; rintro e w' ⟨rfl, rfl⟩)
  go_ret
  exact ⟨rfl, rfl⟩
end Go.Proofs.YtjmajjfknmjifaaDoor.Oct
