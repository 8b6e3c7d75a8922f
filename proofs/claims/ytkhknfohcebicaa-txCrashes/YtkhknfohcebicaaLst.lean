/- What the calls that make new lists of bytes answer: Part, Zeros, Bytes, With of the reference; Slice and Patch of the program. -/
import Derived.Test.YtkhknfohcebicaaLow
import Derived.Test.YtkhknfohcebicaaApp
import Derived.Test.YtkhknfohcebicaaWr
namespace Go.Proofs.Ytkhknfohcebicaa.Oct
open Go.RowKit

set_option maxHeartbeats 400000 in
theorem Part_some (b off cap : Nat) (l : List Int) (w : World) (hlen : l.length ≤ 1000000) (hpos : 0 < l.length) (hcap : l.length ≤ cap) (hl : Lies w (some ⟨b, off, none⟩) l) :
    Calls Try.prog 22 #[.slice (some ⟨b, off, none⟩) l.length cap, .int .i64 0, .int .i64 l.length] w fun e w' => ∃ v, e = .returned v ∧ Own w' w.heap.size v l ∧ Below w.heap.size w w' := by
  go_enter Try.func22, Try.ntmps22
  go_wp2_with (at_builtin; refine wpList_append_bytes rfl _ _ 30 rfl Try.underlying30 info5 w.heap.size _ [] rfl (Own.nil _ _) _ _ _ l rfl rfl (by exact hl) (by simp; omega) (by exact Nat.le_refl _) ?_; intro v' w1 ho hg)
  go_ret
  exact ⟨_, rfl, ho, Own.behind (Own.nil _ _) (Below.refl _ _) hg (Nat.le_refl _)⟩

set_option maxHeartbeats 400000 in
theorem Part_zero (a : Option Addr) (cap : Nat) (w : World) (hn : a = none → cap = 0) (hcm : cap ≤ maxLen) :
    Calls Try.prog 22 #[.slice a 0 cap, .int .i64 0, .int .i64 0] w fun e w' => ∃ v, e = .returned v ∧ Own w' w.heap.size v [] ∧ Below w.heap.size w w' := by
  unfold maxLen at hcm
  cases a with
  | none =>
    obtain rfl := hn rfl
    go_enter Try.func22, Try.ntmps22
    go_wp2_with fail
    go_ret
    exact ⟨_, rfl, Own.nil _ _, Below.refl _ _⟩
  | some x =>
    clear hn
    go_enter Try.func22, Try.ntmps22
    go_wp2_with fail
    go_ret
    exact ⟨_, rfl, Own.nil _ _, Below.refl _ _⟩

/-- A copy of all bytes. -/
theorem Part_any (a : Option Addr) (cap : Nat) (l : List Int) (w : World) (hlen : l.length ≤ 1000000) (hs : Sl w a cap l) :
    Calls Try.prog 22 #[.slice a l.length cap, .int .i64 0, .int .i64 l.length] w fun e w' => ∃ v, e = .returned v ∧ Own w' w.heap.size v l ∧ Below w.heap.size w w' := by
  rcases hs.lies with rfl | ⟨b, off, rfl, _, hc⟩
  · exact Part_zero a cap w hs.none hs.max
  · by_cases h0 : l = []
    · subst h0
      exact Part_zero _ cap w hs.none hs.max
    · exact Part_some b off cap l w hlen (List.length_pos_iff.2 h0) hs.le hs.lies

theorem Zeros_any (n : Nat) (w : World) (hn : n ≤ 1000000) :
    Calls Try.prog 24 #[.int .i64 n] w fun e w' => ∃ v, e = .returned v ∧ Own w' w.heap.size v (List.replicate n 0) ∧ Below w.heap.size w w' := by
  have hmk := run_make_bytes w n (by omega)
  have ho := Own.made w n (by unfold maxLen; omega)
  have HO := hide ho
  clear ho
  go_enter Try.func24, Try.ntmps24
  go_wp2
  go_ret
  exact ⟨.slice (some ⟨_, 0, none⟩) n n, rfl, HO.out, (Below.refl _ _).alloc (Nat.le_refl _) _⟩


set_option maxHeartbeats 1000000 in
/-- Bytes, others in the place of some. -/
theorem With_some (b off cap : Nat) (l : List Int) (a' : Option Addr) (cap' : Nat) (m : List Int) (p : Nat) (w : World) (hlen : l.length ≤ 1000000) (hlen' : m.length ≤ 1000000) (hpos : 0 < l.length) (hfit : p + m.length ≤ l.length)
    (hcap : l.length ≤ cap) (hl : Lies w (some ⟨b, off, none⟩) l) (hl' : Lies w a' m) :
    Calls Try.prog 13 #[.slice (some ⟨b, off, none⟩) l.length cap, .int .i64 p, .slice a' m.length cap'] w fun e w' => ∃ v, e = .returned v ∧ Own w' w.heap.size v (over l p m) ∧ Below w.heap.size w w' := by
  have h1 : Lies w (some ⟨b, off, none⟩) (l.take p) := by have := hl.of_part 0 p; simpa using this
  have e1 : (l.take p).length = p := by simp; omega
  have H1 := hide h1
  have H2 := hide hl'
  have H3 := hide hl
  have HE1 := hide e1
  clear h1 hl hl' e1
  by_cases hrest : p + m.length < l.length
  · go_enter Try.func13, Try.ntmps13
    go_wp2_with (first
      | (at_builtin; refine wpList_append_bytes rfl _ _ 30 rfl Try.underlying30 info5 w.heap.size _ [] rfl (Own.nil _ _) _ _ _ (l.take p) rfl HE1.out.symm (by exact H1.out) (by rw [HE1.out]; simp; omega) (by exact Nat.le_refl _) ?_; intro v1 w1 ho1 hg1; have HB1 := hide (Own.behind (Own.nil _ _) (Below.refl _ _) hg1 (Nat.le_refl _)); clear hg1)
      | (at_builtin; refine wpList_append_bytes rfl _ _ 30 rfl Try.underlying30 info5 w.heap.size _ ([] ++ l.take p) rfl ho1 _ _ _ m rfl rfl (by exact H2.out.below HB1.out) (by rw [List.nil_append, HE1.out]; omega) (by exact HB1.out.size) ?_; intro v2 w2 ho2 hg2; have HB2 := hide (Own.behind ho1 HB1.out hg2 HB1.out.size); clear hg2)
      | (at_builtin; refine wpList_append_bytes rfl _ _ 30 rfl Try.underlying30 info5 w.heap.size _ ([] ++ l.take p ++ m) rfl ho2 _ _ _ ((l.drop (p + m.length)).take (l.length - (p + m.length))) rfl (by simp) (by exact (H3.out.of_part (p + m.length) (l.length - (p + m.length))).below HB2.out) (by simp; omega) (by exact HB2.out.size) ?_; intro v3 w3 ho3 hg3; have HB3 := hide (Own.behind ho2 HB2.out hg3 HB2.out.size); clear hg3))
    go_ret
    refine ⟨_, rfl, ?_, HB3.out⟩
    have e : over l p m = [] ++ l.take p ++ m ++ (l.drop (p + m.length)).take (l.length - (p + m.length)) := by
      have e0 : (l.drop (p + m.length)).take (l.length - (p + m.length)) = l.drop (p + m.length) := List.take_of_length_le (by simp)
      rw [e0]
      simp [over]
    rw [e]
    exact ho3
  · go_enter Try.func13, Try.ntmps13
    go_wp2_with (first
      | (at_builtin; refine wpList_append_bytes rfl _ _ 30 rfl Try.underlying30 info5 w.heap.size _ [] rfl (Own.nil _ _) _ _ _ (l.take p) rfl HE1.out.symm (by exact H1.out) (by rw [HE1.out]; simp; omega) (by exact Nat.le_refl _) ?_; intro v1 w1 ho1 hg1; have HB1 := hide (Own.behind (Own.nil _ _) (Below.refl _ _) hg1 (Nat.le_refl _)); clear hg1)
      | (at_builtin; refine wpList_append_bytes rfl _ _ 30 rfl Try.underlying30 info5 w.heap.size _ ([] ++ l.take p) rfl ho1 _ _ _ m rfl rfl (by exact H2.out.below HB1.out) (by rw [List.nil_append, HE1.out]; omega) (by exact HB1.out.size) ?_; intro v2 w2 ho2 hg2; have HB2 := hide (Own.behind ho1 HB1.out hg2 HB1.out.size); clear hg2)
      | (at_builtin; refine wpList_append_bytes rfl _ _ 30 rfl Try.underlying30 info5 w.heap.size _ ([] ++ l.take p ++ m) rfl ho2 _ _ _ [] rfl (by simp; omega) (by exact Lies.nil _ _) (by simp; omega) (by exact HB2.out.size) ?_; intro v3 w3 ho3 hg3; have HB3 := hide (Own.behind ho2 HB2.out hg3 HB2.out.size); clear hg3))
    all_goals
      go_ret
      refine ⟨_, rfl, ?_, HB3.out⟩
      have e : over l p m = [] ++ l.take p ++ m ++ [] := by
        simp [over]
        omega
      rw [e]
      exact ho3

set_option maxHeartbeats 400000 in
theorem With_zero (a : Option Addr) (cap : Nat) (a' : Option Addr) (cap' : Nat) (w : World) (hn : a = none → cap = 0) (hcm : cap ≤ maxLen) (hn' : a' = none → cap' = 0) :
    Calls Try.prog 13 #[.slice a 0 cap, .int .i64 0, .slice a' 0 cap'] w fun e w' => ∃ v, e = .returned v ∧ Own w' w.heap.size v [] ∧ Below w.heap.size w w' := by
  unfold maxLen at hcm
  cases a with
  | none =>
    obtain rfl := hn rfl
    clear hn
    cases a' with
    | none =>
      obtain rfl := hn' rfl
      go_enter Try.func13, Try.ntmps13
      go_wp2_with fail
      go_ret
      exact ⟨_, rfl, Own.nil _ _, Below.refl _ _⟩
    | some y =>
      clear hn'
      go_enter Try.func13, Try.ntmps13
      go_wp2_with fail
      go_ret
      exact ⟨_, rfl, Own.nil _ _, Below.refl _ _⟩
  | some x =>
    clear hn
    cases a' with
    | none =>
      obtain rfl := hn' rfl
      go_enter Try.func13, Try.ntmps13
      go_wp2_with fail
      all_goals
        go_ret
        exact ⟨_, rfl, Own.nil _ _, Below.refl _ _⟩
    | some y =>
      clear hn'
      go_enter Try.func13, Try.ntmps13
      go_wp2_with fail
      all_goals
        go_ret
        exact ⟨_, rfl, Own.nil _ _, Below.refl _ _⟩

theorem With_any (a : Option Addr) (cap : Nat) (l : List Int) (a' : Option Addr) (cap' : Nat) (m : List Int) (p : Nat) (w : World) (hlen : l.length ≤ 1000000) (hlen' : m.length ≤ 1000000) (hfit : p + m.length ≤ l.length)
    (hs : Sl w a cap l) (hs' : Sl w a' cap' m) :
    Calls Try.prog 13 #[.slice a l.length cap, .int .i64 p, .slice a' m.length cap'] w fun e w' => ∃ v, e = .returned v ∧ Own w' w.heap.size v (over l p m) ∧ Below w.heap.size w w' := by
  by_cases h0 : l = []
  · subst h0
    have hz : p + m.length ≤ 0 := hfit
    have hp : p = 0 := by omega
    have hm : m = [] := List.length_eq_zero_iff.1 (by omega)
    subst hp hm
    exact With_zero a cap a' cap' w hs.none hs.max hs'.none
  · rcases hs.lies with h | ⟨b, off, rfl, _, hc⟩
    · exact absurd h h0
    · exact With_some b off cap l a' cap' m p w hlen hlen' (List.length_pos_iff.2 h0) hfit hs.le hs.lies hs'.lies

theorem over_all (n : Nat) (l : List Int) (h : l.length = n) : over (List.replicate n 0) 0 l = l := by
  subst h
  simp [over]

set_option maxRecDepth 100000 in
set_option maxHeartbeats 1000000 in
theorem Slice_some (b off cap : Nat) (l : List Int) (p n : Nat) (w : World) (hlen : l.length ≤ 1000000) (hcap : l.length ≤ cap) (hl : Lies w (some ⟨b, off, none⟩) l) (hn : 0 < n) (hp : p + n ≤ l.length) :
    Calls Try.prog 97 #[.slice (some ⟨b, off, none⟩) l.length cap, .int .i64 p, .int .i64 n] w fun e w' => ∃ v, e = .returned (.tuple #[v, .bool true]) ∧ Own w' w.heap.size v ((l.drop p).take n) ∧ Below w.heap.size w w' := by
  have hmk := run_make_bytes w n (by omega)
  have hpl : ((l.drop p).take n).length = n := by simp; omega
  obtain ⟨w1, hrun, ho, hg⟩ := run_copy_part (P := Try.prog) (dT := 30) (sT := 30) (ty := 3) Try.underlying30 size5 _ _ w.heap.size 0 n n n n (l.length - p) (cap - p) (some ⟨w.heap.size, 0, none⟩) (some ⟨b, off + p, none⟩)
    ((l.drop p).take n) (List.replicate n 0) (Own.made w n (by unfold maxLen; omega)) (by simp) ((hl.of_part p n).alloc _) (fun _ => rfl) (by rw [hpl]; exact (Nat.min_eq_right (by omega)).symm) (by rw [hpl]; simp)
  rw [hpl] at hrun
  rw [over_all n _ hpl] at ho
  clear hpl
  have HB : Hid (Below w.heap.size w w1) := ((Below.refl w.heap.size w).alloc (Nat.le_refl _) _).grown hg (by simp) (by intro k hk; simp at hk; omega)
  have HO := hide ho
  clear hl ho hg
  go_enter Try.func97, Try.ntmps97
  go_wp2_with (go_at_call 96; refine (there_yes _ _ _ _ _ _ (by unfold maxLen; omega) (by omega) (by omega) (by omega)).mono ?_; rintro e w' ⟨rfl, rfl⟩)
  go_ret2
  exact ⟨_, rfl, HO.out, HB.out⟩

set_option maxRecDepth 100000 in
set_option maxHeartbeats 1000000 in
theorem Slice_zero (a : Option Addr) (cap len : Nat) (p : Nat) (w : World) (hlen : len ≤ 1000000) (hcap : len ≤ cap) (hcm : cap ≤ maxLen) (hn : a = none → cap = 0) (hp : p ≤ len) :
    Calls Try.prog 97 #[.slice a len cap, .int .i64 p, .int .i64 0] w fun e w' => ∃ v, e = .returned (.tuple #[v, .bool true]) ∧ Own w' w.heap.size v [] ∧ Below w.heap.size w w' := by
  have hmk : (Instr.makeSlice 30 (.int .i64 0) (.int .i64 0)).run Try.prog w = .ok (.slice (some ⟨w.heap.size, 0, none⟩) 0 0) (w.alloc (.cells (madeCells #[.int .u8 0] 0) 5)) := run_make_bytes w 0 (by omega)
  have hcp : ∀ (d a : Option Addr) (dCap sLen sCap : Nat) (w : World), (Builtin.copy_ #[30, 30] 3 #[.slice d 0 dCap, .slice a sLen sCap]).run Try.prog w = .ok (goInt 0) w :=
    fun d a dCap sLen sCap w => run_copy_none w 30 30 3 5 d a 0 dCap sLen sCap Try.underlying30 size5 (by simp)
  have HO := hide (Own.made w 0 (by unfold maxLen; omega))
  unfold maxLen at hcm
  cases a with
  | none =>
    obtain rfl := hn rfl
    obtain rfl : len = 0 := by omega
    obtain rfl : p = 0 := by omega
    go_enter Try.func97, Try.ntmps97
    go_wp2_with (go_at_call 96; refine (there_yes _ _ _ _ _ _ (by unfold maxLen; omega) (by omega) (by omega) (by omega)).mono ?_; rintro e w' ⟨rfl, rfl⟩)
    go_ret2
    exact ⟨_, rfl, HO.out, (Below.refl _ _).alloc (Nat.le_refl _) _⟩
  | some x =>
    clear hn
    go_enter Try.func97, Try.ntmps97
    go_wp2_with (go_at_call 96; refine (there_yes _ _ _ _ _ _ (by unfold maxLen; omega) (by omega) (by omega) (by omega)).mono ?_; rintro e w' ⟨rfl, rfl⟩)
    all_goals
      go_ret2
      exact ⟨_, rfl, HO.out, (Below.refl _ _).alloc (Nat.le_refl _) _⟩

theorem Slice_yes (a : Option Addr) (cap : Nat) (l : List Int) (p n : Nat) (w : World) (hlen : l.length ≤ 1000000) (hs : Sl w a cap l) (hp : p + n ≤ l.length) :
    Calls Try.prog 97 #[.slice a l.length cap, .int .i64 p, .int .i64 n] w fun e w' => ∃ v, e = .returned (.tuple #[v, .bool true]) ∧ Own w' w.heap.size v ((l.drop p).take n) ∧ Below w.heap.size w w' := by
  by_cases hn : n = 0
  · subst hn
    exact Slice_zero a cap l.length p w hlen hs.le hs.max hs.none (by omega)
  · rcases hs.lies with h | ⟨b, off, rfl, _, hc⟩
    · subst h
      simp at hp
      omega
    · exact Slice_some b off cap l p n w hlen hs.le hs.lies (by omega) hp

theorem Slice_no (a : Option Addr) (len cap : Nat) (p n : Int) (w : World) (hlen : len ≤ maxLen) (hp : p ≤ 9223372036854775807) (hp2 : -9223372036854775808 ≤ p) (h : ¬ (0 ≤ p ∧ 0 ≤ n ∧ n ≤ len - p)) :
    Calls Try.prog 97 #[.slice a len cap, .int .i64 p, .int .i64 n] w fun e w' => e = .returned (.tuple #[.slice none 0 0, .bool false]) ∧ w' = w := by
  have hno := fun w => there_no a len cap p n w hlen hp hp2 h
  go_enter Try.func97, Try.ntmps97
  go_wp2_with (go_at_call 96; refine (hno _).mono ?_; rintro e w' ⟨rfl, rfl⟩)
  go_ret2
  exact ⟨rfl, rfl⟩

end Go.Proofs.Ytkhknfohcebicaa.Oct
