/- What the calls that make new lists of bytes answer: Part, Zeros, Bytes, With of the reference; Slice and Patch of the program. -/
import Derived.Test.YtmfnpifjinbaeabLow
import Derived.Test.YtmfnpifjinbaeabApp
import Derived.Test.YtmfnpifjinbaeabWr
namespace Go.Proofs.Ytmfnpifjinbaeab.Oct
open Go.RowKit

set_option maxHeartbeats 400000 in
theorem Part_some (b off cap : Nat) (l : List Int) (w : World) (hlen : l.length ≤ 1000000) (hpos : 0 < l.length) (hcap : l.length ≤ cap) (hl : Lies w (some ⟨b, off, none⟩) l) :
    Calls Try.prog 20 #[.slice (some ⟨b, off, none⟩) l.length cap, .int .i64 0, .int .i64 l.length] w fun e w' => ∃ v, e = .returned v ∧ Own w' w.heap.size v l ∧ Below w.heap.size w w' := by
  go_enter Try.func20, Try.ntmps20
  go_wp2_with (at_builtin; refine wpList_append_bytes rfl _ _ 22 rfl Try.underlying22 info5 w.heap.size _ [] rfl (Own.nil _ _) _ _ _ l rfl rfl (by exact hl) (by simp; omega) (by exact Nat.le_refl _) ?_; intro v' w1 ho hg)
  go_ret
  exact ⟨_, rfl, ho, Own.behind (Own.nil _ _) (Below.refl _ _) hg (Nat.le_refl _)⟩

set_option maxHeartbeats 400000 in
theorem Part_zero (a : Option Addr) (cap : Nat) (w : World) (hn : a = none → cap = 0) (hcm : cap ≤ maxLen) :
    Calls Try.prog 20 #[.slice a 0 cap, .int .i64 0, .int .i64 0] w fun e w' => ∃ v, e = .returned v ∧ Own w' w.heap.size v [] ∧ Below w.heap.size w w' := by
  unfold maxLen at hcm
  cases a with
  | none =>
    obtain rfl := hn rfl
    go_enter Try.func20, Try.ntmps20
    go_wp2_with fail
    go_ret
    exact ⟨_, rfl, Own.nil _ _, Below.refl _ _⟩
  | some x =>
    clear hn
    go_enter Try.func20, Try.ntmps20
    go_wp2_with fail
    go_ret
    exact ⟨_, rfl, Own.nil _ _, Below.refl _ _⟩

/-- A copy of all bytes. -/
theorem Part_any (a : Option Addr) (cap : Nat) (l : List Int) (w : World) (hlen : l.length ≤ 1000000) (hs : Sl w a cap l) :
    Calls Try.prog 20 #[.slice a l.length cap, .int .i64 0, .int .i64 l.length] w fun e w' => ∃ v, e = .returned v ∧ Own w' w.heap.size v l ∧ Below w.heap.size w w' := by
  rcases hs.lies with rfl | ⟨b, off, rfl, _, hc⟩
  · exact Part_zero a cap w hs.none hs.max
  · by_cases h0 : l = []
    · subst h0
      exact Part_zero _ cap w hs.none hs.max
    · exact Part_some b off cap l w hlen (List.length_pos_iff.2 h0) hs.le hs.lies





end Go.Proofs.Ytmfnpifjinbaeab.Oct
