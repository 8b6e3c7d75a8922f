/- Numbers that are written into a part of a row of one's own. -/
import Derived.Test.YtjmajjfknmjifaaDoorPRdWr
import Derived.Test.YtjmajjfknmjifaaDoorPLowLst
namespace Go.Proofs.YtjmajjfknmjifaaDoor.Oct
open Go.RowKit

set_option maxHeartbeats 800000 in
theorem write16_sub (B g cap0 : Nat) (l : List Int) (off n cap p : Nat) (v : Int) (w : World) (hlen : l.length ≤ maxLen) (hn : off + n ≤ l.length) (hp : p + 2 ≤ n)
    (hown : Own w B (.slice (some ⟨g, 0, none⟩) l.length cap0) l) :
    Calls Tryd.prog 66 #[.slice (some ⟨g, off, none⟩) n cap, .int .i64 p, .int .i64 2, .int .u16 v] w fun e w' =>
      e = .returned (.bool true) ∧ Own w' B (.slice (some ⟨g, 0, none⟩) l.length cap0) (putN l (off + p) v 2) ∧ w.grownBy w' (some g) := by
  unfold maxLen at hlen
  go_enter Tryd.func66, Tryd.ntmps66
  go_wp2_with (go_at_call 67; refine (there_yes _ _ _ _ _ _ (by unfold maxLen; omega) (by omega) (by omega) (by omega)).mono ?_; rintro e w' ⟨rfl, rfl⟩)
  go_loopw [16] (fun i wr => ∃ k : Nat, k ≤ 2 ∧ i = .int .i64 k ∧ Own wr B (.slice (some ⟨g, 0, none⟩) l.length cap0) (putN l (off + p) v k) ∧ w'.grownBy wr (some g)) (fun i _ => 2 - (intOf i).toNat)
  case atStart => exact ⟨0, by omega, rfl, hown, World.grownBy.refl _ _⟩
  case round =>
    obtain ⟨k, hk, rfl, ho, hg⟩ := hrel
    by_cases hlt : k < 2
    · have hcell := ho.cell (putN_length l (off + p) v k).symm (off + (p + k)) (by omega)
      have hfr := ho.free (putN_length l (off + p) v k).symm (off + (p + k))
      go_wp2
      go_roundw
      case rel =>
        have hs := ho.set (putN_length l (off + p) v k).symm (off + (p + k)) (v / 2 ^ (8 * k) % 256)
        refine ⟨k + 1, by omega, by go_num, ?_, grown_trans hg hs.2⟩
        show Own _ B _ ((putN l (off + p) v k).set (off + p + k) (v / 2 ^ (8 * k) % 256))
        rw [Nat.add_assoc off p k]
        exact hs.1
      case measure => simp [intOf]; omega
    · have hk4 : k = 2 := by omega
      subst hk4
      go_wp2
      go_ret
      exact ⟨rfl, ho, hg⟩

theorem Put16_sub (B g cap0 : Nat) (l : List Int) (off n cap p : Nat) (v : Int) (w : World) (hlen : l.length ≤ maxLen) (hn : off + n ≤ l.length) (hp : p + 2 ≤ n)
    (hown : Own w B (.slice (some ⟨g, 0, none⟩) l.length cap0) l) :
    Calls Tryd.prog 39 #[.slice (some ⟨g, off, none⟩) n cap, .int .i64 p, .int .u16 v] w fun e w' =>
      e = .returned (.bool true) ∧ Own w' B (.slice (some ⟨g, 0, none⟩) l.length cap0) (putN l (off + p) v 2) ∧ w.grownBy w' (some g) := by
  have hy := write16_sub B g cap0 l off n cap p v w hlen hn hp hown
  go_enter Tryd.func39, Tryd.ntmps39
  go_wp2_with (go_at_call 66; refine hy.mono ?_; rintro e w' ⟨rfl, ho, hg⟩)
  go_ret
  exact ⟨rfl, ho, hg⟩
set_option maxHeartbeats 800000 in
theorem write32_sub (B g cap0 : Nat) (l : List Int) (off n cap p : Nat) (v : Int) (w : World) (hlen : l.length ≤ maxLen) (hn : off + n ≤ l.length) (hp : p + 4 ≤ n)
    (hown : Own w B (.slice (some ⟨g, 0, none⟩) l.length cap0) l) :
    Calls Tryd.prog 65 #[.slice (some ⟨g, off, none⟩) n cap, .int .i64 p, .int .i64 4, .int .u32 v] w fun e w' =>
      e = .returned (.bool true) ∧ Own w' B (.slice (some ⟨g, 0, none⟩) l.length cap0) (putN l (off + p) v 4) ∧ w.grownBy w' (some g) := by
  unfold maxLen at hlen
  go_enter Tryd.func65, Tryd.ntmps65
  go_wp2_with (go_at_call 67; refine (there_yes _ _ _ _ _ _ (by unfold maxLen; omega) (by omega) (by omega) (by omega)).mono ?_; rintro e w' ⟨rfl, rfl⟩)
  go_loopw [16] (fun i wr => ∃ k : Nat, k ≤ 4 ∧ i = .int .i64 k ∧ Own wr B (.slice (some ⟨g, 0, none⟩) l.length cap0) (putN l (off + p) v k) ∧ w'.grownBy wr (some g)) (fun i _ => 4 - (intOf i).toNat)
  case atStart => exact ⟨0, by omega, rfl, hown, World.grownBy.refl _ _⟩
  case round =>
    obtain ⟨k, hk, rfl, ho, hg⟩ := hrel
    by_cases hlt : k < 4
    · have hcell := ho.cell (putN_length l (off + p) v k).symm (off + (p + k)) (by omega)
      have hfr := ho.free (putN_length l (off + p) v k).symm (off + (p + k))
      go_wp2
      go_roundw
      case rel =>
        have hs := ho.set (putN_length l (off + p) v k).symm (off + (p + k)) (v / 2 ^ (8 * k) % 256)
        refine ⟨k + 1, by omega, by go_num, ?_, grown_trans hg hs.2⟩
        show Own _ B _ ((putN l (off + p) v k).set (off + p + k) (v / 2 ^ (8 * k) % 256))
        rw [Nat.add_assoc off p k]
        exact hs.1
      case measure => simp [intOf]; omega
    · have hk4 : k = 4 := by omega
      subst hk4
      go_wp2
      go_ret
      exact ⟨rfl, ho, hg⟩

theorem Put32_sub (B g cap0 : Nat) (l : List Int) (off n cap p : Nat) (v : Int) (w : World) (hlen : l.length ≤ maxLen) (hn : off + n ≤ l.length) (hp : p + 4 ≤ n)
    (hown : Own w B (.slice (some ⟨g, 0, none⟩) l.length cap0) l) :
    Calls Tryd.prog 38 #[.slice (some ⟨g, off, none⟩) n cap, .int .i64 p, .int .u32 v] w fun e w' =>
      e = .returned (.bool true) ∧ Own w' B (.slice (some ⟨g, 0, none⟩) l.length cap0) (putN l (off + p) v 4) ∧ w.grownBy w' (some g) := by
  have hy := write32_sub B g cap0 l off n cap p v w hlen hn hp hown
  go_enter Tryd.func38, Tryd.ntmps38
  go_wp2_with (go_at_call 65; refine hy.mono ?_; rintro e w' ⟨rfl, ho, hg⟩)
  go_ret
  exact ⟨rfl, ho, hg⟩
end Go.Proofs.YtjmajjfknmjifaaDoor.Oct
