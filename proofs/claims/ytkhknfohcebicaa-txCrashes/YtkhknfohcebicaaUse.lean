/- A file is made, and looked at. -/
import Derived.Test.YtkhknfohcebicaaFil
namespace Go.Proofs.Ytkhknfohcebicaa.Oct
open Go.RowKit Go.Deep

theorem box8 (w : World) (f : Fs) : At (w.alloc (.cells f.cells 85)) w.heap.size f := heap_alloc_new w _

set_option maxHeartbeats 1000000 in
set_option maxRecDepth 100000 in
theorem new_file (w : World) (a : Option Addr) (cap : Nat) (l : List Int) (hl : Lies w a l) (hlen : l.length ≤ 4194304) :
    Calls Try.prog 25 #[.slice a l.length cap] w fun e w' => ∃ F v1 v2, e = .returned (.tuple #[.pointer (some ⟨F, 0, none⟩), .int .i64 0]) ∧ Fil w' (fun k => w.heap.size ≤ k) F ⟨v1, v2, .slice none 0 0, 0, 0, 0, 0, false⟩ l l [] ∧ Below w.heap.size w w' := by
  have HL := hide hl
  have hn : ¬ ((4194304 : Int) < (l.length : Int)) := by omega
  have HN : Hid (l.length ≤ 140737488355328) := hide (by omega)
  clear hl hlen
  go_enter Try.func25, Try.ntmps25
  go_wp2_with fail
  refine (clone_any w a cap l HL.out HN.out).mono ?_
  rintro e w1 ⟨v1, rfl, ho1, hb1⟩
  have HO1 := hide ho1
  have HB1 := hide hb1
  obtain ⟨a1, c1, rfl, _, _⟩ := ho1.sl
  clear ho1 hb1
  go_wp2_with fail
  refine (clone_any w1 a cap l (HL.out.below HB1.out) HN.out).mono ?_
  rintro e w2 ⟨v2, rfl, ho2, hb2⟩
  have HO2 := hide ho2
  have HB2 := hide hb2
  obtain ⟨a2, c2, rfl, _, _⟩ := ho2.sl
  clear ho2 hb2
  go_wp2_with fail
  go_ret2
  have hb := box8 w2 ⟨.slice a1 l.length c1, .slice a2 l.length c2, .slice none 0 0, 0, 0, 0, 0, false⟩
  refine ⟨w2.heap.size, .slice a1 l.length c1, .slice a2 l.length c2, rfl, ?_, (HB1.out.trans (HB2.out.mono HB1.out.size)).alloc (Nat.le_trans HB1.out.size HB2.out.size) _⟩
  have hs1 := HB1.out.size
  have hs2 := HB2.out.size
  have o1 := HO1.out.below HB2.out
  have l1 := ownsRow_lt HO1.out
  have l2 := ownsRow_lt HO2.out
  have b1 := HO1.out.base
  have b2 := HO2.out.base
  refine ⟨hb, by omega, (o1.alloc _).mono (Nat.zero_le _), (HO2.out.alloc _).mono (Nat.zero_le _), World.ownsRow_nil _ _ _ _, fun g hg => ?_, fun g hg => ?_, fun g hg => (by cases hg), fun r hr => (by cases hr)⟩
  · have h1 := l1 g hg
    have h2 := b1 g hg
    exact ⟨h2, by omega⟩
  · have h1 := l2 g hg
    have h2 := b2 g hg
    refine ⟨by omega, by omega, fun e => ?_⟩
    have := l1 g e
    omega

set_option maxHeartbeats 1000000 in
set_option maxRecDepth 100000 in
theorem bytes_file (w : World) (X : Nat → Prop) (F : Nat) (f : Fs) (S T : List Int) (R : List Wr) (h : Fil w X F f S T R) (hlen : S.length ≤ 100000000) :
    Calls Try.prog 20 #[.pointer (some ⟨F, 0, none⟩)] w fun e w' => ∃ v, e = .returned v ∧ Own w' w.heap.size v S ∧ Below w.heap.size w w' := by
  have h0 := h.at_.cell.1
  obtain ⟨a, c, e, hs, _⟩ := h.seen.sl
  rw [e] at h0
  have HL := hide hs.lies
  have HN : Hid (S.length ≤ 140737488355328) := hide (by omega)
  clear h hlen hs e
  go_enter Try.func20, Try.ntmps20
  go_wp2_with fail
  refine (clone_any w a c S HL.out HN.out).mono ?_
  rintro e w1 ⟨v1, rfl, ho1, hb1⟩
  go_wp2_with fail
  go_ret
  exact ⟨_, rfl, ho1, hb1⟩

theorem row_form {w : World} {B e s n : Nat} {v : Value} {xs : List Value} (h : w.ownsRow B e s v n xs) : ∃ a cap, v = .slice a n cap ∧ n ≤ cap ∧ cap ≤ maxLen ∧ (0 < n → ∃ g, a = some ⟨g, 0, none⟩ ∧ v.ownBlock = some g) := by
  rcases h.2 with ⟨rfl, rfl⟩ | ⟨g, cap, cur, rfl, _, _, h1, h2, _⟩
  · exact ⟨none, 0, rfl, Nat.le_refl _, by simp, fun h => absurd h (by omega)⟩
  · exact ⟨_, cap, rfl, h1, h2, fun _ => ⟨g, rfl, rfl⟩⟩

set_option maxHeartbeats 1000000 in
set_option maxRecDepth 100000 in
theorem waiting_file (w : World) (X : Nat → Prop) (F : Nat) (f : Fs) (S T : List Int) (R : List Wr) (h : Fil w X F f S T R) :
    Calls Try.prog 42 #[.pointer (some ⟨F, 0, none⟩)] w fun e w' => e = .returned (.int .i64 R.length) ∧ w' = w := by
  have h0 := h.at_.cell.2.2.1
  obtain ⟨a, c, e, _⟩ := row_form h.row
  rw [e] at h0
  clear h e
  go_enter Try.func42, Try.ntmps42
  go_wp2_with fail
  go_ret
  exact ⟨rfl, rfl⟩

end Go.Proofs.Ytkhknfohcebicaa.Oct
