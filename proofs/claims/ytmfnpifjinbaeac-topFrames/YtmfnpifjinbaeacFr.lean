/- Texts laid one behind the other, each with its length and its sum, and what is read of them; contracts of Join of three parts and of pick. -/
import Derived.Test.YtmfnpifjinbaeacTurns
import Derived.Test.YtmfnpifjinbaeacJoin
import Derived.Test.YtmfnpifjinbaeacSames
namespace Go.Proofs.Ytmfnpifjinbaeac.Oct
open Go.RowKit

/-- A text's length and sum as eight bytes. -/
def headL (p : List Int) : List Int := putN (putN (List.replicate 8 0) 0 (p.length : Int) 4) 4 (moreC 0 p : Int) 4

def frameL (Ls : List (List Int)) : Nat → List Int
  | 0 => []
  | k + 1 => frameL Ls k ++ (headL (Ls.getD k []) ++ Ls.getD k [])

theorem headL_length (p : List Int) : (headL p).length = 8 := by
  unfold headL
  rw [putN_length, putN_length]
  simp

theorem headL_low (p : List Int) (i : Nat) (hi : i < 4) : (headL p).getD i 0 = (p.length : Int) / 2 ^ (8 * i) % 256 := by
  unfold headL
  rw [getD_putN _ _ _ _ _ (by rw [putN_length]; simp), if_neg (by omega), getD_putN _ _ _ _ _ (by simp), if_pos (by omega), Nat.sub_zero]

theorem headL_high (p : List Int) (i : Nat) (hi : i < 4) : (headL p).getD (4 + i) 0 = (moreC 0 p : Int) / 2 ^ (8 * i) % 256 := by
  unfold headL
  rw [getD_putN _ _ _ _ _ (by rw [putN_length]; simp), if_pos (by omega), Nat.add_sub_cancel_left]

theorem Byts.headL (p : List Int) : Byts (headL p) := ((Byts.zeros 8).putN 0 _ 4).putN 4 _ 4

theorem Byts.frame {Ls : List (List Int)} (h : Bytss Ls) : ∀ k, Byts (frameL Ls k)
  | 0 => by intro j; simp [frameL]
  | k + 1 => (Byts.frame h k).append ((Byts.headL _).append (h k))

theorem frame_prefix (Ls : List (List Int)) (k : Nat) : ∀ d, ∃ R, frameL Ls (k + d) = frameL Ls k ++ R
  | 0 => ⟨[], by simp⟩
  | d + 1 => by
    obtain ⟨R, h⟩ := frame_prefix Ls k d
    exact ⟨R ++ (headL (Ls.getD (k + d) []) ++ Ls.getD (k + d) []), by rw [← Nat.add_assoc, frameL, h, List.append_assoc]⟩

theorem frame_bound (Ls : List (List Int)) : ∀ k, (∀ r, r < k → (Ls.getD r []).length ≤ 300) → (frameL Ls k).length ≤ 308 * k
  | 0, _ => by simp [frameL]
  | k + 1, h => by
    have h1 := frame_bound Ls k (fun r hr => h r (by omega))
    have h2 := h k (by omega)
    rw [frameL, List.length_append, List.length_append, headL_length]
    omega

/-- What stands in the frames at the k-th one. -/
theorem frame_reads (Ls : List (List Int)) (n k : Nat) (hk : k < n) :
    (frameL Ls (k + 1)).length = (frameL Ls k).length + 8 + (Ls.getD k []).length ∧ (frameL Ls (k + 1)).length ≤ (frameL Ls n).length ∧
    (∀ i, i < 4 → (frameL Ls n).getD ((frameL Ls k).length + i) 0 = ((Ls.getD k []).length : Int) / 2 ^ (8 * i) % 256) ∧
    (∀ i, i < 4 → (frameL Ls n).getD ((frameL Ls k).length + 4 + i) 0 = (moreC 0 (Ls.getD k []) : Int) / 2 ^ (8 * i) % 256) ∧
    ((frameL Ls n).drop ((frameL Ls k).length + 8)).take (Ls.getD k []).length = Ls.getD k [] := by
  obtain ⟨R, hR⟩ := frame_prefix Ls (k + 1) (n - (k + 1))
  rw [show k + 1 + (n - (k + 1)) = n from by omega] at hR
  have h1 : (frameL Ls (k + 1)).length = (frameL Ls k).length + 8 + (Ls.getD k []).length := by
    rw [frameL, List.length_append, List.length_append, headL_length]
    omega
  have e : frameL Ls n = frameL Ls k ++ (headL (Ls.getD k []) ++ (Ls.getD k [] ++ R)) := by
    rw [hR, frameL]
    simp
  have hh := headL_length (Ls.getD k [])
  refine ⟨h1, by rw [hR, List.length_append]; omega, fun i hi => ?_, fun i hi => ?_, ?_⟩
  · rw [e, List.getD_eq_getElem?_getD, List.getElem?_append_right (by omega), Nat.add_sub_cancel_left, List.getElem?_append_left (by omega), ← List.getD_eq_getElem?_getD, headL_low _ i hi]
  · rw [e, List.getD_eq_getElem?_getD, List.getElem?_append_right (by omega), show (frameL Ls k).length + 4 + i - (frameL Ls k).length = 4 + i from by omega, List.getElem?_append_left (by omega), ← List.getD_eq_getElem?_getD, headL_high _ i hi]
  · rw [e, ← List.drop_drop, List.drop_append_of_le_length (Nat.le_refl _), List.drop_length, List.nil_append, ← hh, List.drop_append_of_le_length (Nat.le_refl _), List.drop_length, List.nil_append, List.take_append_of_le_length (Nat.le_refl _), List.take_length]

theorem Join_three (x0 x1 x2 : Option Addr) (n0 n1 n2 c0 c1 c2 : Nat) (l0 l1 l2 : List Int) (w : World) (H : Nat) (hH : w.heap.size = H) (e0 : n0 = l0.length) (e1 : n1 = l1.length) (e2 : n2 = l2.length)
    (hm : l0.length + l1.length + l2.length ≤ 1000000) (s0 : Sl w x0 c0 l0) (s1 : Sl w x1 c1 l1) (s2 : Sl w x2 c2 l2) :
    Calls Try.prog 9 #[.slice (some ⟨H, 0, none⟩) 3 3] (w.alloc (.cells #[.slice x0 n0 c0, .slice x1 n1 c1, .slice x2 n2 c2] 22)) fun e w' =>
      ∃ v, e = .returned v ∧ Own w' w.heap.size v (l0 ++ (l1 ++ l2)) ∧ Below w.heap.size w w' := by
  subst hH e0 e1 e2
  have hal := (Below.refl w.heap.size w).alloc (Nat.le_refl _) (.cells #[.slice x0 l0.length c0, .slice x1 l1.length c1, .slice x2 l2.length c2] 22)
  refine (Join_any (some ⟨w.heap.size, 0, none⟩) 3 [l0, l1, l2] _ (by simp) (by simp; omega) (Or.inr ⟨w.heap.size, 0, rfl, by simp, fun r hr => by
      have hr3 : r < 3 := by simpa using hr
      match r, hr3 with
      | 0, _ => exact ⟨x0, c0, by simp, by simpa using s0.below hal⟩
      | 1, _ => exact ⟨x1, c1, by simp, by simpa using s1.below hal⟩
      | 2, _ => exact ⟨x2, c2, by simp, by simpa using s2.below hal⟩⟩)).mono ?_
  rintro e w' ⟨v, rfl, ho, hb⟩
  refine ⟨v, rfl, ?_, hal.trans (hb.mono (by simp))⟩
  have : ([l0, l1, l2] : List (List Int)).flatten = l0 ++ (l1 ++ l2) := by simp
  rw [this] at ho
  exact ho.mono (by simp)

set_option maxHeartbeats 400000 in
theorem pick_any (p : Int) (d : Int) (n q : Nat) (w : World) (hd : d = n) (hn : n ≤ 1000000) (h0 : 0 < n) (hq : wrap64 ((IntKind.u64.wrap p).tmod (n : Int)) = q) :
    Calls Try.prog 13 #[.int .i64 p, .int .i64 d] w fun e w' => e = .returned (.int .i64 q) ∧ w' = w := by
  subst hd
  have HQ := hide hq
  clear hq
  go_enter Try.func13, Try.ntmps13
  go_wp2_with fail
  go_ret
  exact ⟨ret_int (by rw [HQ.out]), rfl⟩

theorem Put32_own (B g n cap : Nat) (L : List Int) (v p : Int) (q : Nat) (w : World) (hp : p = q) (ho : Own w B (.slice (some ⟨g, 0, none⟩) n cap) L) (hn : n = L.length) (hlen : n ≤ 1000000) (hq : q + 4 ≤ n) (hB : B ≤ g) (hBw : B ≤ w.heap.size) :
    Calls Try.prog 8 #[.slice (some ⟨g, 0, none⟩) n cap, .int .i64 p, .int .u32 v] w fun e w' =>
      e = .returned (.bool true) ∧ Own w' B (.slice (some ⟨g, 0, none⟩) n cap) (putN L q v 4) ∧ Below B w w' := by
  subst hn hp
  refine (Put32_yes B g cap L q v w (by unfold maxLen; omega) hq ho).mono ?_
  rintro e w' ⟨rfl, h1, h2⟩
  exact ⟨rfl, h1, (Below.refl B w).grown h2 hBw (by intro k hk; simp at hk; omega)⟩

theorem U32_at (a : Option Addr) (n cap : Nat) (F : List Int) (x p : Int) (q : Nat) (w : World) (hp : p = q) (hn : n = F.length) (hlen : n ≤ 1000000) (hb : Byts F) (hl : Lies w a F) (hq : q + 4 ≤ n)
    (hx : ∀ i, i < 4 → F.getD (q + i) 0 = x / 2 ^ (8 * i) % 256) (hx0 : 0 ≤ x) (hx1 : x < 4294967296) :
    Calls Try.prog 10 #[.slice a n cap, .int .i64 p] w fun e w' => e = .returned (.tuple #[.int .u32 x, .bool true]) ∧ w' = w := by
  subst hn hp
  have := U32_any a cap F q w (by unfold maxLen; omega) hb hl (by omega) (by omega)
  rw [thereB_yes (by omega) (by omega) (by omega), numAt_yes (by omega), num_of F q x 4 hx, show ((256 : Int) ^ 4) = 4294967296 from by decide, Int.emod_eq_of_lt hx0 hx1] at this
  exact this

/-- The nine digits' sum, at a place where they are laid. -/
theorem digits_sum (w : World) (H : Nat) (hH : w.heap.size + 1 = H) :
    Calls Try.prog 7 #[.slice (some ⟨H, 0, none⟩) 1 1] ((w.alloc (.cells #[.int .u8 49, .int .u8 50, .int .u8 51, .int .u8 52, .int .u8 53, .int .u8 54, .int .u8 55, .int .u8 56, .int .u8 57] 5 (9, 10))).alloc (.cells #[.slice (some ⟨w.heap.size, 0, none⟩) 9 9] 22)) fun e w' =>
      e = .returned (.int .u32 3421780262) ∧ Below w.heap.size w w' := by
  subst hH
  have hsl : Sl (w.alloc (.cells #[.int .u8 49, .int .u8 50, .int .u8 51, .int .u8 52, .int .u8 53, .int .u8 54, .int .u8 55, .int .u8 56, .int .u8 57] 5 (9, 10))) (some ⟨w.heap.size, 0, none⟩) 9 [49, 50, 51, 52, 53, 54, 55, 56, 57] := ⟨by decide, by unfold maxLen; decide, fun h => (by cases h), lies_marked w [49, 50, 51, 52, 53, 54, 55, 56, 57] (9, 10)⟩
  have hal := (Below.refl w.heap.size w).alloc (Nat.le_refl _) (.cells #[.int .u8 49, .int .u8 50, .int .u8 51, .int .u8 52, .int .u8 53, .int .u8 54, .int .u8 55, .int .u8 56, .int .u8 57] 5 (9, 10))
  refine (Sum_one' (some ⟨w.heap.size, 0, none⟩) 9 9 [49, 50, 51, 52, 53, 54, 55, 56, 57] _ (w.heap.size + 1) (by simp) rfl (by unfold maxLen; decide) byts9 hsl).mono ?_
  rw [known_sum]
  rintro e w' ⟨rfl, hb⟩
  exact ⟨rfl, hal.trans (hb.mono (by simp))⟩

theorem Slice_at (a : Option Addr) (n cap : Nat) (F q : List Int) (x y : Int) (s : Nat) (w : World) (hn : n = F.length) (hlen : n ≤ 1000000) (hs : Sl w a cap F) (hx : x = s) (hy : y = q.length) (hp : s + q.length ≤ n) (hq : (F.drop s).take q.length = q) :
    Calls Try.prog 11 #[.slice a n cap, .int .i64 x, .int .i64 y] w fun e w' => ∃ a' cap', e = .returned (.tuple #[.slice a' q.length cap', .bool true]) ∧ Own w' w.heap.size (.slice a' q.length cap') q ∧ Sl w' a' cap' q ∧ (q ≠ [] → ∃ g, a' = some ⟨g, 0, none⟩ ∧ w.heap.size ≤ g ∧ g < w'.heap.size) ∧ Below w.heap.size w w' := by
  subst hn hx hy
  refine (Slice_yes a cap F s q.length w hlen hs hp).mono ?_
  rw [hq]
  rintro e w' ⟨v, rfl, ho, hb⟩
  obtain ⟨a', cap', rfl, hsl, hne⟩ := ho.sl
  exact ⟨a', cap', rfl, ho, hsl, hne, hb⟩

theorem SameN_self (a a' : Option Addr) (cap cap' : Nat) (l : List Int) (w : World) (hlen : l.length ≤ 1000000) (hl : Lies w a l) (hl' : Lies w a' l) :
    Calls Try.prog 12 #[.slice a l.length cap, .slice a' l.length cap'] w fun e w' => e = .returned (.int .i64 l.length) ∧ Below w.heap.size w w' := by
  have := SameN_any a a' cap cap' l l w (by unfold maxLen; omega) (by unfold maxLen; omega) hl hl'
  rwa [common_self] at this
end Go.Proofs.Ytmfnpifjinbaeac.Oct
