/- How many first bytes are the same (as in Sames, without its statement). -/
import Derived.Test.YtpbnjobjjnhplaaDoorPRdLow
import Derived.Test.YtpbnjobjjnhplaaDoorPOpenPts
namespace Go.Proofs.YtpbnjobjjnhplaaDoor.Oct
open Go.RowKit Go.ChangeShapes Go.WideShapes Go.ChangeAt

/-- How many first bytes are the same. -/
def common : List Int → List Int → Nat
  | x :: a, y :: b => if x = y then common a b + 1 else 0
  | _, _ => 0

theorem common_le : ∀ (a b : List Int), common a b ≤ a.length ∧ common a b ≤ b.length
  | [], _ => by simp [common]
  | _ :: _, [] => by simp [common]
  | x :: a, y :: b => by
    have := common_le a b
    simp only [common]
    split <;> simp <;> omega

theorem common_self : ∀ a : List Int, common a a = a.length
  | [] => rfl
  | x :: a => by simp [common, common_self a]

/-- The first k are the same, and the next ones aren't (or there is none). -/
theorem common_eq : ∀ (a b : List Int) (k : Nat), (∀ i, i < k → a.getD i 0 = b.getD i 0) → k ≤ a.length → k ≤ b.length → (k = a.length ∨ k = b.length ∨ a.getD k 0 ≠ b.getD k 0) → common a b = k
  | [], b, k, _, h, _, _ => by simp at h; subst h; cases b <;> rfl
  | _ :: _, [], k, _, _, h, _ => by simp at h; subst h; rfl
  | x :: a, y :: b, 0, _, _, _, h3 => by
    simp at h3
    simp [common, h3]
  | x :: a, y :: b, k + 1, h0, h1, h2, h3 => by
    have e : x = y := by simpa using h0 0 (by omega)
    rw [common, if_pos e, common_eq a b k (fun i hi => by simpa using h0 (i + 1) (by omega)) (by simpa using h1) (by simpa using h2) (by simpa using h3)]

theorem ret_intG {k : IntKind} {a b : Int} (h : a = b) : Ending.returned (.int k a) = .returned (.int k b) := by rw [h]

theorem common_nil (l l' : List Int) (h : l = [] ∨ l' = []) : common l l' = 0 := by
  rcases h with rfl | rfl
  · cases l' <;> rfl
  · cases l <;> rfl

set_option maxHeartbeats 400000 in
theorem SameN_empty (a a' : Option Addr) (cap cap' len len' : Nat) (w : World) (hlen : len ≤ maxLen) (hlen' : len' ≤ maxLen) (h : len = 0 ∨ len' = 0) :
    Calls Tryd.prog 77 #[.slice a len cap, .slice a' len' cap'] w fun e w' => e = .returned (.int .i64 0) ∧ Below w.heap.size w w' := by
  unfold maxLen at hlen hlen'
  by_cases hc : len' < len
  all_goals
    have hz : len = 0 ∨ len' = 0 := h
    clear h
    go_enter Tryd.func77, Tryd.ntmps77
    go_wp2
    refine wp_loop_rounds 1 ?_
    rw [rounds_succ]
    go_wp2
    all_goals first | (exfalso; omega) | (go_ret; exact ⟨ret_intG (by omega), Below.refl _ _⟩)

set_option maxHeartbeats 1000000 in
theorem SameN_some (b off b' off' : Nat) (cap cap' : Nat) (l l' : List Int) (w : World) (hlen : l.length ≤ maxLen) (hlen' : l'.length ≤ maxLen)
    (hb : b < w.heap.size) (hb' : b' < w.heap.size)
    (hc : ∀ k, k < l.length → w.cell? ⟨b, off + k, none⟩ = some (.int .u8 (l.getD k 0))) (hc' : ∀ k, k < l'.length → w.cell? ⟨b', off' + k, none⟩ = some (.int .u8 (l'.getD k 0))) :
    Calls Tryd.prog 77 #[.slice (some ⟨b, off, none⟩) l.length cap, .slice (some ⟨b', off', none⟩) l'.length cap'] w fun e w' => e = .returned (.int .i64 (common l l')) ∧ Below w.heap.size w w' := by
  unfold maxLen at hlen hlen'
  by_cases hmin : l'.length < l.length
  all_goals
    go_enter Tryd.func77, Tryd.ntmps77
    go_wp2
    go_loopw [13] (fun i wr => ∃ k : Nat, k ≤ l.length ∧ k ≤ l'.length ∧ i = .int .i64 k ∧ (∀ j, j < k → l.getD j 0 = l'.getD j 0) ∧ Below w.heap.size w wr) (fun i _ => l.length - (intOf i).toNat)
    case atStart => exact ⟨0, by omega, by omega, rfl, by intro j hj; omega, Below.refl _ _⟩
    case round =>
      obtain ⟨k, hk, hk', rfl, hsame, hbel⟩ := hrel
      by_cases hlt : k < l.length ∧ k < l'.length
      · have hlt1 := hlt.1
        have hlt2 := hlt.2
        have hcell := (hbel.cell (p := ⟨b, off + k, none⟩) hb).trans (hc k hlt.1)
        have hcell' := (hbel.cell (p := ⟨b', off' + k, none⟩) hb').trans (hc' k hlt.2)
        have HS : Hid (∀ j, j < k → l.getD j 0 = l'.getD j 0) := hsame
        clear hc hc' hsame
        generalize hx : l.getD k 0 = x at *
        generalize hy : l'.getD k 0 = y at *
        have HX : Hid (l.getD k 0 = x) := hx
        have HY : Hid (l'.getD k 0 = y) := hy
        clear hx hy
        by_cases heq : x = y
        · have hne : (x != y) = false := by simp [heq]
          have HE : Hid (l.getD k 0 = l'.getD k 0) := by rw [Hid, HX.out, HY.out, heq]
          clear heq
          go_wp2
          go_region
          go_wp2
          all_goals
            go_roundw
            case rel => exact ⟨k + 1, by omega, by omega, by go_num, fun j hj => by
              rcases Nat.lt_or_ge j k with h | h
              · exact HS.out j h
              · obtain rfl : j = k := by omega
                exact HE.out, hbel.drew⟩
            case measure => simp [intOf]; omega
        · have hne : (x != y) = true := by simp [heq]
          have HE : Hid (l.getD k 0 ≠ l'.getD k 0) := by rw [Hid, HX.out, HY.out]; exact heq
          clear heq
          go_wp2
          go_region
          go_wp2
          all_goals
            go_ret
            exact ⟨ret_intG (by rw [common_eq l l' k HS.out hk hk' (Or.inr (Or.inr HE.out))]), hbel.drew⟩
      · have HS : Hid (∀ j, j < k → l.getD j 0 = l'.getD j 0) := hsame
        clear hc hc' hsame
        go_wp2
        all_goals
          go_ret
          exact ⟨ret_intG (by rw [common_eq l l' k HS.out hk hk' (by omega)]; omega), hbel⟩

theorem SameN_any (a a' : Option Addr) (cap cap' : Nat) (l l' : List Int) (w : World) (hlen : l.length ≤ maxLen) (hlen' : l'.length ≤ maxLen) (hl : Lies w a l) (hl' : Lies w a' l') :
    Calls Tryd.prog 77 #[.slice a l.length cap, .slice a' l'.length cap'] w fun e w' => e = .returned (.int .i64 (common l l')) ∧ Below w.heap.size w w' := by
  rcases hl with h | ⟨b, off, rfl, hb, hc⟩
  · rw [common_nil l l' (Or.inl h)]
    exact SameN_empty a a' cap cap' _ _ w hlen hlen' (Or.inl (by simp [h]))
  · rcases hl' with h | ⟨b', off', rfl, hb', hc'⟩
    · rw [common_nil l l' (Or.inr h)]
      exact SameN_empty _ a' cap cap' _ _ w hlen hlen' (Or.inr (by simp [h]))
    · exact SameN_some b off b' off' cap cap' l l' w hlen hlen' hb hb' hc hc'

/-- Do eight bytes begin the others? -/
theorem common8 (l m : List Int) (hm : m.length = 8) (hl : 8 ≤ l.length) : common l m = 8 ↔ l.take 8 = m := by
  constructor
  · intro h
    refine List.ext_getElem (by rw [List.length_take]; omega) fun i h1 h2 => ?_
    have hp : ∀ (a b : List Int) (k : Nat), k ≤ common a b → ∀ j, j < k → a[j]? = b[j]? := by
      intro a
      induction a with
      | nil => intro b k hk j hj; simp [common] at hk; omega
      | cons x a ih =>
        intro b k hk j hj
        cases b with
        | nil => simp [common] at hk; omega
        | cons y b =>
          simp only [common] at hk
          split at hk
          · rename_i e
            cases j with
            | zero => simp [e]
            | succ j =>
              simp only [List.getElem?_cons_succ]
              exact ih b (k - 1) (by omega) j (by omega)
          · omega
    have := hp l m 8 (by omega) i (by omega)
    rw [List.getElem?_eq_getElem (by omega), List.getElem?_eq_getElem h2] at this
    simpa using this
  · intro h
    refine common_eq l m 8 (fun i hi => ?_) hl (by omega) (Or.inr (Or.inl hm.symm))
    rw [← h, List.getD_eq_getElem?_getD, List.getD_eq_getElem?_getD, List.getElem?_take, if_pos hi]
end Go.Proofs.YtpbnjobjjnhplaaDoor.Oct
