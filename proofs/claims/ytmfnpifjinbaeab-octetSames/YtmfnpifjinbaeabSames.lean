/- For all two lists of bytes the statement OctetSames answers true and changes nothing that was there: how many first bytes two have in common is what the chapter says. No condition. -/
import Derived.Test.YtmfnpifjinbaeabRows
import Derived.Test.YtmfnpifjinbaeabLow
import Derived.Test.YtmfnpifjinbaeabOpen
namespace Go.Proofs.Ytmfnpifjinbaeab.Oct
open Go.RowKit Go.ChangeShapes Go.WideShapes Go.ChangeAt

/-- How many first bytes are the same. -/
def common : List Int → List Int → Nat
  | x :: a, y :: b => if x = y then common a b + 1 else 0
  | _, _ => 0

theorem common_le : ∀ (a b : List Int), common a b ≤ a.length ∧ common a b ≤ b.length
  | [], _ => by simp [common]
  | _ :: _, [] => by simp [common]
  | x :: a, y :: b => by
    have := common_le a b
    simp only [common]
    split <;> simp <;> omega

theorem common_self : ∀ a : List Int, common a a = a.length
  | [] => rfl
  | x :: a => by simp [common, common_self a]

/-- The first k are the same, and the next ones aren't (or there is none). -/
theorem common_eq : ∀ (a b : List Int) (k : Nat), (∀ i, i < k → a.getD i 0 = b.getD i 0) → k ≤ a.length → k ≤ b.length → (k = a.length ∨ k = b.length ∨ a.getD k 0 ≠ b.getD k 0) → common a b = k
  | [], b, k, _, h, _, _ => by simp at h; subst h; cases b <;> rfl
  | _ :: _, [], k, _, _, h, _ => by simp at h; subst h; rfl
  | x :: a, y :: b, 0, _, _, _, h3 => by
    simp at h3
    simp [common, h3]
  | x :: a, y :: b, k + 1, h0, h1, h2, h3 => by
    have e : x = y := by simpa using h0 0 (by omega)
    rw [common, if_pos e, common_eq a b k (fun i hi => by simpa using h0 (i + 1) (by omega)) (by simpa using h1) (by simpa using h2) (by simpa using h3)]

theorem ret_int {k : IntKind} {a b : Int} (h : a = b) : Ending.returned (.int k a) = .returned (.int k b) := by rw [h]

theorem common_nil (l l' : List Int) (h : l = [] ∨ l' = []) : common l l' = 0 := by
  rcases h with rfl | rfl
  · cases l' <;> rfl
  · cases l <;> rfl

set_option maxHeartbeats 400000 in
theorem SameN_empty (a a' : Option Addr) (cap cap' len len' : Nat) (w : World) (hlen : len ≤ maxLen) (hlen' : len' ≤ maxLen) (h : len = 0 ∨ len' = 0) :
    Calls Try.prog 10 #[.slice a len cap, .slice a' len' cap'] w fun e w' => e = .returned (.int .i64 0) ∧ Below w.heap.size w w' := by
  unfold maxLen at hlen hlen'
  by_cases hc : len' < len
  all_goals
    have hz : len = 0 ∨ len' = 0 := h
    clear h
    go_enter Try.func10, Try.ntmps10
    go_wp2
    refine wp_loop_rounds 1 ?_
    rw [rounds_succ]
    go_wp2
    all_goals first | (exfalso; omega) | (go_ret; exact ⟨ret_int (by omega), Below.refl _ _⟩)

set_option maxHeartbeats 1000000 in
theorem SameN_some (b off b' off' : Nat) (cap cap' : Nat) (l l' : List Int) (w : World) (hlen : l.length ≤ maxLen) (hlen' : l'.length ≤ maxLen)
    (hb : b < w.heap.size) (hb' : b' < w.heap.size)
    (hc : ∀ k, k < l.length → w.cell? ⟨b, off + k, none⟩ = some (.int .u8 (l.getD k 0))) (hc' : ∀ k, k < l'.length → w.cell? ⟨b', off' + k, none⟩ = some (.int .u8 (l'.getD k 0))) :
    Calls Try.prog 10 #[.slice (some ⟨b, off, none⟩) l.length cap, .slice (some ⟨b', off', none⟩) l'.length cap'] w fun e w' => e = .returned (.int .i64 (common l l')) ∧ Below w.heap.size w w' := by
  unfold maxLen at hlen hlen'
  by_cases hmin : l'.length < l.length
  all_goals
    go_enter Try.func10, Try.ntmps10
    go_wp2
    go_loopw [13] (fun i wr => ∃ k : Nat, k ≤ l.length ∧ k ≤ l'.length ∧ i = .int .i64 k ∧ (∀ j, j < k → l.getD j 0 = l'.getD j 0) ∧ Below w.heap.size w wr) (fun i _ => l.length - (intOf i).toNat)
    case atStart => exact ⟨0, by omega, by omega, rfl, by intro j hj; omega, Below.refl _ _⟩
    case round =>
      obtain ⟨k, hk, hk', rfl, hsame, hbel⟩ := hrel
      by_cases hlt : k < l.length ∧ k < l'.length
      · have hlt1 := hlt.1
        have hlt2 := hlt.2
        have hcell := (hbel.cell (p := ⟨b, off + k, none⟩) hb).trans (hc k hlt.1)
        have hcell' := (hbel.cell (p := ⟨b', off' + k, none⟩) hb').trans (hc' k hlt.2)
        have HS : Hid (∀ j, j < k → l.getD j 0 = l'.getD j 0) := hsame
        clear hc hc' hsame
        generalize hx : l.getD k 0 = x at *
        generalize hy : l'.getD k 0 = y at *
        have HX : Hid (l.getD k 0 = x) := hx
        have HY : Hid (l'.getD k 0 = y) := hy
        clear hx hy
        by_cases heq : x = y
        · have hne : (x != y) = false := by simp [heq]
          have HE : Hid (l.getD k 0 = l'.getD k 0) := by rw [Hid, HX.out, HY.out, heq]
          clear heq
          go_wp2
          go_region
          go_wp2
          all_goals
            go_roundw
            case rel => exact ⟨k + 1, by omega, by omega, by go_num, fun j hj => by
              rcases Nat.lt_or_ge j k with h | h
              · exact HS.out j h
              · obtain rfl : j = k := by omega
                exact HE.out, hbel.drew⟩
            case measure => simp [intOf]; omega
        · have hne : (x != y) = true := by simp [heq]
          have HE : Hid (l.getD k 0 ≠ l'.getD k 0) := by rw [Hid, HX.out, HY.out]; exact heq
          clear heq
          go_wp2
          go_region
          go_wp2
          all_goals
            go_ret
            exact ⟨ret_int (by rw [common_eq l l' k HS.out hk hk' (Or.inr (Or.inr HE.out))]), hbel.drew⟩
      · have HS : Hid (∀ j, j < k → l.getD j 0 = l'.getD j 0) := hsame
        clear hc hc' hsame
        go_wp2
        all_goals
          go_ret
          exact ⟨ret_int (by rw [common_eq l l' k HS.out hk hk' (by omega)]; omega), hbel⟩

theorem SameN_any (a a' : Option Addr) (cap cap' : Nat) (l l' : List Int) (w : World) (hlen : l.length ≤ maxLen) (hlen' : l'.length ≤ maxLen) (hl : Lies w a l) (hl' : Lies w a' l') :
    Calls Try.prog 10 #[.slice a l.length cap, .slice a' l'.length cap'] w fun e w' => e = .returned (.int .i64 (common l l')) ∧ Below w.heap.size w w' := by
  rcases hl with h | ⟨b, off, rfl, hb, hc⟩
  · rw [common_nil l l' (Or.inl h)]
    exact SameN_empty a a' cap cap' _ _ w hlen hlen' (Or.inl (by simp [h]))
  · rcases hl' with h | ⟨b', off', rfl, hb', hc'⟩
    · rw [common_nil l l' (Or.inr h)]
      exact SameN_empty _ a' cap cap' _ _ w hlen hlen' (Or.inr (by simp [h]))
    · exact SameN_some b off b' off' cap cap' l l' w hlen hlen' hb hb' hc hc'

set_option maxHeartbeats 400000 in
theorem Common_empty (a a' : Option Addr) (cap cap' len len' : Nat) (w : World) (hlen : len ≤ maxLen) (hlen' : len' ≤ maxLen) (h : len = 0 ∨ len' = 0) :
    Calls Try.prog 11 #[.slice a len cap, .slice a' len' cap'] w fun e w' => e = .returned (.int .i64 0) ∧ Below w.heap.size w w' := by
  unfold maxLen at hlen hlen'
  by_cases hc : len < len'
  all_goals
    have hz : len = 0 ∨ len' = 0 := h
    clear h
    by_cases hp : 0 < len
    all_goals
      go_enter Try.func11, Try.ntmps11
      go_wp2
      refine wp_loop_rounds 1 ?_
      rw [rounds_succ]
      go_wp2
      all_goals first | (exfalso; omega) | (go_ret; exact ⟨ret_int (by omega), Below.refl _ _⟩)

set_option maxHeartbeats 1000000 in
theorem Common_some (b off b' off' : Nat) (cap cap' : Nat) (l l' : List Int) (w : World) (hlen : l.length ≤ maxLen) (hlen' : l'.length ≤ maxLen)
    (hb : b < w.heap.size) (hb' : b' < w.heap.size)
    (hc : ∀ k, k < l.length → w.cell? ⟨b, off + k, none⟩ = some (.int .u8 (l.getD k 0))) (hc' : ∀ k, k < l'.length → w.cell? ⟨b', off' + k, none⟩ = some (.int .u8 (l'.getD k 0))) :
    Calls Try.prog 11 #[.slice (some ⟨b, off, none⟩) l.length cap, .slice (some ⟨b', off', none⟩) l'.length cap'] w fun e w' => e = .returned (.int .i64 (common l l')) ∧ Below w.heap.size w w' := by
  unfold maxLen at hlen hlen'
  go_enter Try.func11, Try.ntmps11
  go_wp2
  go_loopw [5] (fun i wr => ∃ k : Nat, k ≤ l.length ∧ k ≤ l'.length ∧ i = .int .i64 k ∧ (∀ j, j < k → l.getD j 0 = l'.getD j 0) ∧ Below w.heap.size w wr) (fun i _ => l.length - (intOf i).toNat)
  case atStart => exact ⟨0, by omega, by omega, rfl, by intro j hj; omega, Below.refl _ _⟩
  case round =>
    obtain ⟨k, hk, hk', rfl, hsame, hbel⟩ := hrel
    by_cases hlt : k < l.length ∧ k < l'.length
    · have hlt1 := hlt.1
      have hlt2 := hlt.2
      have hcell := (hbel.cell (p := ⟨b, off + k, none⟩) hb).trans (hc k hlt.1)
      have hcell' := (hbel.cell (p := ⟨b', off' + k, none⟩) hb').trans (hc' k hlt.2)
      have HS : Hid (∀ j, j < k → l.getD j 0 = l'.getD j 0) := hsame
      clear hc hc' hsame
      generalize hx : l.getD k 0 = x at *
      generalize hy : l'.getD k 0 = y at *
      have HX : Hid (l.getD k 0 = x) := hx
      have HY : Hid (l'.getD k 0 = y) := hy
      clear hx hy
      by_cases heq : x = y
      · have hne : (x != y) = false := by simp [heq]
        have HE : Hid (l.getD k 0 = l'.getD k 0) := by rw [Hid, HX.out, HY.out, heq]
        clear heq
        go_wp2
        go_region
        go_wp2
        all_goals
          go_roundw
          case rel => exact ⟨k + 1, by omega, by omega, by go_num, fun j hj => by
            rcases Nat.lt_or_ge j k with h | h
            · exact HS.out j h
            · obtain rfl : j = k := by omega
              exact HE.out, hbel.drew⟩
          case measure => simp [intOf]; omega
      · have hne : (x != y) = true := by simp [heq]
        have HE : Hid (l.getD k 0 ≠ l'.getD k 0) := by rw [Hid, HX.out, HY.out]; exact heq
        clear heq
        go_wp2
        go_region
        go_wp2
        all_goals
          go_ret
          exact ⟨ret_int (by rw [common_eq l l' k HS.out hk hk' (Or.inr (Or.inr HE.out))]), hbel.drew⟩
    · have HS : Hid (∀ j, j < k → l.getD j 0 = l'.getD j 0) := hsame
      clear hc hc' hsame
      by_cases hlt1 : k < l.length
      all_goals
        by_cases hmin : l.length < l'.length
        all_goals
          go_wp2
          all_goals
            go_ret
            exact ⟨ret_int (by rw [common_eq l l' k HS.out hk hk' (by omega)]; omega), hbel⟩

theorem Common_any (a a' : Option Addr) (cap cap' : Nat) (l l' : List Int) (w : World) (hlen : l.length ≤ maxLen) (hlen' : l'.length ≤ maxLen) (hl : Lies w a l) (hl' : Lies w a' l') :
    Calls Try.prog 11 #[.slice a l.length cap, .slice a' l'.length cap'] w fun e w' => e = .returned (.int .i64 (common l l')) ∧ Below w.heap.size w w' := by
  rcases hl with h | ⟨b, off, rfl, hb, hc⟩
  · rw [common_nil l l' (Or.inl h)]
    exact Common_empty a a' cap cap' _ _ w hlen hlen' (Or.inl (by simp [h]))
  · rcases hl' with h | ⟨b', off', rfl, hb', hc'⟩
    · rw [common_nil l l' (Or.inr h)]
      exact Common_empty _ a' cap cap' _ _ w hlen hlen' (Or.inr (by simp [h]))
    · exact Common_some b off b' off' cap cap' l l' w hlen hlen' hb hb' hc hc'

set_option maxHeartbeats 1000000 in
theorem sames_walk (a a' : Option Addr) (cap cap' : Nat) (l l' : List Int) (w : World) (hlen : l.length ≤ maxLen) (hlen' : l'.length ≤ maxLen) (hl : Lies w a l) (hl' : Lies w a' l') :
    Calls Try.prog 3 #[.slice a l.length cap, .slice a' l'.length cap'] w fun e w' => e = .returned (.bool true) ∧ Below w.heap.size w w' := by
  have h1 := fun w (hl : Lies w a l) (hl' : Lies w a' l') => SameN_any a a' cap cap' l l' w hlen hlen' hl hl'
  have h2 := fun w (hl : Lies w a l) (hl' : Lies w a' l') => Common_any a a' cap cap' l l' w hlen hlen' hl hl'
  have h3 := fun w (hl : Lies w a l) => SameN_any a a cap cap l l w hlen hlen hl hl
  rw [common_self] at h3
  have HL : Hid (Lies w a l) := hl
  have HL' : Hid (Lies w a' l') := hl'
  clear hl hl'
  unfold maxLen at hlen hlen'
  by_cases hbig : 300 < l.length ∨ 300 < l'.length
  · by_cases hbig1 : 300 < l.length
    all_goals
      go_enter Try.func3, Try.ntmps3
      go_wp2_with (go_at_call 9; refine (low_any _).mono ?_; rintro e w' ⟨rfl, hb⟩)
      go_ret
      exact ⟨rfl, hb⟩
  · have hs1 : ¬ 300 < l.length := by omega
    have hs2 : ¬ 300 < l'.length := by omega
    go_enter Try.func3, Try.ntmps3
    go_wp2_with fail
    refine (low_any _).mono ?_
    rintro e w1 ⟨rfl, hb1⟩
    go_wp2_with fail
    refine (h1 w1 (HL.out.below hb1) (HL'.out.below hb1)).mono ?_
    rintro e w2 ⟨rfl, hb2⟩
    have hb2' := hb1.trans (hb2.mono hb1.size)
    go_wp2_with fail
    refine (h2 w2 (HL.out.below hb2') (HL'.out.below hb2')).mono ?_
    rintro e w3 ⟨rfl, hb3⟩
    have hb3' := hb2'.trans (hb3.mono hb2'.size)
    go_wp2_with fail
    refine (h3 w3 (HL.out.below hb3')).mono ?_
    rintro e w4 ⟨rfl, hb4⟩
    have hb4' := hb3'.trans (hb4.mono hb3'.size)
    go_wp2_with fail
    go_ret
    exact ⟨rfl, hb4'⟩

set_option maxRecDepth 100000 in
theorem octetSames_lifted (os : Os) (started : os.Started) (H : Type) (enc : TypeId × Value → H) :
    ReturnsInHanded {} Try.checked os 3 .any (Rows.octetSamesSpec.pre6 enc Try.prog Try.f3 Rows.octetSamesRow.domain false) (Rows.octetSamesSpec.post enc Try.prog Try.f3 false true false false) := by
  refine returnsInHanded_of_change (C := Try.checked) own started (by kernel_rfl) Try.func3
    (ChangeSpec.witness6 (enc := enc) (C := Try.checked) false ⟨#[], #[.slice none 0 0, .slice none 0 0], []⟩ 8 (by kernel_rfl) (by kernel_rfl) (by kernel_rfl) (by kernel_rfl)) ?_
  intro W base args ds gs before hval0 hW _ _
  have hval : ∀ (j : Nat) t v, Try.f3.params[j]? = some t → args[j]? = some v → Value.okWide Try.prog W .any base t v := hval0
  have hW' := hW
  obtain ⟨p, q, hA0, hV, rfl, hfz, hnd⟩ := hW
  have hA : DataW.TrodAll enc Try.prog W 0 (fun _ => true) true Try.f3.params.toList args.toList ds p := hA0
  rw [Try.params3] at hA hval
  obtain ⟨v0, vs0, d0, ds0, p0, q0, hargs0, rfl, rfl, h0, r0⟩ := trodAll_cons hA
  obtain ⟨v1, vs1, d1, ds1, p1, q1, hargs1, rfl, rfl, h1, r1⟩ := trodAll_cons r0
  obtain ⟨rfl, rfl, rfl⟩ := trodAll_nil r1
  subst hargs1
  obtain rfl : args = #[v0, v1] := by cases args; simp_all
  obtain ⟨rfl, rfl⟩ := trodVars_none hV
  simp only [List.append_nil] at hW'
  have hlt0 : ∀ x ∈ p0, x.block < W.heap.size := fun x hx => by simpa using hW'.lt x (by simp [hx])
  have hlt1 : ∀ x ∈ p1, x.block < W.heap.size := fun x hx => by simpa using hW'.lt x (by simp [hx])
  obtain ⟨a0, cap0, l0, rfl, hc0, hn0, hb0, hl0⟩ := open_bytes (hval 0 22 v0 rfl rfl) h0
  obtain ⟨a1, cap1, l1, rfl, hc1, hn1, hb1, hl1⟩ := open_bytes (hval 1 22 v1 rfl rfl) h1
  clear hA0
  refine (sames_walk a0 a1 cap0 cap1 l0 l1 W hn0 hn1 hl0 hl1).mono fun e W' ⟨he, hb⟩ => ?_
  subst he
  refine ⟨_, rfl, _, _, _, [], (p0 ++ (p1 ++ [])), [], hW', ?_, ?_, rfl, hb.frame _, fun h => by cases h⟩
  · exact trodAll_cons_mk (shut_bool Try.underlying4 _) trodAll_mk0
  · exact trodAll_cons_mk (Below.trod laidOut (by kernel_rfl) (of_decide_eq_true (by kernel_rfl)) h0 hb hlt0) (trodAll_cons_mk (Below.trod laidOut (by kernel_rfl) (of_decide_eq_true (by kernel_rfl)) h1 hb hlt1) (trodAll_mk0))

theorem octetSames_holds : Rows.OctetSamesSaid :=
  OpenClaim.holds_of_wide 3 Try.f3 rfl rfl rfl rfl rfl rfl rfl ⟨rfl, rfl, rfl, rfl, rfl⟩ rfl rfl rfl rfl rfl (by kernel_rfl) Try.func3 (by kernel_rfl)
    (of_decide_eq_true (by kernel_rfl)) (by unfold Func.isWrapper; first | (rw [if_pos (by decide +kernel)]; kernel_rfl) | (rw [if_neg (by decide +kernel)]; exact ⟨rfl, rfl⟩))
    (fun os started H enc _ => octetSames_lifted os started H enc)
end Go.Proofs.Ytmfnpifjinbaeab.Oct
