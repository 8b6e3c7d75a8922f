/- What a crash leaves. -/
import Derived.Test.YtkhknfohcebicaaWrt
namespace Go.Proofs.Ytkhknfohcebicaa.Oct
open Go.RowKit Go.Deep

/-- Bools lie from the address on. -/
def LiesB (w : World) (a : Option Addr) (l : List Bool) : Prop :=
  l = [] ∨ ∃ b off, a = some ⟨b, off, none⟩ ∧ b < w.heap.size ∧ ∀ k, k < l.length → w.cell? ⟨b, off + k, none⟩ = some (.bool (l.getD k false))

theorem LiesB.below {w w' : World} {a : Option Addr} {l : List Bool} (h : LiesB w a l) (hb : Below w.heap.size w w') : LiesB w' a l := by
  rcases h with rfl | ⟨b, off, rfl, hlt, hc⟩
  · exact Or.inl rfl
  · exact Or.inr ⟨b, off, rfl, Nat.lt_of_lt_of_le hlt hb.size, fun k hk => (hb.cell (p := ⟨b, off + k, none⟩) hlt).trans (hc k hk)⟩

def Wr.none : Wr := ⟨0, .none, [], 0, false⟩

/-- The first so many writes, those that are kept. -/
def left (T : List Int) (R : List Wr) (kp : List Bool) : Nat → List Int
  | 0 => T
  | k + 1 => if kp.getD k false = true then laid (R.getD k Wr.none) (left T R kp k) else left T R kp k

/-- No write ends beyond the most. -/
def Small (R : List Wr) : Prop := ∀ r ∈ R, r.at_ + r.p.length ≤ 4194304

theorem left_le (T : List Int) (R : List Wr) (kp : List Bool) (hT : T.length ≤ 4194304) (hR : Small R) : ∀ k, k ≤ R.length → (left T R kp k).length ≤ 4194304
  | 0, _ => hT
  | k + 1, hk => by
    have ih := left_le T R kp hT hR k (by omega)
    unfold left
    split
    · refine laid_le _ _ _ ih ?_
      have : R.getD k Wr.none = R[k] := by simp [show k < R.length by omega]
      rw [this]
      exact hR _ (List.getElem_mem _)
    · exact ih

theorem flat_cell (R : List Wr) (k j : Nat) (hk : k < R.length) (hj : j < 3) : (R.flatMap Wr.cells)[k * 3 + j]? = (R.getD k Wr.none).cells[j]? := by
  induction R generalizing k with
  | nil => simp at hk
  | cons r R ih =>
    cases k with
    | zero =>
      simp only [List.flatMap_cons, Nat.zero_mul, Nat.zero_add]
      rw [List.getElem?_append_left (by simp [Wr.cells]; omega)]
      simp
    | succ k =>
      simp only [List.flatMap_cons]
      rw [List.getElem?_append_right (by simp [Wr.cells]; omega)]
      have := ih k (by simpa using hk)
      simp only [List.getD_cons_succ]
      rw [← this]
      congr 1
      simp [Wr.cells]
      omega

theorem row_cells {w : World} {g cap : Nat} {R : List Wr} (h : w.ownsRow 0 91 3 (.slice (some ⟨g, 0, none⟩) R.length cap) R.length (R.flatMap Wr.cells)) (k : Nat) (hk : k < R.length) :
    w.cell? ⟨g, k * 3, none⟩ = some (.int .i64 (R.getD k Wr.none).at_) ∧ w.cell? ⟨g, k * 3 + 1, none⟩ = some (.slice (R.getD k Wr.none).a (R.getD k Wr.none).p.length (R.getD k Wr.none).cap) ∧ w.cell? ⟨g, k * 3 + 2, none⟩ = some (.bool (R.getD k Wr.none).cut) := by
  have hc := World.ownsRow.cells (g := g) h rfl
  have e : ∀ j, j < 3 → w.cell? ⟨g, k * 3 + j, none⟩ = (R.getD k Wr.none).cells[j]? := by
    intro j hj
    have hf := flat_cell R k j hk hj
    have h3 : j < (R.getD k Wr.none).cells.length := by simp [Wr.cells]; omega
    rw [List.getElem?_eq_getElem h3] at hf ⊢
    have := hc _ _ hf
    rw [Go.WideShapes.add_plain, Nat.zero_add] at this
    exact this
  exact ⟨e 0 (by omega), e 1 (by omega), e 2 (by omega)⟩

set_option maxHeartbeats 4000000 in
set_option maxRecDepth 100000 in
theorem crash_file (w : World) (X : Nat → Prop) (F : Nat) (f : Fs) (S T : List Int) (R : List Wr) (h : Fil w X F f S T R) (ak : Option Addr) (ck : Nat) (kp : List Bool) (hk : LiesB w ak kp) (hT : T.length ≤ 4194304) (hR : Small R) (hrl : R.length ≤ 10000000) :
    Calls Try.prog 18 #[.pointer (some ⟨F, 0, none⟩), .slice ak kp.length ck] w fun e w' => ∃ v, e = .returned v ∧ Own w' w.heap.size v (left T R kp R.length) ∧ Below w.heap.size w w' := by
  have h1 := h.at_.cell.2.1
  have h2 := h.at_.cell.2.2.1
  obtain ⟨a1, c1, e1, hs1, _⟩ := h.safe.sl
  obtain ⟨a2, c2, e2, hrc, hrm, hrg⟩ := row_form h.row
  rw [e1] at h1
  rw [e2] at h2
  have HRow := hide h.row
  rw [e2] at HRow
  have HRG : Hid (0 < R.length → ∃ g, a2 = some ⟨g, 0, none⟩ ∧ g < w.heap.size) := hide (fun hp => by
    obtain ⟨g, e3, e4⟩ := hrg hp
    exact ⟨g, e3, ownsRow_lt h.row g e4⟩)
  have HF := hide h
  have HL := hide hs1.lies
  have HK := hide hk
  have HLe := hide (left_le T R kp hT hR)
  have HN : Hid (T.length ≤ 140737488355328) := hide (by omega)
  have HR := hide hR
  clear h hk hs1 e1 e2 hrg hT hR
  go_enter Try.func18, Try.ntmps18
  go_wp2_with fail
  refine (clone_any w a1 c1 T HL.out HN.out).mono ?_
  rintro e w1 ⟨v1, rfl, ho1, hb1⟩
  have HO1 := hide ho1
  have HB1 := hide hb1
  have d2 : w1.cell? ⟨F, 2, none⟩ = some (.slice a2 R.length c2) := (hb1.cell (p := ⟨F, 2, none⟩) HF.out.at_.lt).trans h2
  clear ho1 hb1
  go_wp2_with fail
  go_loopw [5, 20] (fun v i wr => ∃ k : Nat, k ≤ R.length ∧ i = .int .i64 k ∧ Own wr w.heap.size v (left T R kp k) ∧ Below w.heap.size w wr) (fun _ i _ => R.length - (intOf i).toNat)
  case atStart => exact ⟨0, by omega, by simp, HO1.out, HB1.out⟩
  case round =>
    obtain ⟨k, hk, rfl, ho, hbel⟩ := hrel
    have HO := hide ho
    have HBel := hide hbel
    clear ho hbel
    by_cases hlt : k < R.length
    · obtain ⟨g, hag, hgl⟩ := HRG.out (by omega)
      subst hag
      obtain ⟨q0, q1, q2⟩ := row_cells HRow.out k hlt
      have r0 := (HBel.out.cell (p := ⟨g, k * 3, none⟩) hgl).trans q0
      have r1 := (HBel.out.cell (p := ⟨g, k * 3 + 1, none⟩) hgl).trans q1
      have r2 := (HBel.out.cell (p := ⟨g, k * 3 + 2, none⟩) hgl).trans q2
      have hk0 : (0 : Int) ≤ (k : Int) := by omega
      have hk1 : (k : Int) < (R.length : Int) := by omega
      have HRm : Hid (R.getD k Wr.none ∈ R) := hide (by have : R.getD k Wr.none = R[k] := by simp [hlt]
                                                        rw [this]; exact List.getElem_mem _)
      have HLS : Hid (left T R kp (k + 1) = if kp.getD k false = true then laid (R.getD k Wr.none) (left T R kp k) else left T R kp k) := hide rfl
      clear q0 q1 q2
      obtain ⟨r, hr⟩ : ∃ r, r = R.getD k Wr.none := ⟨_, rfl⟩
      rw [← hr] at r0 r1 r2 HRm HLS
      have HW5 : Hid (Below wr.heap.size wr (wr.alloc (.cells #[.int .i64 r.at_, .slice r.a r.p.length r.cap, .bool r.cut] 91))) := hide ((Below.refl _ _).alloc (Nat.le_refl _) _)
      clear hr
      by_cases hkk : k < kp.length
      · rcases HK.out with hnil | ⟨bk, ok, hak, hbk, hkc⟩
        · rw [hnil] at hkk; simp at hkk
        subst hak
        have hkc0 := hkc k hkk
        have ckk := (HBel.out.cell (p := ⟨bk, ok + k, none⟩) hbk).trans hkc0
        have hbk2 : bk < wr.heap.size := Nat.lt_of_lt_of_le hbk HBel.out.size
        have hkk1 : (k : Int) < (kp.length : Int) := by omega
        clear hkc hkc0
        cases hb : kp.getD k false with
        | false =>
          rw [hb] at ckk HLS
          have HLF : Hid (left T R kp (k + 1) = left T R kp k) := hide (HLS.out.trans (if_neg (by simp)))
          clear hb HLS
          go_wp2_with fail
          go_roundw
          case rel => exact ⟨k + 1, by omega, by go_num, by rw [HLF.out]; exact HO.out.alloc _, HBel.out.alloc HBel.out.size _⟩
          case measure => simp [intOf]; omega
        | true =>
          rw [hb] at ckk HLS
          have HLF : Hid (left T R kp (k + 1) = laid r (left T R kp k)) := hide (HLS.out.trans (if_pos rfl))
          clear hb HLS
          have hfree := HF.out.ps r HRm.out
          have hsm := HR.out r HRm.out
          have hle := HLe.out k hk
          have hsz := HBel.out.size
          have hC : Calls Try.prog 40 #[.agg #[.int .i64 r.at_, .slice r.a r.p.length r.cap, .bool r.cut], u5] (wr.alloc (.cells #[.int .i64 r.at_, .slice r.a r.p.length r.cap, .bool r.cut] 91)) fun e w' => ∃ v', e = .returned v' ∧ Own w' w.heap.size v' (laid r (left T R kp k)) ∧ Below w.heap.size w w' := by
            have hc := onto_own (wr.alloc (.cells #[.int .i64 r.at_, .slice r.a r.p.length r.cap, .bool r.cut] 91)) w.heap.size u5 (left T R kp k) r (HO.out.alloc _) (by simp; omega) ((hfree.1.below HBel.out).alloc _)
              (fun x hx e => by have h1 := (hfree.2 x hx).1; have h2 := HO.out.base _ e; omega) (by omega) (by omega) (by omega)
            refine hc.mono ?_
            rintro e w' ⟨v', rfl, ho', hg', _⟩
            exact ⟨v', rfl, ho', Own.behind (HO.out.alloc _) (HBel.out.alloc HBel.out.size _) hg' (by simp; omega)⟩
          have HC := hide hC
          clear hfree hsm hle hC
          go_wp2_with fail
          refine HC.out.mono ?_
          rintro e w6 ⟨v6, rfl, ho6, hb6⟩
          have HO6 := hide ho6
          have HB6 := hide hb6
          clear ho6 hb6
          go_wp2_with fail
          go_roundw
          case rel => exact ⟨k + 1, by omega, by go_num, by rw [HLF.out]; exact HO6.out, HB6.out⟩
          case measure => simp [intOf]; omega
      · have hb : kp.getD k false = false := by rw [List.getD_eq_getElem?_getD, List.getElem?_eq_none (by omega)]; rfl
        rw [hb] at HLS
        have HLF : Hid (left T R kp (k + 1) = left T R kp k) := hide (HLS.out.trans (if_neg (by simp)))
        have hkk1 : ¬ ((k : Int) < (kp.length : Int)) := by omega
        clear hb HLS
        go_wp2_with fail
        go_roundw
        case rel => exact ⟨k + 1, by omega, by go_num, by rw [HLF.out]; exact HO.out.alloc _, HBel.out.alloc HBel.out.size _⟩
        case measure => simp [intOf]; omega
    · obtain rfl : k = R.length := by omega
      go_wp2_with fail
      go_ret
      exact ⟨_, rfl, HO.out, HBel.out⟩

end Go.Proofs.Ytkhknfohcebicaa.Oct
