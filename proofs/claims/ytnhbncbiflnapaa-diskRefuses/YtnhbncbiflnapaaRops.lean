/- What the reference's file shows; its operations. -/
import Derived.Test.YtnhbncbiflnapaaRfil
namespace Go.Proofs.Ytnhbncbiflnapaa.Oct
open Go.RowKit Go.Deep

def RW.nil : RW := ⟨false, 0, none, [], 0⟩

theorem rflat_cell (R : List RW) (k j : Nat) (hk : k < R.length) (hj : j < 3) : (R.flatMap RW.cells)[k * 3 + j]? = (R.getD k RW.nil).cells[j]? := by
  induction R generalizing k with
  | nil => simp at hk
  | cons r R ih =>
    cases k with
    | zero =>
      simp only [List.flatMap_cons, Nat.zero_mul, Nat.zero_add]
      rw [List.getElem?_append_left (by simp [RW.cells]; omega)]
      simp
    | succ k =>
      simp only [List.flatMap_cons]
      rw [List.getElem?_append_right (by simp [RW.cells]; omega)]
      have := ih k (by simpa using hk)
      simp only [List.getD_cons_succ]
      rw [← this]
      congr 1
      simp [RW.cells]
      omega

theorem rrow_cells {w : World} {g cap : Nat} {R : List RW} (h : w.ownsRow 0 68 3 (.slice (some ⟨g, 0, none⟩) R.length cap) R.length (R.flatMap RW.cells)) (k : Nat) (hk : k < R.length) :
    w.cell? ⟨g, k * 3, none⟩ = some (.bool (R.getD k RW.nil).cut) ∧ w.cell? ⟨g, k * 3 + 1, none⟩ = some (.int .i64 (R.getD k RW.nil).at_) ∧ w.cell? ⟨g, k * 3 + 2, none⟩ = some (.slice (R.getD k RW.nil).a (R.getD k RW.nil).p.length (R.getD k RW.nil).cap) := by
  have hc := World.ownsRow.cells (g := g) h rfl
  have e : ∀ j, j < 3 → w.cell? ⟨g, k * 3 + j, none⟩ = (R.getD k RW.nil).cells[j]? := by
    intro j hj
    have hf := rflat_cell R k j hk hj
    have h3 : j < (R.getD k RW.nil).cells.length := by simp [RW.cells]; omega
    rw [List.getElem?_eq_getElem h3] at hf ⊢
    have := hc _ _ hf
    rw [Go.WideShapes.add_plain, Nat.zero_add] at this
    exact this
  exact ⟨e 0 (by omega), e 1 (by omega), e 2 (by omega)⟩

/-- Bytes that are seen: they are old ones, or the call's. -/
def Shown (w w' : World) (Z : Nat → Prop) (M : Nat) (vr : Value) (a : Option Addr) (c : Nat) (l : List Int) : Prop :=
  Sl w' a c l ∧ l.length ≤ 4194304 ∧ (l ≠ [] → ∀ x, a = some x → (Z x.block ∧ x.block ≠ M ∧ vr.ownBlock ≠ some x.block) ∨ (w.heap.size ≤ x.block ∧ x.block < w'.heap.size))

set_option maxHeartbeats 2000000 in
set_option maxRecDepth 100000 in
theorem rseen (w : World) (Y Z : Nat → Prop) (M : Nat) (m : Rf) (s : List Int) (R : List RW) (n : Nat) (h : Ref w Y Z M m s R n) (hn : n ≤ 2000000) :
    Calls Try.prog 16 #[.pointer (some ⟨M, 0, none⟩)] w fun e w' => ∃ a c l, e = .returned (.slice a (List.length l) c) ∧ Shown w w' Z M m.vr a c l ∧ Below w.heap.size w w' := by
  have c0 := h.at_.cell.1
  have c1 := h.at_.cell.2.1
  obtain ⟨a0, p0, e0, hs0, ha0⟩ := h.safe
  obtain ⟨a2, k2, e2, hrc, hrm, hrg⟩ := row_form h.row
  rw [e0] at c0
  rw [e2] at c1
  have HR := hide h
  have HE2 := hide e2
  have hrl := h.rl
  have HRG : Hid (0 < R.length → ∃ g, a2 = some ⟨g, 0, none⟩ ∧ g < w.heap.size) := hide (fun hp => by
    obtain ⟨g, e3, e4⟩ := hrg hp
    exact ⟨g, e3, ownsRow_lt h.row g e4⟩)
  have HMl := hide h.at_.lt
  have HI : Hid (∃ (k : Nat) (a : Option Addr) (c : Nat) (l : List Int), k ≤ R.length ∧ Value.slice a0 s.length p0 = .slice a l.length c ∧ Value.int .i64 0 = .int .i64 k ∧ Shown w w Z M m.vr a c l ∧ Below w.heap.size w w) :=
    hide ⟨0, a0, p0, s, by omega, rfl, by simp, ⟨hs0, h.sl, fun hl x hx => Or.inl (ha0 hl x hx)⟩, Below.refl _ _⟩
  clear h e0 e2 hrg hs0 ha0
  go_enter Try.func16, Try.ntmps16
  go_wp2_with fail
  go_loopw [3, 4] (fun v i wr => ∃ (k : Nat) (a : Option Addr) (c : Nat) (l : List Int), k ≤ R.length ∧ v = .slice a l.length c ∧ i = .int .i64 k ∧ Shown w wr Z M m.vr a c l ∧ Below w.heap.size w wr) (fun _ i _ => R.length - (intOf i).toNat)
  case atStart => exact HI.out
  case round =>
    obtain ⟨k, a, c, l, hk, rfl, rfl, hsh, hbel⟩ := hrel
    clear HI
    have HSh := hide hsh
    have HBel := hide hbel
    have d1 := (hbel.cell (p := ⟨M, 1, none⟩) HMl.out).trans c1
    clear hsh
    by_cases hlt : k < R.length
    · obtain ⟨g, hag, hgl⟩ := HRG.out (by omega)
      subst hag
      have hrow := HR.out.row
      rw [HE2.out] at hrow
      obtain ⟨q0, q1, q2⟩ := rrow_cells hrow k hlt
      have r0 := (hbel.cell (p := ⟨g, k * 3, none⟩) hgl).trans q0
      have r1 := (hbel.cell (p := ⟨g, k * 3 + 1, none⟩) hgl).trans q1
      have r2 := (hbel.cell (p := ⟨g, k * 3 + 2, none⟩) hgl).trans q2
      have hk0 : (0 : Int) ≤ (k : Int) := by omega
      have hk1 : (k : Int) < (R.length : Int) := by omega
      have HRm : Hid (R.getD k RW.nil ∈ R) := hide (by have : R.getD k RW.nil = R[k] := by simp [hlt]
                                                       rw [this]; exact List.getElem_mem _)
      obtain ⟨r, hr⟩ : ∃ r, r = R.getD k RW.nil := ⟨_, rfl⟩
      rw [← hr] at r0 r1 r2 HRm
      clear hr hrow q0 q1 q2 hbel
      obtain ⟨p1, p2, p3⟩ := HR.out.ps r HRm.out
      have HC := hide (lay_any wr a c l HSh.out.1.lies HSh.out.2.1 r (p1.below HBel.out) p3)
      clear p1 p2 p3
      go_wp2_with fail
      refine HC.out.mono ?_
      rintro e w3 ⟨a3, c3, l3, rfl, hf3, hb3⟩
      have HF3 := hide hf3
      have HB3 := hide hb3
      clear hf3 hb3
      go_wp2_with fail
      refine ⟨⟨k + 1, a3, c3, l3, by omega, rfl, by go_num, ⟨HF3.out.1, HF3.out.2.1, fun _ x hx => Or.inr ?_⟩, HBel.out.trans (HB3.out.mono HBel.out.size)⟩, ?_⟩
      · have h1 := HF3.out.2.2 x hx
        have h2 := HBel.out.size
        omega
      · simp [intOf]; omega
    · obtain rfl : k = R.length := by omega
      clear hbel
      go_wp2_with fail
      go_ret
      exact ⟨a, c, l, rfl, HSh.out, HBel.out⟩

/-- Bytes, and a number. -/
def Told (e : Ending) (w : World) : Prop := ∃ a c l z, e = .returned (.tuple #[.slice a (List.length l) c, .int .i64 z]) ∧ Lies w a l

set_option maxHeartbeats 2000000 in
set_option maxRecDepth 100000 in
theorem rread (w : World) (Y Z : Nat → Prop) (M : Nat) (m : Rf) (s : List Int) (R : List RW) (n : Nat) (h : Ref w Y Z M m s R n) (hn : n ≤ 1000000) (at_ k : Int) (hat : -9223372036854775808 ≤ at_ ∧ at_ ≤ 9223372036854775807) (hk : -9223372036854775808 ≤ k ∧ k ≤ 9223372036854775807) :
    Calls Try.prog 30 #[.pointer (some ⟨M, 0, none⟩), .int .i64 at_, .int .i64 k] w fun e w' => Told e w' ∧ RDid w w' Y Z M (n + 1) := by
  have HR := hide h
  clear h
  go_enter Try.func30, Try.ntmps30
  go_wp2_with fail
  refine (rask w Y Z M m s R n HR.out hn).mono ?_
  rintro e w1 ⟨rfl, hr1, hc1⟩
  have HR1 := hide hr1
  have HC1 : Hid (Chg Y w w1) := hide (hc1.mono (fun i _ e => by subst e; exact HR.out.yM))
  clear hr1 hc1
  go_wp2_with fail
  refine (rseen w1 Y Z M _ s R (n + 1) HR1.out (by omega)).mono ?_
  rintro e w2 ⟨a2, c2, l2, rfl, hs2, hb2⟩
  have HD : Hid (RDid w w2 Y Z M (n + 1)) := hide ⟨_, s, R, (HR1.out.chg (X := fun _ => False) (Chg.of_below hb2) (fun _ h => h.elim)).mono (fun _ h => Or.inl h) (fun _ h => Or.inl h), HC1.out.trans (Chg.of_below hb2)⟩
  have HL := hide hs2.1.lies
  have hle := hs2.1.le
  have hmx := hs2.1.max
  have hll := hs2.2.1
  clear hs2 hb2
  by_cases hok : 0 ≤ at_ ∧ 0 ≤ k ∧ k ≤ (l2.length : Int) - at_
  · obtain ⟨t, rfl⟩ : ∃ t : Nat, at_ = t := ⟨at_.toNat, by omega⟩
    obtain ⟨j, rfl⟩ : ∃ j : Nat, k = j := ⟨k.toNat, by omega⟩
    have g1 : ¬ ((t : Int) < 0) := by omega
    have g2 : ¬ ((j : Int) < 0) := by omega
    have g3 : ¬ ((l2.length : Int) < (t : Int)) := by omega
    have g4 : ¬ ((l2.length : Int) - (t : Int) < (j : Int)) := by omega
    have g5 : wrap64 ((l2.length : Int) - (t : Int)) = (l2.length : Int) - (t : Int) := by unfold wrap64; omega
    have g6 : wrap64 ((t : Int) + (j : Int)) = ((t + j : Nat) : Int) := by unfold wrap64; omega
    have g7 : t + j ≤ l2.length := by omega
    have hlen : ((l2.drop t).take j).length = j := by simp; omega
    have HLm := hide (lies_map HL.out t j g7)
    have HLen := hide hlen
    clear hok hlen
    go_wp2_with fail
    · go_ret2
      exact ⟨⟨a2, 0, [], 0, by rw [show j = 0 by omega]; rfl, Lies.nil _ _⟩, HD.out⟩
    · go_ret2
      exact ⟨⟨_, _, (l2.drop t).take j, 0, by rw [HLen.out]; rfl, HLm.out⟩, HD.out⟩
  · by_cases g1 : at_ < 0
    · go_wp2_with fail
      go_ret2
      exact ⟨⟨none, 0, [], 4, rfl, Lies.nil _ _⟩, HD.out⟩
    · by_cases g2 : k < 0
      · go_wp2_with fail
        go_ret2
        exact ⟨⟨none, 0, [], 4, rfl, Lies.nil _ _⟩, HD.out⟩
      · have g5 : wrap64 ((l2.length : Int) - at_) = (l2.length : Int) - at_ := by unfold wrap64; omega
        by_cases g3 : (l2.length : Int) < at_
        · go_wp2_with fail
          go_ret2
          exact ⟨⟨none, 0, [], 4, rfl, Lies.nil _ _⟩, HD.out⟩
        · have g4 : (l2.length : Int) - at_ < k := by omega
          go_wp2_with fail
          go_ret2
          exact ⟨⟨none, 0, [], 4, rfl, Lies.nil _ _⟩, HD.out⟩

end Go.Proofs.Ytnhbncbiflnapaa.Oct
