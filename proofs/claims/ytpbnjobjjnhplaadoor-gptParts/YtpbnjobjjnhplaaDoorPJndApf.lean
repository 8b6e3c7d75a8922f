/- Apart, by the reference. -/
import Derived.Test.YtpbnjobjjnhplaaDoorPSam
import Derived.Test.YtpbnjobjjnhplaaDoorPApr
import Derived.Test.YtpbnjobjjnhplaaDoorPBth
namespace Go.Proofs.YtpbnjobjjnhplaaDoor.Oct
open Go.RowKit

theorem Normed.one {L N M : List (Int × Int)} (h : Normed L N) (hf : Form M) (hs : ∀ x, InE M x ↔ InE L x) : N = M :=
  Form.unique _ _ h.form hf fun x => (h.set x).trans (hs x).symm

theorem lies_new1 (w : World) (x1 x2 : Int) : LiesE (w.alloc (.cells #[.int .i64 x1, .int .i64 x2] 59)) (some ⟨w.heap.size, 0, none⟩) [(x1, x2)] := by
  have h : (w.alloc (.cells #[.int .i64 x1, .int .i64 x2] 59)).heap[w.heap.size]? = some (.cells #[.int .i64 x1, .int .i64 x2] 59) := heap_alloc_new w _
  refine Or.inr ⟨w.heap.size, 0, rfl, by simp, fun k hk => ?_⟩
  simp only [World.cell?, h]
  match k, hk with
  | 0, _ => exact ⟨rfl, rfl⟩

theorem lies_new2 (w : World) (x1 x2 y1 y2 : Int) : LiesE (w.alloc (.cells #[.int .i64 x1, .int .i64 x2, .int .i64 y1, .int .i64 y2] 59)) (some ⟨w.heap.size, 0, none⟩) [(x1, x2), (y1, y2)] := by
  have h : (w.alloc (.cells #[.int .i64 x1, .int .i64 x2, .int .i64 y1, .int .i64 y2] 59)).heap[w.heap.size]? = some (.cells #[.int .i64 x1, .int .i64 x2, .int .i64 y1, .int .i64 y2] 59) := heap_alloc_new w _
  refine Or.inr ⟨w.heap.size, 0, rfl, by simp, fun k hk => ?_⟩
  simp only [World.cell?, h]
  match k, hk with
  | 0, _ => exact ⟨rfl, rfl⟩
  | 1, _ => exact ⟨rfl, rfl⟩

theorem lies_new3 (w : World) (x1 x2 y1 y2 z1 z2 : Int) : LiesE (w.alloc (.cells #[.int .i64 x1, .int .i64 x2, .int .i64 y1, .int .i64 y2, .int .i64 z1, .int .i64 z2] 59)) (some ⟨w.heap.size, 0, none⟩) [(x1, x2), (y1, y2), (z1, z2)] := by
  have h : (w.alloc (.cells #[.int .i64 x1, .int .i64 x2, .int .i64 y1, .int .i64 y2, .int .i64 z1, .int .i64 z2] 59)).heap[w.heap.size]? = some (.cells #[.int .i64 x1, .int .i64 x2, .int .i64 y1, .int .i64 y2, .int .i64 z1, .int .i64 z2] 59) := heap_alloc_new w _
  refine Or.inr ⟨w.heap.size, 0, rfl, by simp, fun k hk => ?_⟩
  simp only [World.cell?, h]
  match k, hk with
  | 0, _ => exact ⟨rfl, rfl⟩
  | 1, _ => exact ⟨rfl, rfl⟩
  | 2, _ => exact ⟨rfl, rfl⟩

end Go.Proofs.YtpbnjobjjnhplaaDoor.Oct

namespace Go.Proofs.YtpbnjobjjnhplaaDoor.Oct
open Go.RowKit

theorem off_iff (p q : Int × Int) : Off p q ↔ ¬ ∃ x, kind0 [q] [p] x := by
  constructor
  · rintro h ⟨x, ⟨q', hq, h1, h2⟩, p', hp, h3, h4⟩
    simp only [List.mem_singleton] at hq hp
    subst hq hp
    rcases h (by omega) (by omega) with h5 | h5 <;> omega
  · intro h h1 h2
    by_cases h3 : p.2 ≤ q.1
    · exact Or.inl h3
    by_cases h4 : q.2 ≤ p.1
    · exact Or.inr h4
    exact absurd ⟨max p.1 q.1, ⟨q, by simp, by omega, by omega⟩, p, by simp, by omega, by omega⟩ h

theorem form_nil {N : List (Int × Int)} {P : Int → Prop} (h : Form N ∧ ∀ x, InE N x ↔ P x) : N.length = 0 ↔ ¬ ∃ x, P x := by
  constructor
  · rintro h0 ⟨x, hx⟩
    have : N = [] := List.length_eq_zero_iff.1 h0
    subst this
    exact InE.nil x ((h.2 x).2 hx)
  · intro hn
    cases N with
    | nil => rfl
    | cons p N => exact absurd ⟨p.1, (h.2 p.1).1 ⟨p, by simp, by omega, h.1.1 p (by simp)⟩⟩ hn

/-- All pairs among the first so many. -/
def OffTo (L : List (Int × Int)) (i k : Nat) : Prop := (∀ i' k', i' < i → k' < i' → Off (L.getD k' (0, 0)) (L.getD i' (0, 0))) ∧ ∀ k', k' < k → Off (L.getD k' (0, 0)) (L.getD i (0, 0))

theorem off_all (L : List (Int × Int)) : OffTo L L.length 0 ↔ L.Pairwise Off := by
  rw [List.pairwise_iff_getElem]
  constructor
  · intro h i j hi hj hij
    have := h.1 j i hj hij
    simpa [hi, hj] using this
  · intro h
    refine ⟨fun i' k' h1 h2 => ?_, fun k' h1 => by omega⟩
    have := h k' i' (by omega) h1 h2
    simpa [show k' < L.length by omega, h1] using this

set_option maxHeartbeats 4000000 in
set_option maxRecDepth 100000 in
theorem refapart_any (w : World) (a : Option Addr) (c : Nat) (L : List (Int × Int)) (h : LiesE w a L) (hl : L.length ≤ 1000000) :
    Calls Tryd.prog 32 #[.slice a L.length c] w fun e w' => ∃ b, e = .returned (.bool b) ∧ (b = true ↔ L.Pairwise Off) ∧ Below w.heap.size w w' := by
  have HL := hide h
  clear h
  go_enter Tryd.func32, Tryd.ntmps32
  go_wp2_with fail
  go_loopw [3, 4] (fun i _ wr => ∃ k : Nat, k ≤ L.length ∧ i = .int .i64 k ∧ OffTo L k 0 ∧ Below w.heap.size w wr) (fun i _ _ => L.length - (intOf i).toNat)
  case atStart => exact ⟨0, by omega, by simp, ⟨fun _ _ h => by omega, fun _ h => by omega⟩, Below.refl _ _⟩
  case round =>
    obtain ⟨i, hi, rfl, hoff, hbel⟩ := hrel
    obtain ⟨W0, hW0⟩ : ∃ W0, W0 = wr := ⟨_, rfl⟩
    subst hW0
    have HBel := hide hbel
    have HOf := hide hoff
    clear hbel hoff
    by_cases hlt : i < L.length
    · go_wp2_with fail
      go_loopw [4] (fun k wr => ∃ j : Nat, j ≤ i ∧ k = .int .i64 j ∧ OffTo L i j ∧ Below w.heap.size w wr) (fun k _ => i - (intOf k).toNat)
      case atStart => exact ⟨0, by omega, by simp, HOf.out, HBel.out⟩
      case round =>
        obtain ⟨j, hj, rfl, hoff, hbel⟩ := hrel
        have HB1 := hide hbel
        have HO1 := hide hoff
        clear hbel hoff
        by_cases hjl : j < i
        · rcases HL.out with hnil | ⟨b, off, ha, hb, hc⟩
          · rw [hnil] at hlt; simp at hlt
          subst ha
          obtain ⟨p0, p1⟩ := hc i hlt
          obtain ⟨q0, q1⟩ := hc j (by omega)
          have r0 := (HB1.out.cell (p := ⟨b, off + i * 2, none⟩) hb).trans p0
          have r1 := (HB1.out.cell (p := ⟨b, off + i * 2 + 1, none⟩) hb).trans p1
          have s0 := (HB1.out.cell (p := ⟨b, off + j * 2, none⟩) hb).trans q0
          have s1 := (HB1.out.cell (p := ⟨b, off + j * 2 + 1, none⟩) hb).trans q1
          have hi0 : (0 : Int) ≤ (i : Int) := by omega
          have hi1 : (i : Int) < (L.length : Int) := by omega
          have hj0 : (0 : Int) ≤ (j : Int) := by omega
          have hj1 : (j : Int) < (L.length : Int) := by omega
          obtain ⟨x, hx⟩ : ∃ x, x = L.getD i (0, 0) := ⟨_, rfl⟩
          obtain ⟨y, hy⟩ : ∃ y, y = L.getD j (0, 0) := ⟨_, rfl⟩
          rw [← hx] at r0 r1
          rw [← hy] at s0 s1
          obtain ⟨x1, x2⟩ := x
          obtain ⟨y1, y2⟩ := y
          dsimp only at r0 r1 s0 s1
          have HX := hide hx
          have HY := hide hy
          clear hc p0 p1 q0 q1 hx hy
          have hsd : wr.drew.heap.size = wr.heap.size := rfl
          have hbd : Below wr.heap.size wr wr.drew := (Below.refl _ wr).drew
          have hK : ∀ W', Below wr.heap.size wr W' → (W'.cell? ⟨b, off + i * 2, none⟩ = some (.int .i64 x1) ∧ W'.cell? ⟨b, off + i * 2 + 1, none⟩ = some (.int .i64 x2)) ∧ (W'.cell? ⟨b, off + j * 2, none⟩ = some (.int .i64 y1) ∧ W'.cell? ⟨b, off + j * 2 + 1, none⟩ = some (.int .i64 y2)) := fun W' hW => by
            have hbl : b < wr.heap.size := Nat.lt_of_lt_of_le hb HB1.out.size
            exact ⟨⟨(hW.cell (p := ⟨b, off + i * 2, none⟩) hbl).trans r0, (hW.cell (p := ⟨b, off + i * 2 + 1, none⟩) hbl).trans r1⟩, (hW.cell (p := ⟨b, off + j * 2, none⟩) hbl).trans s0, (hW.cell (p := ⟨b, off + j * 2 + 1, none⟩) hbl).trans s1⟩
          have HK0 := hide (hK _ hbd)
          have hX1 : Below wr.heap.size wr (wr.drew.alloc (.cells #[.int .i64 x1, .int .i64 x2] 59)) := hbd.alloc (Nat.le_refl _) _
          have hY1 : Below wr.heap.size wr (wr.drew.alloc (.cells #[.int .i64 y1, .int .i64 y2] 59)) := hbd.alloc (Nat.le_refl _) _
          have hXY : Below wr.heap.size wr ((wr.drew.alloc (.cells #[.int .i64 x1, .int .i64 x2] 59)).alloc (.cells #[.int .i64 y1, .int .i64 y2] 59)) := hX1.alloc hX1.size _
          have hYX : Below wr.heap.size wr ((wr.drew.alloc (.cells #[.int .i64 y1, .int .i64 y2] 59)).alloc (.cells #[.int .i64 x1, .int .i64 x2] 59)) := hY1.alloc hY1.size _
          have HK1 := hide (hK _ hX1)
          have HK2 := hide (hK _ hY1)
          have HK3 := hide (hK _ hXY)
          have HK4 := hide (hK _ hYX)
          have HKs := hide hK
          have HXY := hide hXY
          have HYX := hide hYX
          have HC1 : Hid (Calls Tryd.prog 49 #[.slice (some ⟨wr.heap.size, 0, none⟩) 1 1, .slice (some ⟨wr.heap.size + 1, 0, none⟩) 1 1, .int .i64 0] (((wr.alloc (.cells #[.int .i64 x1, .int .i64 x2] 59)).alloc (.cells #[.int .i64 y1, .int .i64 y2] 59)).drew) _) :=
            hide (refboth0_any (((wr.alloc (.cells #[.int .i64 x1, .int .i64 x2] 59)).alloc (.cells #[.int .i64 y1, .int .i64 y2] 59)).drew) (some ⟨wr.heap.size, 0, none⟩) (some ⟨wr.heap.size + 1, 0, none⟩) 1 1 [(x1, x2)] [(y1, y2)] (by exact (lies_new1 wr.drew x1 x2).below ((Below.refl _ _).alloc (Nat.le_refl _) _)) (by have := lies_new1 (wr.drew.alloc (.cells #[.int .i64 x1, .int .i64 x2] 59)) y1 y2; rw [World.size_alloc, hsd] at this; exact this) (by simp) (by simp))
          have HC2 : Hid (Calls Tryd.prog 49 #[.slice (some ⟨wr.heap.size + 1, 0, none⟩) 1 1, .slice (some ⟨wr.heap.size, 0, none⟩) 1 1, .int .i64 0] (((wr.alloc (.cells #[.int .i64 y1, .int .i64 y2] 59)).alloc (.cells #[.int .i64 x1, .int .i64 x2] 59)).drew) _) :=
            hide (refboth0_any (((wr.alloc (.cells #[.int .i64 y1, .int .i64 y2] 59)).alloc (.cells #[.int .i64 x1, .int .i64 x2] 59)).drew) (some ⟨wr.heap.size + 1, 0, none⟩) (some ⟨wr.heap.size, 0, none⟩) 1 1 [(x1, x2)] [(y1, y2)] (by have := lies_new1 (wr.drew.alloc (.cells #[.int .i64 y1, .int .i64 y2] 59)) x1 x2; rw [World.size_alloc, hsd] at this; exact this) (by exact (lies_new1 wr.drew y1 y2).below ((Below.refl _ _).alloc (Nat.le_refl _) _)) (by simp) (by simp))
          have HOn : Hid (Off (y1, y2) (x1, x2) → OffTo L i (j + 1)) := hide (fun ho => ⟨HO1.out.1, fun k' hk' => by
            rcases Nat.lt_or_ge k' j with h | h
            · exact HO1.out.2 k' h
            · obtain rfl : k' = j := by omega
              rw [← HX.out, ← HY.out]
              exact ho⟩)
          have HOff : Hid (¬ Off (y1, y2) (x1, x2) → ¬ L.Pairwise Off) := hide (fun ho hp => ho (by
            have := (off_all L).2 hp
            have := this.1 i j hlt hjl
            rw [← HX.out, ← HY.out] at this
            exact this))
          clear hK hX1 hY1 hXY hYX hbd hsd
          go_wp2_with fail
          go_region_held3 (fun W' => (W'.cell? ⟨b, off + i * 2, none⟩ = some (.int .i64 x1) ∧ W'.cell? ⟨b, off + i * 2 + 1, none⟩ = some (.int .i64 x2)) ∧ (W'.cell? ⟨b, off + j * 2, none⟩ = some (.int .i64 y1) ∧ W'.cell? ⟨b, off + j * 2 + 1, none⟩ = some (.int .i64 y2)))
            (first | exact HK0.out | exact HK1.out | exact HK2.out | exact HK3.out | exact HK4.out | exact HKs.out _ HW5.out)
            (first
              | (go_at_call 49; with_reducible (refine HC1.out.mono ?_); rintro e w5 ⟨v5, N, rfl, ho5, hf5, hn5, hb5⟩; obtain ⟨a5, c5, hv5, _, _, _, _⟩ := ho5.form; subst hv5; have HF5 := hide hf5; have HW5 := hide (HXY.out.trans (hb5.mono HXY.out.size)); clear ho5 hf5 hb5)
              | (go_at_call 49; with_reducible (refine HC2.out.mono ?_); rintro e w5 ⟨v5, N, rfl, ho5, hf5, hn5, hb5⟩; obtain ⟨a5, c5, hv5, _, _, _, _⟩ := ho5.form; subst hv5; have HF5 := hide hf5; have HW5 := hide (HYX.out.trans (hb5.mono HYX.out.size)); clear ho5 hf5 hb5))
          all_goals
            have hiff := form_nil HF5.out
            by_cases hN : N.length = 0
            · have HQ := hide (HOn.out ((off_iff _ _).2 (hiff.1 hN)))
              have hd : ¬ ((0 : Int) < (N.length : Int)) := by omega
              clear hiff hN
              go_wp2_with fail
              refine ⟨⟨j + 1, by omega, by go_num, HQ.out, HB1.out.trans (HW5.out.mono HB1.out.size)⟩, ?_⟩
              simp [intOf]; omega
            · have HQ := hide (HOff.out (fun ho => hN (hiff.2 ((off_iff _ _).1 ho))))
              have hd : (0 : Int) < (N.length : Int) := by omega
              clear hiff hN
              go_wp2_with fail
              go_ret
              first
                | exact ⟨false, rfl, ⟨fun h => (by cases h), fun h => absurd h HQ.out⟩, HB1.out.trans (HW5.out.mono HB1.out.size)⟩
                | exact Or.inl ⟨rfl, HQ.out, HB1.out.trans (HW5.out.mono HB1.out.size)⟩
        · obtain rfl : j = i := by omega
          have HQ : Hid (OffTo L (j + 1) 0) := hide ⟨fun i' k' h1 h2 => by
            rcases Nat.lt_or_ge i' j with h | h
            · exact HO1.out.1 i' k' h h2
            · obtain rfl : i' = j := by omega
              exact HO1.out.2 k' h2, fun _ h => by omega⟩
          go_wp2_with fail
          refine ⟨⟨j + 1, by omega, by go_num, HQ.out, HB1.out⟩, ?_⟩
          simp [intOf]; omega
    · obtain rfl : i = L.length := by omega
      have HT := hide ((off_all L).1 HOf.out)
      go_wp2_with fail
      go_ret
      first
        | exact ⟨true, rfl, ⟨fun _ => HT.out, fun _ => rfl⟩, HBel.out⟩
        | exact Or.inr ⟨rfl, HT.out, HBel.out⟩

end Go.Proofs.YtpbnjobjjnhplaaDoor.Oct
