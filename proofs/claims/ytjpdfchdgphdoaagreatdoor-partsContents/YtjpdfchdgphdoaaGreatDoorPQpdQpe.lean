/- What a disk has: one partition, one table, and the gaps (lay). -/
import Derived.Test.YtjpdfchdgphdoaaGreatDoorPQpb
import Derived.Test.YtjpdfchdgphdoaaGreatDoorPQpc
import Derived.Test.YtjpdfchdgphdoaaGreatDoorPMns
namespace Go.Proofs.YtjpdfchdgphdoaaGreatDoor.Oct
open Go.RowKit

/-- The block of a map: its four first cells, and the rest. -/
def MapB (w : World) (R : Nat) (k v1 v2 v3 : Value) (r : List Value) : Prop := w.heap[R]? = some (.cells (k :: v1 :: v2 :: v3 :: r).toArray 63 (0, 0))

theorem MapB.lt {w : World} {R : Nat} {k v1 v2 v3 : Value} {r : List Value} (h : MapB w R k v1 v2 v3 r) : R < w.heap.size := (Array.getElem?_eq_some_iff.1 h).1
theorem MapB.below {w w' : World} {R : Nat} {k v1 v2 v3 : Value} {r : List Value} (h : MapB w R k v1 v2 v3 r) (hb : Below w.heap.size w w') : MapB w' R k v1 v2 v3 r := (hb.block R h.lt).trans h
theorem MapB.cell {w : World} {R : Nat} {k v1 v2 v3 : Value} {r : List Value} (h : MapB w R k v1 v2 v3 r) : w.cell? ⟨R, 0, none⟩ = some k ∧ w.cell? ⟨R, 1, none⟩ = some v1 ∧ w.cell? ⟨R, 2, none⟩ = some v2 ∧ w.cell? ⟨R, 3, none⟩ = some v3 := by
  unfold MapB at h
  simp [World.cell?, h]
theorem MapB.free {w : World} {R : Nat} {k v1 v2 v3 : Value} {r : List Value} (h : MapB w R k v1 v2 v3 r) (j : Nat) : w.frozen? ⟨R, j, none⟩ = false := by
  unfold MapB at h
  simp [World.frozen?, h]
end Go.Proofs.YtjpdfchdgphdoaaGreatDoor.Oct

namespace Go.Proofs.YtjpdfchdgphdoaaGreatDoor.Oct
open Go.RowKit

theorem MapB.set1 {w : World} {R : Nat} {k v1 v2 v3 : Value} {r : List Value} (h : MapB w R k v1 v2 v3 r) (v : Value) : MapB (w.setCell ⟨R, 1, none⟩ v) R k v v2 v3 r := by
  have := Blk.set (u := w) (R := R) (t := 63) h 1 v
  simpa [MapB, Blk] using this
theorem MapB.set2 {w : World} {R : Nat} {k v1 v2 v3 : Value} {r : List Value} (h : MapB w R k v1 v2 v3 r) (v : Value) : MapB (w.setCell ⟨R, 2, none⟩ v) R k v1 v v3 r := by
  have := Blk.set (u := w) (R := R) (t := 63) h 2 v
  simpa [MapB, Blk] using this
theorem MapB.set3 {w : World} {R : Nat} {k v1 v2 v3 : Value} {r : List Value} (h : MapB w R k v1 v2 v3 r) (v : Value) : MapB (w.setCell ⟨R, 3, none⟩ v) R k v1 v2 v r := by
  have := Blk.set (u := w) (R := R) (t := 63) h 3 v
  simpa [MapB, Blk] using this

theorem LiesE.chgE {X : Nat → Prop} {w w' : World} {a : Option Addr} {L : List (Int × Int)} (h : LiesE w a L) (hg : Chg X w w') (hne : ∀ x, a = some x → ¬ X x.block) : LiesE w' a L := by
  rcases h with rfl | ⟨b, off, rfl, hlt, hc⟩
  · exact Or.inl rfl
  · exact Or.inr ⟨b, off, rfl, Nat.lt_of_lt_of_le hlt hg.size, fun k hk => ⟨hg.cell (hc k hk).1 (hne _ rfl), hg.cell (hc k hk).2 (hne _ rfl)⟩⟩

theorem LiesE.new1 (w : World) (x1 x2 : Int) : LiesE (w.alloc (.cells #[.int .i64 x1, .int .i64 x2] 24)) (some ⟨w.heap.size, 0, none⟩) [(x1, x2)] := by
  refine Or.inr ⟨w.heap.size, 0, rfl, by simp, fun k hk => ?_⟩
  obtain rfl : k = 0 := by simp at hk; omega
  have := Blk.new w #[.int .i64 x1, .int .i64 x2] 24
  exact ⟨this.cell 0 _ rfl, this.cell 1 _ rfl⟩

theorem Normed.oneE {L N M : List (Int × Int)} (h : Normed L N) (hf : Form M) (hs : ∀ x, InE M x ↔ InE L x) : N = M :=
  Form.unique N M h.form hf (fun x => (h.set x).trans (hs x).symm)

theorem gaps_one {N T G : List (Int × Int)} (h1 : Normed [(0, 51200)] N) (h2 : Normed [(0, 512), (4096, 24576)] T) (h3 : Normed (aloneL T (upto N N.length)) G) : G = [(512, 4096), (24576, 51200)] := by
  have hN : N = [(0, 51200)] := h1.oneE ⟨by simp, by simp⟩ (fun x => Iff.rfl)
  have hT : T = [(0, 512), (4096, 24576)] := h2.oneE ⟨by simp, by simp⟩ (fun x => Iff.rfl)
  subst hN hT
  refine h3.oneE ⟨by simp, by simp⟩ (fun x => ?_)
  have := aloneL_set (T := [(0, 512), (4096, 24576)]) (N := [(0, 51200)]) ⟨by simp, by simp⟩ ⟨by simp, by simp⟩ x
  have e : upto [((0 : Int), (51200 : Int))] [((0 : Int), (51200 : Int))].length = (List.range [((0 : Int), (51200 : Int))].length).map (fun j => (j, [((0 : Int), (51200 : Int))].getD j (0, 0))) := rfl
  rw [e, this]
  simp [InE]
  omega

theorem LiesS.chg {X : Nat → Prop} {w w' : World} {a : Option Addr} {S : List Row3} (h : LiesS w a S) (hg : Chg X w w') (hne : ∀ x, a = some x → ¬ X x.block) (hin : ∀ k, k < S.length → ∀ x, (S.getD k Row3.nil).a = some x → ¬ X x.block) : LiesS w' a S := by
  rcases h with rfl | ⟨b, off, rfl, hlt, hc⟩
  · exact Or.inl rfl
  · exact Or.inr ⟨b, off, rfl, Nat.lt_of_lt_of_le hlt hg.size, fun k hk => ⟨hg.cell (hc k hk).1 (hne _ rfl), (hc k hk).2.chgE hg (hin k hk)⟩⟩

set_option maxHeartbeats 4000000 in
set_option maxRecDepth 100000 in
theorem lay_one (hS : SortSays) (w : World) (R : Nat) (k v1 v2 v3 : Value) (r : List Value) (hM : MapB w R k v1 v2 v3 r) (b off c : Nat) (hP : LiesP w (some ⟨b, off, none⟩) [(4096, 24576, 12, 0)]) (tb toff tc : Nat) (ha : Option Addr) (hc : Nat) (hT : LiesS w (some ⟨tb, toff, none⟩) [⟨ha, hc, [(0, 512)]⟩]) (htR : tb ≠ R) (haR : ∀ x, ha = some x → x.block ≠ R) :
    Calls Tryz.prog 28 #[.pointer (some ⟨R, 0, none⟩), .int .i64 51200, .slice (some ⟨b, off, none⟩) 1 c, .slice (some ⟨tb, toff, none⟩) 1 tc] w fun e w' => e = .returned (.tuple #[]) ∧ ∃ q1 q2 q3, MapB w' R k q1 q2 q3 r ∧ OwnP 74 w' w.heap.size q1 [(4096, 24576, 12, 0)] ∧ OwnE w' w.heap.size q2 [(0, 512)] ∧ OwnE w' w.heap.size q3 [(512, 4096), (24576, 51200)] ∧ Chg (fun i => i = R) w w' := by
  have HC := hide (clone_part w b off c _ hP)
  have HS := hide hS
  have HM := hide hM
  have HT := hide hT
  have HtR := hide htR
  have HaR := hide haR
  have hRl := hM.lt
  have HR := hide hRl
  clear hP hT hM hS htR haR hRl
  go_enter Tryz.func28, Tryz.ntmps28
  go_wp2_with fail
  refine HC.out.mono ?_
  rintro e9 w1 ⟨v4, rfl, ho4, hb4⟩
  have HM1 := hide (HM.out.below hb4)
  obtain ⟨a4, c4, rfl, hl4, hc4, _, ha4⟩ := ho4.form
  obtain ⟨_, hm1, _, _⟩ := HM1.out.cell
  have hf1 := HM1.out.free 1
  have hcs : Chg (fun i => i = R) w (w1.setCell ⟨R, 1, none⟩ (.slice a4 1 c4)) := ((Chg.of_below hb4) : Chg (fun i => i = R) w w1).setC R 1 _ (fun _ => rfl)
  have hne4 : ∀ g, (Value.slice a4 1 c4).ownBlock = some g → ¬ (g = R) := by
    intro g hg e
    have := HR.out
    cases a4 with
    | none => cases hg
    | some x =>
      obtain ⟨h1, h2, h3, h4⟩ := ha4 x rfl
      have : g = x.block := by simp [Value.ownBlock] at hg; exact hg.symm
      omega
  have HO4 : Hid (OwnP 74 (w1.setCell ⟨R, 1, none⟩ (.slice a4 1 c4)) w.heap.size (.slice a4 1 c4) [(4096, 24576, 12, 0)]) := hide (ho4.chg ((Chg.refl (fun i => i = R) w1).setC R 1 _ (fun _ => rfl)) hne4)
  have HM2 := hide (HM1.out.set1 (.slice a4 1 c4))
  have HCs := hide hcs
  have HNe4 := hide hne4
  have HGl : Hid (∀ g, (Value.slice a4 1 c4).ownBlock = some g → g < w1.heap.size) := hide (fun g hg => ownsRow_lt ho4 g hg)
  clear ho4 hb4 hl4 hcs hne4 ha4
  go_wp2_with fail
  obtain ⟨w2, hw2⟩ : ∃ w2, w2 = w1.setCell ⟨R, 1, none⟩ (.slice a4 1 c4) := ⟨_, rfl⟩
  rw [← hw2]
  rw [← hw2] at HO4 HM2 HCs
  clear hw2 hm1 hf1 HM1 HC hc4
  refine (sort_one _ _ _ _).mono ?_
  rintro e9 w3 ⟨rfl, h3⟩
  have HO3 := hide (HO4.out.below h3)
  have HM3 := hide (HM2.out.below h3)
  have HC3 : Hid (Chg (fun i => i = R) w w3) := hide (HCs.out.trans (Chg.of_below h3))
  have HT3 := hide (HT.out.chg HC3.out (fun x hx e => by cases hx; exact HtR.out e) (fun k hk x hx e => by
    obtain rfl : k = 0 := by simp at hk; omega
    exact HaR.out x hx e))
  have HCo := hide (concat_any w3 (some ⟨tb, toff, none⟩) tc _ HT3.out (by simp) (by simp [totS]))
  have HGl : Hid (∀ g, (Value.slice a4 1 c4).ownBlock = some g → g < w3.heap.size) := hide (fun g hg => ownsRow_lt HO3.out g hg)
  clear h3 HO4 HM2 HCs HT
  go_wp2_with fail
  refine HCo.out.mono ?_
  rintro e9 w4 ⟨v5, rfl, ho5, hb5⟩
  change OwnE w4 w3.heap.size v5 [(0, 512)] at ho5
  have HO5 := hide ho5
  obtain ⟨a5, c5, rfl, hl5, _, _, ha5⟩ := ho5.form
  have HN := hide (norm_any HS.out w4 a5 c5 [(0, 512)] hl5 (by simp))
  have HA5 := hide ha5
  have HB5 := hide hb5
  clear ho5 hl5 hb5 ha5 HCo
  go_wp2_with fail
  refine HN.out.mono ?_
  rintro e9 w5 ⟨v6, N, rfl, ho6, hn6, hb6⟩
  obtain rfl : N = [(0, 512)] := hn6.oneE ⟨by simp, by simp⟩ (fun x => Iff.rfl)
  obtain ⟨a6, c6, rfl, hl6, _, _, ha6⟩ := ho6.form
  have hb35 : Below w3.heap.size w3 w5 := HB5.out.trans (hb6.mono HB5.out.size)
  have HM5 := hide (HM3.out.below hb35)
  obtain ⟨_, _, hm5, _⟩ := HM5.out.cell
  have hf5 := HM5.out.free 2
  have hRl := HR.out
  have hs3 := HC3.out.size
  have hs4 := HB5.out.size
  have hs5 := hb6.size
  have hsc : Chg (fun i => i = R) w5 (w5.setCell ⟨R, 2, none⟩ (.slice a6 1 c6)) := (Chg.refl _ _).setC R 2 _ (fun _ => rfl)
  have HO6 : Hid (OwnE (w5.setCell ⟨R, 2, none⟩ (.slice a6 1 c6)) w4.heap.size (.slice a6 1 c6) [(0, 512)]) := hide (ownsRow_chg ho6 hsc (fun g hg e => by
    cases a6 with
    | none => cases hg
    | some x =>
      obtain ⟨h1, h2, h3, h4⟩ := ha6 x rfl
      have : g = x.block := by simp [Value.ownBlock] at hg; exact hg.symm
      omega))
  have HO56 : Hid (OwnE (w5.setCell ⟨R, 2, none⟩ (.slice a6 1 c6)) w3.heap.size (.slice a5 1 c5) [(0, 512)]) := hide (ownsRow_chg (HO5.out.below hb6) hsc (fun g hg e => by
    cases a5 with
    | none => cases hg
    | some x =>
      obtain ⟨h1, h2, h3, h4⟩ := HA5.out x rfl
      have : g = x.block := by simp [Value.ownBlock] at hg; exact hg.symm
      omega))
  have HO46 : Hid (OwnP 74 (w5.setCell ⟨R, 2, none⟩ (.slice a6 1 c6)) w.heap.size (.slice a4 1 c4) [(4096, 24576, 12, 0)]) := hide ((HO3.out.below hb35).chg hsc HNe4.out)
  have HM6 := hide (HM5.out.set2 (.slice a6 1 c6))
  have HC6 : Hid (Chg (fun i => i = R) w (w5.setCell ⟨R, 2, none⟩ (.slice a6 1 c6))) := hide ((HC3.out.trans (Chg.of_below hb35)).trans hsc)
  obtain ⟨_, hm6, _, _⟩ := HM6.out.cell
  have HSz := hide (show w4.heap.size ≤ (w5.setCell ⟨R, 2, none⟩ (.slice a6 1 c6)).heap.size from Nat.le_trans hs5 hsc.size)
  clear ho6 hb6 hl6 hsc hb35 hRl hs3 hs4 hs5 hn6
  go_wp2_with fail
  obtain ⟨w6, hw6⟩ : ∃ w6, w6 = w5.setCell ⟨R, 2, none⟩ (.slice a6 1 c6) := ⟨_, rfl⟩
  rw [← hw6]
  rw [← hw6] at HO6 HO56 HO46 HM6 HC6 HSz hm6
  clear hw6 hm5 hf5 HM5 HO3 HM3 HO5 HN HT3
  go_loopw [8, 33] (fun v i wr => (i = .int .i64 0 ∧ v = .slice a5 1 c5 ∧ wr = w6) ∨ (i = .int .i64 1 ∧ OwnE wr w3.heap.size v [(0, 512), (4096, 24576)] ∧ MapB wr R k (.slice a4 1 c4) (.slice a6 1 c6) v3 r ∧ OwnP 74 wr w.heap.size (.slice a4 1 c4) [(4096, 24576, 12, 0)] ∧ OwnE wr w4.heap.size (.slice a6 1 c6) [(0, 512)] ∧ Chg (fun i => i = R) w wr)) (fun _ i _ => 1 - (intOf i).toNat)
  case atStart => exact Or.inl ⟨rfl, rfl, rfl⟩
  case round =>
    rcases hrel with ⟨rfl, rfl, hwr⟩ | ⟨rfl, ho, hM, hP, hQ, hC⟩
    · have hwr2 := hwr.symm
      clear hwr
      subst hwr2
      obtain ⟨g, cap, he⟩ := row_succM (n := 0) HO46.out
      cases he
      obtain ⟨p0, p1, p2, p3⟩ := HO46.out.cells 0 (by simp)
      simp at p0 p1 p2 p3
      have hbA : Below w6.heap.size w6 (w6.alloc (.cells #[.int .i64 4096, .int .i64 24576, .int .i64 12, .int .i64 0] 74)) := (Below.refl _ _).alloc (Nat.le_refl _) _
      have hbB : Below w6.heap.size w6 ((w6.alloc (.cells #[.int .i64 4096, .int .i64 24576, .int .i64 12, .int .i64 0] 74)).alloc (.cells #[.int .i64 4096, .int .i64 24576] 24)) := hbA.alloc (by simp) _
      have HA1 : Hid (OwnE ((w6.alloc (.cells #[.int .i64 4096, .int .i64 24576, .int .i64 12, .int .i64 0] 74)).alloc (.cells #[.int .i64 4096, .int .i64 24576] 24)) w3.heap.size (.slice a5 1 c5) [(0, 512)]) := hide (HO56.out.below hbB)
      have HA2 : Hid (LiesE ((w6.alloc (.cells #[.int .i64 4096, .int .i64 24576, .int .i64 12, .int .i64 0] 74)).alloc (.cells #[.int .i64 4096, .int .i64 24576] 24)) (some ⟨w6.heap.size + 1, 0, none⟩) [(4096, 24576)]) := hide (by
        have := LiesE.new1 (w6.alloc (.cells #[.int .i64 4096, .int .i64 24576, .int .i64 12, .int .i64 0] 74)) 4096 24576
        simpa using this)
      have HbB := hide hbB
      have hz3 : w3.heap.size ≤ ((w6.alloc (.cells #[.int .i64 4096, .int .i64 24576, .int .i64 12, .int .i64 0] 74)).alloc (.cells #[.int .i64 4096, .int .i64 24576] 24)).heap.size := Nat.le_trans (Nat.le_trans HB5.out.size HSz.out) hbB.size
      have hc0 : (w6.alloc (.cells #[.int .i64 4096, .int .i64 24576, .int .i64 12, .int .i64 0] 74)).cell? ⟨w6.heap.size, 0, none⟩ = some (.int .i64 4096) := (Blk.new w6 #[.int .i64 4096, .int .i64 24576, .int .i64 12, .int .i64 0] 74).cell 0 _ rfl
      have hc1 : (w6.alloc (.cells #[.int .i64 4096, .int .i64 24576, .int .i64 12, .int .i64 0] 74)).cell? ⟨w6.heap.size, 1, none⟩ = some (.int .i64 24576) := (Blk.new w6 #[.int .i64 4096, .int .i64 24576, .int .i64 12, .int .i64 0] 74).cell 1 _ rfl
      clear hbA hbB
      go_wp2_with (at_builtin; refine wpList_append_E rfl (.tmp 37) (.tmp 40) 40 rfl Tryz.underlying40 w3.heap.size _ [(0, 512)] rfl (by exact HA1.out) (some ⟨w6.heap.size + 1, 0, none⟩) 1 1 [(4096, 24576)] rfl rfl (by exact HA2.out) (by simp) (by exact hz3) ?_; intro v7 w7 ho7 hg7; have HO7 := hide ho7; have HG7 := hide hg7; clear ho7 hg7)
      have hcG : Chg (fun k => some k = (Value.slice a5 1 c5).ownBlock) w6 w7 := (Chg.of_below HbB.out).trans (Chg.of_grown HG7.out)
      have hnb : ∀ g, some g = (Value.slice a5 1 c5).ownBlock → w3.heap.size ≤ g ∧ g < w4.heap.size := by
        intro g hg
        cases a5 with
        | none => cases hg
        | some x =>
          obtain ⟨h1, h2, h3, h4⟩ := HA5.out x rfl
          have : g = x.block := by simp [Value.ownBlock] at hg; exact hg
          omega
      have hs3 := HC3.out.size
      have hRl := HR.out
      have e1 : MapB w7 R k (.slice (some ⟨g, 0, none⟩) 1 _) (.slice a6 1 c6) v3 r := Blk.chg (t := 63) HM6.out hcG (fun e => by have := hnb R e; omega)
      have e2 := HO46.out.chg hcG (fun g2 hg2 e => by
        have h1 := hnb g2 e
        have h2 := HGl.out g2 hg2
        omega)
      have e3 : OwnE w7 w4.heap.size (.slice a6 1 c6) [(0, 512)] := ownsRow_chg HO6.out hcG (fun g2 hg2 e => by
        have h1 := hnb g2 e
        cases a6 with
        | none => cases hg2
        | some x =>
          obtain ⟨h1, h2, h3, h4⟩ := ha6 x rfl
          have : g2 = x.block := by simp [Value.ownBlock] at hg2; exact hg2.symm
          omega)
      have e4 : Chg (fun i => i = R) w w7 := HC6.out.andThen hcG (fun i hi e => by have := hnb i e; omega)
      go_roundw
      case rel => exact Or.inr ⟨by go_num, HO7.out, e1, e2, e3, e4⟩
      case measure => simp [intOf]
    · have HO := hide ho
      have HMr := hide hM
      have HPr := hide hP
      have HQr := hide hQ
      have HCr := hide hC
      clear ho hM hP hQ hC
      obtain ⟨a7, c7, rfl, _, _, _, ha7⟩ := HO.out.form
      have hbA : Below wr.heap.size wr (wr.alloc (.cells #[.int .i64 0, .int .i64 51200] 24)) := (Below.refl _ _).alloc (Nat.le_refl _) _
      have HN := hide (norm_any HS.out (wr.alloc (.cells #[.int .i64 0, .int .i64 51200] 24)) (some ⟨wr.heap.size, 0, none⟩) 1 [(0, 51200)] (LiesE.new1 wr 0 51200) (by simp))
      have HbA := hide hbA
      clear hbA
      go_wp2_with fail
      refine HN.out.mono ?_
      rintro e9 w8 ⟨v8, N, rfl, ho8, hn8, hb8⟩
      obtain rfl : N = [(0, 51200)] := hn8.oneE ⟨by simp, by simp⟩ (fun x => Iff.rfl)
      obtain ⟨a8, c8, rfl, hl8, _, _, _⟩ := ho8.form
      have hb78 : Below wr.heap.size wr w8 := HbA.out.trans (hb8.mono HbA.out.size)
      obtain ⟨a9, c9, he9, hl9, _⟩ := (HO.out.below hb78).form
      cases he9
      have HMi := hide (minus_any HS.out w8 a8 a7 c8 c7 [(0, 51200)] [(0, 512), (4096, 24576)] hl8 hl9 (by simp) (by simp) (by simp))
      have Hb78 := hide hb78
      clear ho8 hn8 hb8 hl8 hb78 hl9 HN
      go_wp2_with fail
      refine HMi.out.mono ?_
      rintro e9 w9 ⟨v9, N, T, G, rfl, hn9, ht9, hg9, ho9, hb9⟩
      obtain rfl := gaps_one hn9 ht9 hg9
      obtain ⟨a9, c9, rfl, _, _, _, ha9⟩ := ho9.form
      have hb79 : Below wr.heap.size wr w9 := Hb78.out.trans (hb9.mono Hb78.out.size)
      have HM9 := hide (HMr.out.below hb79)
      obtain ⟨_, _, _, hm9⟩ := HM9.out.cell
      have hf9 := HM9.out.free 3
      have hsc : Chg (fun i => i = R) w9 (w9.setCell ⟨R, 3, none⟩ (.slice a9 2 c9)) := (Chg.refl _ _).setC R 3 _ (fun _ => rfl)
      have hRl := HR.out
      have hs3 := HC3.out.size
      have hs4 := HB5.out.size
      have hsr := HCr.out.size
      have hs78 := Hb78.out.size
      have e1 := HM9.out.set3 (.slice a9 2 c9)
      have e2 := (HPr.out.below hb79).chg hsc HNe4.out
      have e3 : OwnE (w9.setCell ⟨R, 3, none⟩ (.slice a9 2 c9)) w4.heap.size (.slice a6 1 c6) [(0, 512)] := ownsRow_chg (HQr.out.below hb79) hsc (fun g hg e => by
        cases a6 with
        | none => cases hg
        | some x =>
          obtain ⟨h1, h2, h3, h4⟩ := ha6 x rfl
          have : g = x.block := by simp [Value.ownBlock] at hg; exact hg.symm
          omega)
      have e4 : OwnE (w9.setCell ⟨R, 3, none⟩ (.slice a9 2 c9)) w8.heap.size (.slice a9 2 c9) [(512, 4096), (24576, 51200)] := ownsRow_chg ho9 hsc (fun g hg e => by
        cases a9 with
        | none => cases hg
        | some x =>
          obtain ⟨h1, h2, h3, h4⟩ := ha9 x rfl
          have : g = x.block := by simp [Value.ownBlock] at hg; exact hg.symm
          omega)
      have e5 : Chg (fun i => i = R) w (w9.setCell ⟨R, 3, none⟩ (.slice a9 2 c9)) := (HCr.out.trans (Chg.of_below hb79)).trans hsc
      have E := hide (And.intro e1 (And.intro e2 (And.intro (OwnE.mono e3 (show w.heap.size ≤ w4.heap.size by omega)) (And.intro (OwnE.mono e4 (show w.heap.size ≤ w8.heap.size by omega)) e5))))
      clear e1 e2 e3 e4 e5 hsc hb79 ho9 hb9 hn9 ht9 hg9 hRl hs3 hs4 hsr hs78
      go_wp2_with fail
      go_end0
      exact ⟨rfl, _, _, _, E.out⟩
end Go.Proofs.YtjpdfchdgphdoaaGreatDoor.Oct
