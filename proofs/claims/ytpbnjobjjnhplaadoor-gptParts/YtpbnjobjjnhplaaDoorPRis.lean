/- rising, and Norm: the one form of parts. -/
import Derived.Test.YtpbnjobjjnhplaaDoorPExmExv
import Derived.Test.YtpbnjobjjnhplaaDoorChecked
import Derived.WalkKit
import Derived.Deep.RegionHeld3
import Derived.BigQuiet
namespace Go.Proofs.YtpbnjobjjnhplaaDoor.Oct
open Go.RowKit Go.Sort

/-- What the sort is asked for, of a row of the call's own. -/
def SortSays : Prop := (∀ (w : World) (B g cap : Nat) (L : List (Int × Int)), OwnE w B (.slice (some ⟨g, 0, none⟩) L.length cap) L → L.length ≤ 1000000 →
    Calls Tryd.prog 62 #[.slice (some ⟨g, 0, none⟩) L.length cap, .func (.func 63) #[] #[]] w fun e w' => e = .returned (.tuple #[]) ∧ ∃ D, OwnE w' B (.slice (some ⟨g, 0, none⟩) L.length cap) D ∧ D.Perm L ∧ D.Pairwise (fun p q => p.1 ≤ q.1) ∧ w.grownBy w' (some g)) ∧
  ∀ w : World, Calls Tryd.prog 62 #[.slice none 0 0, .func (.func 63) #[] #[]] w fun e w' => e = .returned (.tuple #[]) ∧ w' = w

theorem info_E : (Tryd.prog.info? 59).map (fun i => (i.zero, i.size, i.bytes)) = some (some (.agg #[.int .i64 0, .int .i64 0]), 2, 16) := by kernel_rfl

theorem box2e (w : World) (t : TypeId) (x y : Value) : (w.alloc (.cells #[x, y] t)).cell? ⟨w.heap.size, 0, none⟩ = some x ∧ (w.alloc (.cells #[x, y] t)).cell? ⟨w.heap.size, 1, none⟩ = some y := by
  have h : (w.alloc (.cells #[x, y] t)).heap[w.heap.size]? = some (.cells #[x, y] t) := heap_alloc_new w _
  simp only [World.cell?, h]
  exact ⟨rfl, rfl⟩

theorem new2 (w : World) (t : TypeId) (x y : Value) : ∀ (j : Nat) (u : Value), [x, y][j]? = some u → (w.alloc (.cells #[x, y] t)).cell? ((⟨w.heap.size, 0, none⟩ : Addr).add j) = some u := by
  obtain ⟨h0, h1⟩ := box2e w t x y
  intro j u hj
  rw [Go.WideShapes.add_plain, Nat.zero_add]
  match j, hj with
  | 0, hj => simp at hj; subst hj; exact h0
  | 1, hj => simp at hj; subst hj; exact h1
  | _ + 2, hj => simp at hj

/-- Parts that have a byte, of the first so many. -/
def filled (L : List (Int × Int)) (k : Nat) : List (Int × Int) := (L.take k).filter (fun p => decide (p.1 < p.2))

theorem filled_step (L : List (Int × Int)) (k : Nat) (hk : k < L.length) : filled L (k + 1) = if (L.getD k (0, 0)).1 < (L.getD k (0, 0)).2 then filled L k ++ [L.getD k (0, 0)] else filled L k := by
  have e : L.getD k (0, 0) = L[k] := by simp [hk]
  unfold filled
  rw [List.take_succ_eq_append_getElem hk, List.filter_append, e]
  split
  · rename_i h
    simp [h]
  · rename_i h
    simp [h]

theorem filled_le (L : List (Int × Int)) (k : Nat) : (filled L k).length ≤ k := by
  unfold filled
  refine Nat.le_trans (List.length_filter_le _ _) ?_
  simp
  omega

theorem row_form2 {w : World} {B : Nat} {v : Value} {L : List (Int × Int)} (h : OwnE w B v L) : (v = .slice none 0 0 ∧ L = []) ∨ ∃ g cap, v = .slice (some ⟨g, 0, none⟩) L.length cap ∧ B ≤ g ∧ g < w.heap.size := by
  rcases h.2 with ⟨rfl, hn⟩ | ⟨g, cap, cur, rfl, hb, hh, _⟩
  · exact Or.inl ⟨rfl, List.length_eq_zero_iff.1 hn⟩
  · exact Or.inr ⟨g, cap, rfl, hb, (Array.getElem?_eq_some_iff.1 hh).1⟩

/-- Parts that rise, none of them empty. -/
structure Rise (L D : List (Int × Int)) : Prop where
  sort : D.Pairwise (fun p q => p.1 ≤ q.1)
  fill : ∀ p ∈ D, p.1 < p.2
  mem : ∀ p, p ∈ D ↔ p ∈ L ∧ p.1 < p.2
  len : D.length ≤ L.length

set_option maxHeartbeats 2000000 in
set_option maxRecDepth 100000 in
theorem rising_any (hS : SortSays) (w : World) (a : Option Addr) (c : Nat) (L : List (Int × Int)) (h : LiesE w a L) (hl : L.length ≤ 1000000) :
    Calls Tryd.prog 48 #[.slice a L.length c] w fun e w' => ∃ v D, e = .returned v ∧ OwnE w' w.heap.size v D ∧ Rise L D ∧ RowKit.Below w.heap.size w w' := by
  have HS := hide hS
  have HL := hide h
  obtain ⟨i1, hi, hz0, hz1, hz2⟩ := info_parts info_E
  clear hS h
  go_enter Tryd.func48, Tryd.ntmps48
  go_wp2_with fail
  go_loopw [3, 8] (fun v i wr => ∃ k : Nat, k ≤ L.length ∧ i = .int .i64 k ∧ OwnE wr w.heap.size v (filled L k) ∧ RowKit.Below w.heap.size w wr) (fun _ i _ => L.length - (intOf i).toNat)
  case atStart => exact ⟨0, by omega, by simp, OwnE.nil _ _, RowKit.Below.refl _ _⟩
  case round =>
    obtain ⟨k, hk, rfl, ho, hbel⟩ := hrel
    have HO := hide ho
    have HBel := hide hbel
    have hsz := hbel.size
    clear ho hbel
    by_cases hlt : k < L.length
    · rcases HL.out with hnil | ⟨b, off, ha, hb, hc⟩
      · rw [hnil] at hlt; simp at hlt
      subst ha
      obtain ⟨q0, q1⟩ := hc k hlt
      have r0 := (HBel.out.cell (p := ⟨b, off + k * 2, none⟩) hb).trans q0
      have r1 := (HBel.out.cell (p := ⟨b, off + k * 2 + 1, none⟩) hb).trans q1
      have hk0 : (0 : Int) ≤ (k : Int) := by omega
      have hk1 : (k : Int) < (L.length : Int) := by omega
      have HSt := hide (filled_step L k hlt)
      have hfl := filled_le L k
      obtain ⟨x, hx⟩ : ∃ x, x = L.getD k (0, 0) := ⟨_, rfl⟩
      rw [← hx] at r0 r1 HSt
      obtain ⟨x1, x2⟩ := x
      dsimp only at r0 r1 HSt
      obtain ⟨fl, hfle⟩ : ∃ fl, fl = filled L k := ⟨_, rfl⟩
      rw [← hfle] at HO HSt hfl
      clear hc q0 q1 hx hfle
      by_cases hxx : x1 < x2
      · have HSt2 : Hid (filled L (k + 1) = fl ++ [(x1, x2)]) := hide (by rw [HSt.out, if_pos hxx])
        clear HSt
        have hO3 : OwnE ((wr.alloc (.cells #[.int .i64 x1, .int .i64 x2] 59)).alloc (.cells #[.int .i64 x1, .int .i64 x2] 59)) w.heap.size u3 fl := World.ownsRow.alloc (World.ownsRow.alloc HO.out _) _
        have hb3 : RowKit.Below w.heap.size w ((wr.alloc (.cells #[.int .i64 x1, .int .i64 x2] 59)).alloc (.cells #[.int .i64 x1, .int .i64 x2] 59)) := (HBel.out.alloc HBel.out.size _).alloc (HBel.out.alloc HBel.out.size _).size _
        have HN3 := hide (new2 (wr.alloc (.cells #[.int .i64 x1, .int .i64 x2] 59)) 59 (.int .i64 x1) (.int .i64 x2))
        have hs3 : (wr.alloc (.cells #[.int .i64 x1, .int .i64 x2] 59)).heap.size = wr.heap.size + 1 := by simp
        rw [hs3] at HN3
        have HO3 := hide hO3
        have HB3 := hide hb3
        clear hO3 hb3 hs3
        go_wp2_with (at_builtin; refine wpList_append_own_at _ rfl (.tmp 17) (.tmp 19) 52 rfl w.heap.size 59 i1 (.agg #[.int .i64 0, .int .i64 0]) 2 16 Tryd.underlying52 hi hz0 hz1 hz2 rfl (by decide) u3 fl.length (fl.flatMap encE) rfl HO3.out ⟨wr.heap.size + 1, 0, none⟩ 1 1 [.int .i64 x1, .int .i64 x2] rfl rfl HN3.out (by simp [Value.oneCell']) (by unfold maxLen; omega) (by omega) HB3.out.size ?_; intro v5 w5 ho5 hg5 _ hw5; have HO5 := hide ho5; have HG5 := hide hg5; clear ho5 hg5 hw5)
        have ho6 : OwnE w5 w.heap.size v5 (fl ++ [(x1, x2)]) := by
          unfold OwnE
          rw [List.flatMap_append, List.length_append]
          exact HO5.out
        have hb6 := HB3.out.grown HG5.out HB3.out.size (fun q hq => (World.ownsRow.lt HO3.out q hq).1)
        refine ⟨⟨k + 1, by omega, by go_num, by rw [HSt2.out]; exact ho6, hb6⟩, ?_⟩
        simp [intOf]; omega
      · have HSt2 : Hid (filled L (k + 1) = fl) := hide (by rw [HSt.out, if_neg hxx])
        clear HSt
        go_wp2_with fail
        refine ⟨⟨k + 1, by omega, by go_num, by rw [HSt2.out]; exact World.ownsRow.alloc HO.out _, HBel.out.alloc HBel.out.size _⟩, ?_⟩
        simp [intOf]; omega
    · obtain rfl : k = L.length := by omega
      have hfin : ∀ D : List (Int × Int), D.Perm (filled L L.length) → D.Pairwise (fun p q => p.1 ≤ q.1) → Rise L D := by
        intro D hp hs
        have hm : ∀ p, p ∈ D ↔ p ∈ L ∧ p.1 < p.2 := fun p => by
          rw [hp.mem_iff]
          simp [filled]
        exact ⟨hs, fun p hpD => ((hm p).1 hpD).2, hm, by rw [hp.length_eq]; exact filled_le L _⟩
      have HFin := hide hfin
      have hfl := filled_le L L.length
      clear hfin
      obtain ⟨fl, hfle⟩ : ∃ fl, fl = filled L L.length := ⟨_, rfl⟩
      rw [← hfle] at HO HFin hfl
      clear hfle
      rcases row_form2 HO.out with ⟨rfl, hn⟩ | ⟨g, cap, rfl, hg1, hg2⟩
      · go_wp2_with fail
        refine (HS.out.2 wr).mono ?_
        rintro e w5 ⟨rfl, rfl⟩
        go_wp2_with fail
        go_ret
        subst hn
        exact ⟨_, [], rfl, HO.out, HFin.out [] (List.Perm.refl _) List.Pairwise.nil, HBel.out⟩
      · have HC := hide (HS.out.1 wr w.heap.size g cap fl HO.out (by omega))
        go_wp2_with fail
        refine HC.out.mono ?_
        rintro e w5 ⟨rfl, D, hoD, hpD, hsD, hgD⟩
        have HOD := hide hoD
        have HPD := hide (And.intro hpD hsD)
        have HB5 := hide (HBel.out.grown hgD HBel.out.size (fun q hq => by simp at hq; omega))
        clear hoD hpD hsD hgD
        go_wp2_with fail
        go_ret
        exact ⟨_, D, rfl, HOD.out, HFin.out D HPD.out.1 HPD.out.2, HB5.out⟩

end Go.Proofs.YtpbnjobjjnhplaaDoor.Oct
