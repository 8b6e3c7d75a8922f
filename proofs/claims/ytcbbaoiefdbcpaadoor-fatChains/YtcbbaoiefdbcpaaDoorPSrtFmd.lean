/- What all of fat asks: is a volume that holds nothing what it must be? -/
import Derived.Test.YtcbbaoiefdbcpaaDoorPShelf
import Derived.Shelf.SlSortCmp.NoneTotal
import Derived.Test.YtcbbaoiefdbcpaaDoorPRisNorFgh
import Derived.Test.YtcbbaoiefdbcpaaDoorPFmv
namespace Go.Proofs.YtcbbaoiefdbcpaaDoor.Oct
open Go.RowKit Go.Sort Go.Shelf Go.Lib

set_option maxHeartbeats 1000000 in
theorem less_any (x y : Int × Int) (W : World) : Calls Tryd.prog 68 #[.agg #[.int .i64 x.1, .int .i64 x.2], .agg #[.int .i64 y.1, .int .i64 y.2]] W fun e w' => e = .returned (.int .i64 (Lib.compareInt x.1 y.1)) ∧ ∃ q os', w' = grow (W.drewN q) os' := by
  have hcon := fun W' => AnyG.cmp_Compare_int Tryd.cmpE x.1 y.1 W'
  change ∀ W', Calls Tryd.prog 69 _ _ _ at hcon
  generalize Lib.compareInt x.1 y.1 = r at hcon ⊢
  go_enter Tryd.func68, Tryd.ntmps68
  go_wp2_with (go_at_call 69; refine (hcon _).mono ?_; rintro e w' ⟨rfl, rfl⟩)
  go_ret
  exact ⟨rfl, 0, _, by rw [alloc_eq_grow, alloc_eq_grow, grow_grow]; rfl⟩

theorem cmp_lays (blk off size : Nat) (w : World) : CmpLays Tryd.prog 68 #[] encE 2 (fun x y => Lib.compareInt x.1 y.1) blk off size w :=
  fun _ _ _ _ x y => less_any x y _

theorem lt_from (x y : Int × Int) : ltOf (fun x y : Int × Int => Lib.compareInt x.1 y.1) x y = decide (x.1 < y.1) := by
  unfold ltOf Lib.compareInt
  by_cases h1 : x.1 < y.1
  · simp [h1]
  · by_cases h2 : y.1 < x.1 <;> simp [h1, h2]

theorem swo_from : SWO (ltOf fun x y : Int × Int => Lib.compareInt x.1 y.1) :=
  { irrefl := fun x => by rw [lt_from]; simp
    trans := fun x y z h1 h2 => by rw [lt_from] at *; simp at *; omega
    ntrans := fun x y z h1 h2 => by rw [lt_from] at *; simp at *; omega }

theorem sort_says : SortSays := by
  refine ⟨fun w B g cap L ho hl => ?_, fun w => ?_⟩
  · have eg : ∀ args w, (callFunc 68 args).run Tryd.prog w = .ok (.enter 68 args) w := enters_of Tryd.func68 (by kernel_rfl) rfl
    have hlt := (World.ownsRow.lt ho g rfl).2
    have hcon := AnyQ.slices_SortFunc Tryd.sortE 2 Tryd.isAgg72 Tryd.sizeOf72 encE (fun _ => rfl) (fun x v hv => by simp [encE] at hv; rcases hv with rfl | rfl <;> rfl) (fun x y => Lib.compareInt x.1 y.1) swo_from 68 #[] g 0 cap L.toArray w eg (cmp_lays g 0 L.toArray.size w) (holds_of ho rfl) hlt (by simp; omega)
    change Calls Tryd.prog 67 _ _ _ at hcon
    simp only [List.size_toArray] at hcon
    refine hcon.mono ?_
    rintro e w' ⟨rfl, d', n, os, hp, hs, rfl⟩
    have hsz : d'.size = L.length := by simpa using hp.1
    obtain ⟨h1, h2⟩ := own_sorted ho rfl d' hsz n os
    refine ⟨rfl, d'.toList, h1, ?_, ?_, h2⟩
    · have h3 := hp.2.2
      have e1 : (d'.extract 0 L.length).toList = d'.toList := by rw [← hsz]; simp
      have e2 : (L.toArray.extract 0 L.length).toList = L := by simp
      rw [e1, e2] at h3
      exact h3
    · rw [List.pairwise_iff_getElem]
      intro i j hi hj hij
      have h4 := hs i j (Nat.zero_le _) hij (by simp at hj; omega)
      rw [lt_from] at h4
      have hi' : i < d'.size := by simpa using hi
      have hj' : j < d'.size := by simpa using hj
      rw [getElem!_pos d' j hj', getElem!_pos d' i hi'] at h4
      simp at h4
      simpa using h4
  · exact AnyF.slices_SortFunc_none Tryd.sortE none 0 _ w

end Go.Proofs.YtcbbaoiefdbcpaaDoor.Oct

namespace Go.Proofs.YtcbbaoiefdbcpaaDoor.Oct
open Go.RowKit

set_option maxHeartbeats 8000000 in
set_option maxRecDepth 100000 in
theorem made_any (w : World) (hV : Vars w) :
    Calls Tryd.prog 5 #[] w fun e w' => e = .returned (.bool true) ∧ Below w.heap.size w w' := by
  have HM := hide (make64 w hV)
  have HV := hide hV
  clear hV
  go_enter Tryd.func5, Tryd.ntmps5
  go_wp2_with fail
  refine HM.out.mono ?_
  rintro e9 w1 ⟨⟨g1, rfl, ho1⟩, hb1⟩
  have hl1 : Lies w1 (some ⟨g1, 0, none⟩) (mk64 5) := Lies.mk (Own.lies (B := w.heap.size) (cap := 32768) (by rw [mk64_len]; exact ho1))
  have HO := hide (open_ok (some ⟨g1, 0, none⟩) 32768 (mk64 5) b64 58 57 3 w1 (by rw [mk64_len]; omega) (by rw [mk64_len]; omega) (fun e => by cases e) hl1 byts64 (HV.out.below hb1) vol64)
  rw [mk64_len] at HO
  have HB1 := hide hb1
  clear ho1 hb1 hl1 HM
  go_wp2_with fail
  refine HO.out.mono ?_
  rintro e9 w2 ⟨⟨R, g, rfl, hR, hL, hR2, hg2⟩, hb2⟩
  have HR2 := hide hR
  have HB2 := hide (HB1.out.trans (hb2.mono HB1.out.size))
  have HL2 := hide hL
  have HDa : ∀ u, Hid (Calls Tryd.prog 19 #[.agg #[.int .i64 1, .int .i64 4, .int .i64 2, .int .i64 64, .int .i64 1, .int .i64 2, .int .i64 1, .int .i64 2]] u fun e w' => e = .returned (.int .i64 6) ∧ Below u.heap.size u w') := fun u => hide (data_any b64 u (Bt.form_near b64_form).1)
  have HCl : ∀ u, Hid (Calls Tryd.prog 20 #[.agg #[.int .i64 1, .int .i64 4, .int .i64 2, .int .i64 64, .int .i64 1, .int .i64 2, .int .i64 1, .int .i64 2]] u fun e w' => e = .returned (.int .i64 58) ∧ Below u.heap.size u w') := fun u => hide (by
    have h := clus_any b64 u (Bt.form_near b64_form).1
    rw [b64_clus] at h
    exact h)
  have HSp : ∀ u, Blk u R (volC b64 g 58 57 3) 68 → (∀ j, j < 58 → u.cell? ⟨g, j, none⟩ = some (.int .u32 ((numsF (secs (mk64 5) 4 1) 58).getD j 0))) → Hid (Calls Tryd.prog 21 #[.pointer (some ⟨R, 0, none⟩)] u fun e w' => (∃ a c, e = .returned (.slice a 1 c) ∧ LiesE w' a [(3584, 32768)]) ∧ Below u.heap.size u w') := fun u hu hl => hide ((space_ok sort_says b64 R g 58 57 3 _ u b64_form (by omega) hu hl).mono fun e w' ⟨⟨v, N, h1, h2, h3⟩, h4⟩ => by
    have hN := norm64 h3
    subst hN
    obtain ⟨a, c, h5, h6, _⟩ := h2.form
    exact ⟨⟨a, c, by rw [h1, h5]; rfl, h6⟩, h4⟩)
  clear hR hL hR2 hg2 hb2 HO HV
  have d0 : w2.cell? ⟨R, 0, none⟩ = some (.int .i64 1) := HR2.out.cell 0 _ rfl
  have d1 : w2.cell? ⟨R, 1, none⟩ = some (.int .i64 4) := HR2.out.cell 1 _ rfl
  have d2 : w2.cell? ⟨R, 2, none⟩ = some (.int .i64 2) := HR2.out.cell 2 _ rfl
  have d3 : w2.cell? ⟨R, 3, none⟩ = some (.int .i64 64) := HR2.out.cell 3 _ rfl
  have d4 : w2.cell? ⟨R, 4, none⟩ = some (.int .i64 1) := HR2.out.cell 4 _ rfl
  have d5 : w2.cell? ⟨R, 5, none⟩ = some (.int .i64 2) := HR2.out.cell 5 _ rfl
  have d6 : w2.cell? ⟨R, 6, none⟩ = some (.int .i64 1) := HR2.out.cell 6 _ rfl
  have d7 : w2.cell? ⟨R, 7, none⟩ = some (.int .i64 2) := HR2.out.cell 7 _ rfl
  go_wp2_with fail
  clear d0 d1 d2 d3 d4 d5 d6 d7
  refine ((HDa _).out).mono ?_
  rintro e9 w3 ⟨rfl, hb3⟩
  have HR3 := hide (HR2.out.below hb3)
  have HL3 := hide (show ∀ j, j < 58 → w3.cell? ⟨g, j, none⟩ = some (.int .u32 ((numsF (secs (mk64 5) 4 1) 58).getD j 0)) from fun j hj => (hb3.cell (p := ⟨g, j, none⟩) (lt_of_cell (HL2.out j hj))).trans (HL2.out j hj))
  have HB3 := hide (HB2.out.trans (hb3.mono HB2.out.size))
  clear hb3
  have d0 : w3.cell? ⟨R, 0, none⟩ = some (.int .i64 1) := HR3.out.cell 0 _ rfl
  have d1 : w3.cell? ⟨R, 1, none⟩ = some (.int .i64 4) := HR3.out.cell 1 _ rfl
  have d2 : w3.cell? ⟨R, 2, none⟩ = some (.int .i64 2) := HR3.out.cell 2 _ rfl
  have d3 : w3.cell? ⟨R, 3, none⟩ = some (.int .i64 64) := HR3.out.cell 3 _ rfl
  have d4 : w3.cell? ⟨R, 4, none⟩ = some (.int .i64 1) := HR3.out.cell 4 _ rfl
  have d5 : w3.cell? ⟨R, 5, none⟩ = some (.int .i64 2) := HR3.out.cell 5 _ rfl
  have d6 : w3.cell? ⟨R, 6, none⟩ = some (.int .i64 1) := HR3.out.cell 6 _ rfl
  have d7 : w3.cell? ⟨R, 7, none⟩ = some (.int .i64 2) := HR3.out.cell 7 _ rfl
  go_wp2_with fail
  clear d0 d1 d2 d3 d4 d5 d6 d7
  refine ((HCl _).out).mono ?_
  rintro e9 w4 ⟨rfl, hb4⟩
  have hR4 := HR3.out.below hb4
  have hL4 : ∀ j, j < 58 → w4.cell? ⟨g, j, none⟩ = some (.int .u32 ((numsF (secs (mk64 5) 4 1) 58).getD j 0)) := fun j hj => (hb4.cell (p := ⟨g, j, none⟩) (lt_of_cell (HL3.out j hj))).trans (HL3.out j hj)
  have HS4 := HSp w4 hR4 hL4
  have HR4 := hide hR4
  have HL4 := hide hL4
  have HB4 := hide (HB3.out.trans (hb4.mono HB3.out.size))
  clear hb4 hR4 hL4
  go_wp2_with fail
  refine HS4.out.mono ?_
  rintro e9 w5 ⟨⟨a5, c5, rfl, hl5⟩, hb5⟩
  have HS5 := HSp w5 (HR4.out.below hb5) (fun j hj => (hb5.cell (p := ⟨g, j, none⟩) (lt_of_cell (HL4.out j hj))).trans (HL4.out j hj))
  have HB5 := hide (HB4.out.trans (hb5.mono HB4.out.size))
  clear hb5 hl5
  go_wp2_with fail
  refine HS5.out.mono ?_
  rintro e9 w6 ⟨⟨a6, c6, rfl, hl6⟩, hb6⟩
  have HB6 := hide (HB5.out.trans (hb6.mono HB5.out.size))
  rcases hl6 with hn | ⟨b6, o6, ha6, _, hc6⟩
  · simp at hn
  · subst ha6
    have k0 := (hc6 0 (by simp)).1
    simp at k0
    clear hb6 hc6
    go_wp2_with fail
    go_ret
    exact ⟨rfl, HB6.out⟩
end Go.Proofs.YtcbbaoiefdbcpaaDoor.Oct
