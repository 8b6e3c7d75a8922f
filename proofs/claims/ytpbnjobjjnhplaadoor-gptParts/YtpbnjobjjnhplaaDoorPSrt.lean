/- The sort of parts. -/
import Derived.Test.YtpbnjobjjnhplaaDoorPShelf
import Derived.Shelf.SlSortCmp.NoneTotal
import Derived.Test.YtpbnjobjjnhplaaDoorPRis
namespace Go.Proofs.YtpbnjobjjnhplaaDoor.Oct
open Go.RowKit Go.Sort Go.Shelf Go.Lib

set_option maxHeartbeats 1000000 in
theorem less_any (x y : Int × Int) (W : World) : Calls Tryd.prog 63 #[.agg #[.int .i64 x.1, .int .i64 x.2], .agg #[.int .i64 y.1, .int .i64 y.2]] W fun e w' => e = .returned (.int .i64 (Lib.compareInt x.1 y.1)) ∧ ∃ q os', w' = grow (W.drewN q) os' := by
  have hcon := fun W' => AnyG.cmp_Compare_int Tryd.cmpE x.1 y.1 W'
  change ∀ W', Calls Tryd.prog 64 _ _ _ at hcon
  generalize Lib.compareInt x.1 y.1 = r at hcon ⊢
  go_enter Tryd.func63, Tryd.ntmps63
  go_wp2_with (go_at_call 64; refine (hcon _).mono ?_; rintro e w' ⟨rfl, rfl⟩)
  go_ret
  exact ⟨rfl, 0, _, by rw [alloc_eq_grow, alloc_eq_grow, grow_grow]; rfl⟩

theorem cmp_lays (blk off size : Nat) (w : World) : CmpLays Tryd.prog 63 #[] encE 2 (fun x y => Lib.compareInt x.1 y.1) blk off size w :=
  fun _ _ _ _ x y => less_any x y _

theorem lt_from (x y : Int × Int) : ltOf (fun x y : Int × Int => Lib.compareInt x.1 y.1) x y = decide (x.1 < y.1) := by
  unfold ltOf Lib.compareInt
  by_cases h1 : x.1 < y.1
  · simp [h1]
  · by_cases h2 : y.1 < x.1 <;> simp [h1, h2]

theorem swo_from : SWO (ltOf fun x y : Int × Int => Lib.compareInt x.1 y.1) :=
  { irrefl := fun x => by rw [lt_from]; simp
    trans := fun x y z h1 h2 => by rw [lt_from] at *; simp at *; omega
    ntrans := fun x y z h1 h2 => by rw [lt_from] at *; simp at *; omega }

theorem sort_says : SortSays := by
  refine ⟨fun w B g cap L ho hl => ?_, fun w => ?_⟩
  · have eg : ∀ args w, (callFunc 63 args).run Tryd.prog w = .ok (.enter 63 args) w := enters_of Tryd.func63 (by kernel_rfl) rfl
    have hlt := (World.ownsRow.lt ho g rfl).2
    have hcon := AnyQ.slices_SortFunc Tryd.sortE 2 Tryd.isAgg59 Tryd.sizeOf59 encE (fun _ => rfl) (fun x v hv => by simp [encE] at hv; rcases hv with rfl | rfl <;> rfl) (fun x y => Lib.compareInt x.1 y.1) swo_from 63 #[] g 0 cap L.toArray w eg (cmp_lays g 0 L.toArray.size w) (holds_of ho rfl) hlt (by simp; omega)
    change Calls Tryd.prog 62 _ _ _ at hcon
    simp only [List.size_toArray] at hcon
    refine hcon.mono ?_
    rintro e w' ⟨rfl, d', n, os, hp, hs, rfl⟩
    have hsz : d'.size = L.length := by simpa using hp.1
    obtain ⟨h1, h2⟩ := own_sorted ho rfl d' hsz n os
    refine ⟨rfl, d'.toList, h1, ?_, ?_, h2⟩
    · have h3 := hp.2.2
      have e1 : (d'.extract 0 L.length).toList = d'.toList := by rw [← hsz]; simp
      have e2 : (L.toArray.extract 0 L.length).toList = L := by simp
      rw [e1, e2] at h3
      exact h3
    · rw [List.pairwise_iff_getElem]
      intro i j hi hj hij
      have h4 := hs i j (Nat.zero_le _) hij (by simp at hj; omega)
      rw [lt_from] at h4
      have hi' : i < d'.size := by simpa using hi
      have hj' : j < d'.size := by simpa using hj
      rw [getElem!_pos d' j hj', getElem!_pos d' i hi'] at h4
      simp at h4
      simpa using h4
  · exact AnyF.slices_SortFunc_none Tryd.sortE none 0 _ w

end Go.Proofs.YtpbnjobjjnhplaaDoor.Oct
