/- Clone of one partition, of the library. -/
import Derived.Test.YtjpdfchdgphdoaaGreatDoorPQpa
import Derived.Test.YtjpdfchdgphdoaaGreatDoorPMbp
namespace Go.Proofs.YtjpdfchdgphdoaaGreatDoor.Oct
open Go.RowKit

theorem info_pQ : (Tryz.prog.info? 74).map (fun i => (i.zero, i.size, i.bytes)) = some (some (.agg #[.int .i64 0, .int .i64 0, .int .i64 0, .int .i64 0]), 4, 32) := by kernel_rfl

theorem emptyQ (w : World) (t : Nat) : (w.alloc (.cells #[] t)).ownsRow w.heap.size t 4 (.slice (some ⟨w.heap.size, 0, none⟩) 0 0) 0 [] :=
  ⟨rfl, Or.inr ⟨w.heap.size, 0, #[], rfl, Nat.le_refl _, heap_alloc_new w _, Nat.le_refl _, by simp, rfl, rfl⟩⟩

set_option maxRecDepth 100000 in
set_option maxHeartbeats 1000000 in
theorem clone_part (w : World) (b off c : Nat) (x : M4) (h : LiesP w (some ⟨b, off, none⟩) [x]) : Calls Tryz.prog 41 #[.slice (some ⟨b, off, none⟩) 1 c] w fun e w' => ∃ v, e = .returned v ∧ OwnP 74 w' w.heap.size v [x] ∧ Below w.heap.size w w' := by
  have hq := fun u : World => Lib.run_eql_slice_nil u 54 74 (some ⟨b, off, none⟩) 1 c 0 0 Tryz.underlying54
  obtain ⟨i1, hi1, hz0, hz1, hz2⟩ := info_parts info_pQ
  have HE := hide (emptyQ w 74)
  have hb0 : Below w.heap.size w (w.alloc (.cells #[] 74)) := (Below.refl _ _).alloc (Nat.le_refl _) _
  have HB0 := hide hb0
  have HCs : Hid (∀ j u, (encPm x)[j]? = some u → (w.alloc (.cells #[] 74)).cell? ((⟨b, off, none⟩ : Addr).add j) = some u) := hide (fun j u hj => by
    rcases h.below hb0 with e | ⟨b9, o9, e, _, hcc⟩
    · cases e
    · cases e
      obtain ⟨h0, h1, h2, h3⟩ := hcc 0 (by simp)
      simp at h0 h1 h2 h3
      rw [Go.WideShapes.add_plain]
      match j, hj with
      | 0, hj => simp [encPm] at hj; rw [← hj]; exact h0
      | 1, hj => simp [encPm] at hj; rw [← hj]; exact h1
      | 2, hj => simp [encPm] at hj; rw [← hj]; exact h2
      | 3, hj => simp [encPm] at hj; rw [← hj]; exact h3)
  clear h hb0
  go_enter Tryz.func41, Tryz.ntmps41
  go_wp2_with (at_builtin; refine wpList_append_own_at _ rfl _ _ 54 rfl w.heap.size 74 i1 (.agg #[.int .i64 0, .int .i64 0, .int .i64 0, .int .i64 0]) 4 32 Tryz.underlying54 hi1 hz0 hz1 hz2 rfl (by decide) _ 0 [] rfl HE.out ⟨b, off, none⟩ 1 c (encPm x) rfl rfl HCs.out (by intro u hu; simp [encPm] at hu; rcases hu with rfl | rfl | rfl | rfl <;> rfl) (by unfold maxLen; omega) (by omega) (by simp) ?_; intro v9 w9 ho9 hg9 _ hw9; have HO9 := hide ho9; have HB9 := hide (HB0.out.grown hg9 HB0.out.size (fun i hi => (World.ownsRow.lt HE.out i hi).1)); clear ho9 hg9 hw9)
  go_ret
  refine ⟨_, rfl, ?_, HB9.out⟩
  unfold OwnP
  simpa using HO9.out
end Go.Proofs.YtjpdfchdgphdoaaGreatDoor.Oct
