/- Records out of bytes. -/
import Derived.Test.YtkhknfohcebicaaJrb
import Derived.Test.YtkhknfohcebicaaJbk
import Derived.Test.YtkhknfohcebicaaRd
import Derived.Test.YtkhknfohcebicaaLst
namespace Go.Proofs.Ytkhknfohcebicaa.Oct
open Go.RowKit Go.Deep

/-- The record at a place, if there is one. -/
def decO (l : List Int) (p : Nat) : Option RD :=
  if p + 12 ≤ l.length ∧ num l p 8 ≤ 4194304 ∧ num l (p + 8) 4 ≤ (l.length : Int) - (p + 12) then some (num l p 8, (l.drop (p + 12)).take (num l (p + 8) 4).toNat) else none

set_option maxRecDepth 100000 in
set_option maxHeartbeats 4000000 in
theorem decodeOne_any (a : Option Addr) (cap : Nat) (l : List Int) (p : Nat) (w : World) (hlen : l.length ≤ 1000000) (hb : Byts l) (hs : Sl w a cap l) (hp : p ≤ 1000000) :
    Calls Try.prog 89 #[.slice a l.length cap, .int .i64 p] w fun e w' => Below w.heap.size w w' ∧
      ((decO l p = none ∧ e = .returned (.tuple #[.agg #[.int .i64 0, .slice none 0 0], .bool false])) ∨
       (∃ r v, decO l p = some r ∧ e = .returned (.tuple #[.agg #[.int .i64 r.1, v], .bool true]) ∧ Own w' w.heap.size v r.2)) := by
  have HS := hide hs
  have HBy := hide hb
  have HU8 := fun u (hu : Lies u a l) => hide (U64_any a cap l p u (by unfold maxLen; omega) hb hu (by omega) (by omega))
  have HU4 := fun u (hu : Lies u a l) => hide (U32_any a cap l ((p : Int) + 8) u (by unfold maxLen; omega) hb hu (by omega) (by omega))
  have HBx := hide (Blk.new w #[.int .i64 0, .slice none 0 0] 75)
  have hb0 : Below w.heap.size w (w.alloc (.cells #[.int .i64 0, .slice none 0 0] 75)) := (Below.refl _ _).alloc (Nat.le_refl _) _
  have HB := hide hb0
  have HS1 := hide (hs.below hb0)
  clear hs hb hb0
  by_cases h12 : p + 12 ≤ l.length
  · have e8 : numAt l (p : Int) 8 = num l p 8 := numAt_yes (by omega)
    have t8 : thereB l.length (p : Int) 8 = true := thereB_yes (by omega) (by omega) (by omega)
    have c8 : ((p + 8 : Nat) : Int) = (p : Int) + 8 := by omega
    have e4 : numAt l ((p : Int) + 8) 4 = num l (p + 8) 4 := by rw [← c8]; exact numAt_yes (by omega)
    have t4 : thereB l.length ((p : Int) + 8) 4 = true := thereB_yes (by omega) (by omega) (by omega)
    have b8 := num_lt l p HBy.out 8
    have b4 := num_lt l (p + 8) HBy.out 4
    rw [e8, t8] at HU8
    rw [e4, t4] at HU4
    obtain ⟨x, hx⟩ : ∃ x, num l p 8 = x := ⟨_, rfl⟩
    obtain ⟨y, hy⟩ : ∃ y, num l (p + 8) 4 = y := ⟨_, rfl⟩
    rw [hx] at HU8 b8
    rw [hy] at HU4 b4
    have HD : Hid (decO l p = if x ≤ 4194304 ∧ y ≤ (l.length : Int) - (p + 12) then some (x, (l.drop (p + 12)).take y.toNat) else none) := hide (by
      unfold decO
      rw [hx, hy]
      by_cases hc : x ≤ 4194304 ∧ y ≤ (l.length : Int) - (p + 12)
      · rw [if_pos ⟨h12, hc⟩, if_pos hc]
      · rw [if_neg (fun e => hc e.2), if_neg hc])
    have hb8 : x < 18446744073709551616 := by have := b8.2; simpa using this
    have hb4 : y < 4294967296 := by have := b4.2; simpa using this
    obtain ⟨hx0, _⟩ := b8
    obtain ⟨hy0, _⟩ := b4
    clear e8 t8 e4 t4 hx hy c8
    by_cases hxm : x ≤ 4194304
    · have hd1 : decide (4194304 < x) = false := by simp; omega
      have hwx : wrap64 x = x := by unfold wrap64; omega
      have hwy : wrap64 y = y := by unfold wrap64; omega
      obtain ⟨n, rfl⟩ := Int.eq_ofNat_of_zero_le hy0
      by_cases hyl : p + 12 + n ≤ l.length
      · have HSl := fun u (hu : Sl u a cap l) => hide (Slice_yes a cap l (p + 12) n u hlen hu (by omega))
        have c12 : ((p + 12 : Nat) : Int) = (p : Int) + 12 := by omega
        rw [c12] at HSl
        have HQL : Hid (((l.drop (p + 12)).take n).length = n) := hide (by simp; omega)
        have HDn : Hid (decO l p = some (x, (l.drop (p + 12)).take n)) := hide (by
          rw [HD.out, if_pos ⟨hxm, by omega⟩]
          rfl)
        generalize (l.drop (p + 12)).take n = q at *
        go_enter Try.func89, Try.ntmps89
        go_wp2_with fail
        generalize w.alloc (.cells #[.int .i64 0, .slice none 0 0] 75) = w1 at *
        refine ((HU8 _ HS1.out.lies).out).mono ?_
        rintro e9 w2 ⟨rfl, rfl⟩
        go_wp2_with fail
        refine ((HU4 _ HS1.out.lies).out).mono ?_
        rintro e9 w3 ⟨rfl, rfl⟩
        go_wp2_with fail
        refine ((HSl _ HS1.out).out).mono ?_
        rintro e9 w4 ⟨v, rfl, ho4, hb4⟩
        have HX4 := hide (HBx.out.below hb4)
        have HB4 := hide (HB.out.trans (hb4.mono HB.out.size))
        have hbs := HBx.out.lt
        obtain ⟨av, cv, rfl, _⟩ := ho4.form
        rw [HQL.out] at ho4 ⊢
        have c0 := HX4.out.cell 0 _ rfl
        have c1 := HX4.out.cell 1 _ rfl
        have f0 := HX4.out.frozen 0
        have f1 := HX4.out.frozen 1
        have HG4 : Hid (∀ z, Own ((w4.setCell ⟨w.heap.size, 0, none⟩ (.int .i64 x)).setCell ⟨w.heap.size, 1, none⟩ z) w.heap.size (.slice av n cv) q) := hide (fun z => (ho4.chg ((((Chg.refl (fun k => k = w.heap.size) w4).setCell w.heap.size 0 (.int .i64 x) (fun _ => rfl))).setCell w.heap.size 1 z (fun _ => rfl)) (fun g hg e => by
          have := (ho4.lt g hg).1
          omega)).mono (by omega))
        clear ho4 hb4
        go_wp2_with fail
        refine bodyPost_ret (ret_agg rfl _ _ w.heap.size #[.int .i64 x, .slice av n cv] _ rfl rfl (run_loadVar_row _ w.heap.size 75 75 _ (0, 0) _ ((HX4.out.set 0 _).set 1 _) Try.underlying75 rfl (by kernel_rfl))) rfl ?_
        refine ⟨(HB4.out.setCell (p := ⟨w.heap.size, 0, none⟩) (Nat.le_refl _) _).setCell (p := ⟨w.heap.size, 1, none⟩) (Nat.le_refl _) _, Or.inr ⟨(x, q), _, HDn.out, rfl, HG4.out _⟩⟩
      · have HSn := fun u => hide (Slice_no a l.length cap ((p : Int) + 12) n u (by unfold maxLen; omega) (by omega) (by omega) (by omega))
        go_enter Try.func89, Try.ntmps89
        go_wp2_with fail
        generalize w.alloc (.cells #[.int .i64 0, .slice none 0 0] 75) = w1 at *
        refine ((HU8 _ HS1.out.lies).out).mono ?_
        rintro e9 w2 ⟨rfl, rfl⟩
        go_wp2_with fail
        refine ((HU4 _ HS1.out.lies).out).mono ?_
        rintro e9 w3 ⟨rfl, rfl⟩
        go_wp2_with fail
        refine ((HSn _).out).mono ?_
        rintro e9 w4 ⟨rfl, rfl⟩
        have c0 := HBx.out.cell 0 _ rfl
        have c1 := HBx.out.cell 1 _ rfl
        have f0 := HBx.out.frozen 0
        have f1 := HBx.out.frozen 1
        go_wp2_with fail
        refine bodyPost_ret (ret_agg rfl _ _ w.heap.size #[.int .i64 0, .slice none 0 0] _ rfl rfl (run_loadVar_row _ w.heap.size 75 75 _ (0, 0) _ ((HBx.out.set 0 _).set 1 _) Try.underlying75 rfl (by kernel_rfl))) rfl ?_
        refine ⟨(HB.out.setCell (p := ⟨w.heap.size, 0, none⟩) (Nat.le_refl _) _).setCell (p := ⟨w.heap.size, 1, none⟩) (Nat.le_refl _) _, Or.inl ⟨?_, rfl⟩⟩
        rw [HD.out, if_neg (by omega)]
    · have hd1 : decide (4194304 < x) = true := by simp; omega
      go_enter Try.func89, Try.ntmps89
      go_wp2_with fail
      generalize w.alloc (.cells #[.int .i64 0, .slice none 0 0] 75) = w1 at *
      refine ((HU8 _ HS1.out.lies).out).mono ?_
      rintro e9 w2 ⟨rfl, rfl⟩
      go_wp2_with fail
      refine ((HU4 _ HS1.out.lies).out).mono ?_
      rintro e9 w3 ⟨rfl, rfl⟩
      have c0 := HBx.out.cell 0 _ rfl
      have c1 := HBx.out.cell 1 _ rfl
      have f0 := HBx.out.frozen 0
      have f1 := HBx.out.frozen 1
      go_wp2_with fail
      refine bodyPost_ret (ret_agg rfl _ _ w.heap.size #[.int .i64 0, .slice none 0 0] _ rfl rfl (run_loadVar_row _ w.heap.size 75 75 _ (0, 0) _ ((HBx.out.set 0 _).set 1 _) Try.underlying75 rfl (by kernel_rfl))) rfl ?_
      refine ⟨(HB.out.setCell (p := ⟨w.heap.size, 0, none⟩) (Nat.le_refl _) _).setCell (p := ⟨w.heap.size, 1, none⟩) (Nat.le_refl _) _, Or.inl ⟨?_, rfl⟩⟩
      rw [HD.out, if_neg (by omega)]
  · have t4 : thereB l.length ((p : Int) + 8) 4 = false := thereB_no (by omega)
    rw [t4] at HU4
    have HD : Hid (decO l p = none) := hide (by unfold decO; rw [if_neg (fun e => h12 e.1)])
    generalize numAt l ((p : Int) + 8) 4 = y at *
    generalize numAt l (p : Int) 8 = x at *
    generalize thereB l.length (p : Int) 8 = t at *
    clear t4
    go_enter Try.func89, Try.ntmps89
    go_wp2_with fail
    generalize w.alloc (.cells #[.int .i64 0, .slice none 0 0] 75) = w1 at *
    refine ((HU8 _ HS1.out.lies).out).mono ?_
    rintro e9 w2 ⟨rfl, rfl⟩
    go_wp2_with fail
    refine ((HU4 _ HS1.out.lies).out).mono ?_
    rintro e9 w3 ⟨rfl, rfl⟩
    have c0 := HBx.out.cell 0 _ rfl
    have c1 := HBx.out.cell 1 _ rfl
    have f0 := HBx.out.frozen 0
    have f1 := HBx.out.frozen 1
    go_wp2_with fail
    refine bodyPost_ret (ret_agg rfl _ _ w.heap.size #[.int .i64 0, .slice none 0 0] _ rfl rfl (run_loadVar_row _ w.heap.size 75 75 _ (0, 0) _ ((HBx.out.set 0 _).set 1 _) Try.underlying75 rfl (by kernel_rfl))) rfl ?_
    exact ⟨(HB.out.setCell (p := ⟨w.heap.size, 0, none⟩) (Nat.le_refl _) _).setCell (p := ⟨w.heap.size, 1, none⟩) (Nat.le_refl _) _, Or.inl ⟨HD.out, rfl⟩⟩
end Go.Proofs.Ytkhknfohcebicaa.Oct
