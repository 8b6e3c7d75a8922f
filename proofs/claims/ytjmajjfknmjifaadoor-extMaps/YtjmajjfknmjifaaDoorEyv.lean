/- ExtMaps: bits are asked, set and counted. -/
import Derived.Test.YtjmajjfknmjifaaDoorEyu
import Derived.Test.YtjmajjfknmjifaaDoorEva
import Derived.Test.YtjmajjfknmjifaaDoorTak
import Derived.Test.YtjmajjfknmjifaaDoorLst
namespace Go.Proofs.YtjmajjfknmjifaaDoor.Oct
open Go.RowKit

/-- A slice of numbers, and one of bools, anybody's. -/
def LiesZ (w : World) (a : Option Addr) (L : List Int) : Prop := L = [] ∨ ∃ b off, a = some ⟨b, off, none⟩ ∧ ∀ j : Nat, j < L.length → w.cell? ⟨b, off + j, none⟩ = some (.int .i64 (L.getD j 0))
def LiesO (w : World) (a : Option Addr) (L : List Bool) : Prop := L = [] ∨ ∃ b off, a = some ⟨b, off, none⟩ ∧ ∀ j : Nat, j < L.length → w.cell? ⟨b, off + j, none⟩ = some (.bool (L.getD j false))
theorem LiesZ.below {w w' : World} {a : Option Addr} {L : List Int} (h : LiesZ w a L) (hb : Below w.heap.size w w') : LiesZ w' a L :=
  h.imp id fun ⟨b, off, h1, h2⟩ => ⟨b, off, h1, fun j hj => (hb.cell (p := ⟨b, off + j, none⟩) (lt_of_cell (h2 j hj))).trans (h2 j hj)⟩
theorem LiesO.below {w w' : World} {a : Option Addr} {L : List Bool} (h : LiesO w a L) (hb : Below w.heap.size w w') : LiesO w' a L :=
  h.imp id fun ⟨b, off, h1, h2⟩ => ⟨b, off, h1, fun j hj => (hb.cell (p := ⟨b, off + j, none⟩) (lt_of_cell (h2 j hj))).trans (h2 j hj)⟩

theorem info_boolE : (Tryd.prog.info? 4).map (fun i => (i.zero, i.size, i.bytes)) = some (some (.bool false), 1, 1) := by kernel_rfl
theorem run_make_boolE (w : World) (n : Nat) (hn : n ≤ 100000000) : (Instr.makeSlice 60 (.int .i64 n) (.int .i64 n)).run Tryd.prog w = .ok (.slice (some ⟨w.heap.size, 0, none⟩) n n) (w.alloc (.cells (madeCells #[.bool false] n) 4)) := by
  obtain ⟨i0, hi, hz0, hz1, hz2⟩ := info_parts info_boolE
  have h := run_make (P := Tryd.prog) w 60 4 i0 (.bool false) Tryd.underlying60 hi hz0 .i64 .i64 (n : Int) (n : Int) (by omega) (Int.le_refl _) (by rw [hz2]; omega) (by omega)
  simpa [hz1, Value.cells] using h
set_option maxHeartbeats 16000000 in
set_option maxRecDepth 100000 in
theorem emaps_walk (HMd : ∀ u, VarX u → Calls Tryd.prog 7 #[] u fun e w' => e = .returned (.bool true) ∧ Below u.heap.size u w') (aB : Option Addr) (cB : Nat) (B : List Int) (aA : Option Addr) (cA : Nat) (L : List Int) (aO : Option Addr) (cO : Nat) (O : List Bool) (N : Int) (w : World) (hb : Byts B) (hs : Sl w aB cB B) (hA : LiesZ w aA L) (hAr : ∀ j, -9223372036854775808 ≤ L.getD j 0 ∧ L.getD j 0 ≤ 9223372036854775807) (hO : LiesO w aO O) (hV : VarX w) :
    Calls Tryd.prog 5 #[.agg #[.slice aB B.length cB, .slice aA L.length cA, .slice aO O.length cO, .int .i64 N]] w fun e w' => e = .returned (.bool true) ∧ Below w.heap.size w w' := by
  obtain ⟨nB, hnB⟩ : ∃ n, n = B.length := ⟨_, rfl⟩
  obtain ⟨nA, hnA⟩ : ∃ n, n = L.length := ⟨_, rfl⟩
  obtain ⟨nO, hnO⟩ : ∃ n, n = O.length := ⟨_, rfl⟩
  rw [← hnB, ← hnA, ← hnO]
  obtain ⟨w1, hw1⟩ : ∃ w1, w1 = (w.alloc (.cells #[.slice aB nB cB, .slice aA nA cA, .slice aO nO cO, .int .i64 N] 62)) := ⟨_, rfl⟩
  have hb1 : Below w.heap.size w w1 := by rw [hw1]; exact (Below.refl _ _).alloc (Nat.le_refl _) _
  have HI := hide (show Blk w1 w.heap.size #[.slice aB nB cB, .slice aA nA cA, .slice aO nO cO, .int .i64 N] 62 by rw [hw1]; exact Blk.new _ _ _)
  have HH := hide (And.intro (HI.out.cell 0 _ rfl) (And.intro (HI.out.cell 1 _ rfl) (And.intro (HI.out.cell 2 _ rfl) (HI.out.cell 3 _ rfl))))
  have HW1 := hide hw1
  have HB := hide hb1.drew
  have HV := hide (hV.below hb1.drew)
  have HS := hide (hs.below hb1.drew)
  have HA := hide (hA.below hb1.drew)
  have HO := hide (hO.below hb1.drew)
  have HBy := hide hb
  have HAr := hide hAr
  have HNB := hide hnB
  have HNA := hide hnA
  have HNO := hide hnO
  have HMd := hide HMd
  clear hV hb1 hs hb hA hAr hO hnB hnA hnO hw1
  go_enter Tryd.func5, Tryd.ntmps5
  go_wp2_with fail
  rw [← HW1.out]
  refine wp_region_held_drew (S := (fun u => u.cell? ⟨w.heap.size, 0, none⟩ = some (.slice aB nB cB) ∧ u.cell? ⟨w.heap.size, 1, none⟩ = some (.slice aA nA cA) ∧ u.cell? ⟨w.heap.size, 2, none⟩ = some (.slice aO nO cO) ∧ u.cell? ⟨w.heap.size, 3, none⟩ = some (.int .i64 N))) (by kernel_rfl) HH.out (fun _ => ?_)
  refine any_take 0 (some 13) (.pointer (some ⟨w.heap.size, 0, none⟩)) rfl rfl (by kernel_rfl) (by kernel_rfl) (by kernel_rfl) (fun _ _ _ h => h) (by rfl) HH.out ?_ ?_
  · intro w hSw
    obtain ⟨s0, s1, s2, s3⟩ := hSw
    go_simp
  simp only [Act.put, List.setIfInBounds_toArray, List.set_cons_zero, List.set_cons_succ]
  refine any_take 1 (some 14) (.slice aB nB cB) rfl rfl (by kernel_rfl) (by kernel_rfl) (by kernel_rfl) (fun _ _ _ h => h) (by rfl) HH.out ?_ ?_
  · intro w hSw
    obtain ⟨s0, s1, s2, s3⟩ := hSw
    go_simp
  simp only [Act.put, List.setIfInBounds_toArray, List.set_cons_zero, List.set_cons_succ]
  refine any_take 2 (some 15) (.pointer (some ⟨w.heap.size, 1, none⟩)) rfl rfl (by kernel_rfl) (by kernel_rfl) (by kernel_rfl) (fun _ _ _ h => h) (by rfl) HH.out ?_ ?_
  · intro w hSw
    obtain ⟨s0, s1, s2, s3⟩ := hSw
    go_simp
  simp only [Act.put, List.setIfInBounds_toArray, List.set_cons_zero, List.set_cons_succ]
  refine any_take 3 (some 16) (.slice aA nA cA) rfl rfl (by kernel_rfl) (by kernel_rfl) (by kernel_rfl) (fun _ _ _ h => h) (by rfl) HH.out ?_ ?_
  · intro w hSw
    obtain ⟨s0, s1, s2, s3⟩ := hSw
    go_simp
  simp only [Act.put, List.setIfInBounds_toArray, List.set_cons_zero, List.set_cons_succ]
  refine any_take 4 (some 17) (.pointer (some ⟨w.heap.size, 2, none⟩)) rfl rfl (by kernel_rfl) (by kernel_rfl) (by kernel_rfl) (fun _ _ _ h => h) (by rfl) HH.out ?_ ?_
  · intro w hSw
    obtain ⟨s0, s1, s2, s3⟩ := hSw
    go_simp
  simp only [Act.put, List.setIfInBounds_toArray, List.set_cons_zero, List.set_cons_succ]
  refine any_take 5 (some 18) (.slice aO nO cO) rfl rfl (by kernel_rfl) (by kernel_rfl) (by kernel_rfl) (fun _ _ _ h => h) (by rfl) HH.out ?_ ?_
  · intro w hSw
    obtain ⟨s0, s1, s2, s3⟩ := hSw
    go_simp
  simp only [Act.put, List.setIfInBounds_toArray, List.set_cons_zero, List.set_cons_succ]
  refine any_take 6 (some 19) (.pointer (some ⟨w.heap.size, 3, none⟩)) rfl rfl (by kernel_rfl) (by kernel_rfl) (by kernel_rfl) (fun _ _ _ h => h) (by rfl) HH.out ?_ ?_
  · intro w hSw
    obtain ⟨s0, s1, s2, s3⟩ := hSw
    go_simp
  simp only [Act.put, List.setIfInBounds_toArray, List.set_cons_zero, List.set_cons_succ]
  refine any_take 7 (some 20) (.int .i64 N) rfl rfl (by kernel_rfl) (by kernel_rfl) (by kernel_rfl) (fun _ _ _ h => h) (by rfl) HH.out ?_ ?_
  · intro w hSw
    obtain ⟨s0, s1, s2, s3⟩ := hSw
    go_simp
  simp only [Act.put, List.setIfInBounds_toArray, List.set_cons_zero, List.set_cons_succ]
  refine any_take 8 (some 3) (.slice aB nB cB) rfl rfl (by kernel_rfl) (by kernel_rfl) (by kernel_rfl) (fun _ _ _ h => h) (by rfl) HH.out ?_ ?_
  · intro w hSw
    obtain ⟨s0, s1, s2, s3⟩ := hSw
    go_simp
  simp only [Act.put, List.setIfInBounds_toArray, List.set_cons_zero, List.set_cons_succ]
  refine any_take 9 (some 4) (.slice aA nA cA) rfl rfl (by kernel_rfl) (by kernel_rfl) (by kernel_rfl) (fun _ _ _ h => h) (by rfl) HH.out ?_ ?_
  · intro w hSw
    obtain ⟨s0, s1, s2, s3⟩ := hSw
    go_simp
  simp only [Act.put, List.setIfInBounds_toArray, List.set_cons_zero, List.set_cons_succ]
  refine any_take 10 (some 5) (.slice aO nO cO) rfl rfl (by kernel_rfl) (by kernel_rfl) (by kernel_rfl) (fun _ _ _ h => h) (by rfl) HH.out ?_ ?_
  · intro w hSw
    obtain ⟨s0, s1, s2, s3⟩ := hSw
    go_simp
  simp only [Act.put, List.setIfInBounds_toArray, List.set_cons_zero, List.set_cons_succ]
  refine any_take 11 (some 6) (.int .i64 N) rfl rfl (by kernel_rfl) (by kernel_rfl) (by kernel_rfl) (fun _ _ _ h => h) (by rfl) HH.out ?_ ?_
  · intro w hSw
    obtain ⟨s0, s1, s2, s3⟩ := hSw
    go_simp
  simp only [Act.put, List.setIfInBounds_toArray, List.set_cons_zero, List.set_cons_succ]
  refine wpAnyH_done (by kernel_rfl) ?_ _
  obtain ⟨w2, hw2⟩ : ∃ w2, w2 = w1.drew := ⟨_, rfl⟩
  rw [← hw2] at HB HV HS HA HO ⊢
  clear hw2 HW1 HI HH
  by_cases hbig : 200 < nB ∨ 50 < nA
  · have HM := hide (HMd.out w2 HV.out)
    cases d1 : decide ((200 : Int) < (nB : Int))
    · have d2 : decide ((50 : Int) < (nA : Int)) = true := by have := of_decide_eq_false d1; simp; omega
      clear hbig
      go_wp2_with fail
      refine HM.out.mono ?_
      rintro e9 w3 ⟨rfl, hb3⟩
      have HB := hide (HB.out.trans (hb3.mono HB.out.size))
      clear hb3
      go_wp2_with fail
      go_ret
      exact ⟨rfl, HB.out⟩
    · clear hbig
      go_wp2_with fail
      refine HM.out.mono ?_
      rintro e9 w3 ⟨rfl, hb3⟩
      have HB := hide (HB.out.trans (hb3.mono HB.out.size))
      clear hb3
      go_wp2_with fail
      go_ret
      exact ⟨rfl, HB.out⟩
  have d1 : decide ((200 : Int) < (nB : Int)) = false := by simp; omega
  have d2 : decide ((50 : Int) < (nA : Int)) = false := by simp; omega
  have HSm := hide (show nB ≤ 200 ∧ nA ≤ 50 by omega)
  have HPt := hide (Part_any aB cB B w2 (by rw [← HNB.out]; omega) HS.out)
  rw [← HNB.out] at HPt
  have HA2 := HA
  have HO2 := HO
  have HV2 := HV
  have HB2 := HB
  clear hbig
  go_wp2_with fail
  refine HPt.out.mono ?_
  rintro e9 w3 ⟨v3, rfl, ho3, hb3⟩
  obtain ⟨a3, c3, hv3, hs3, hne3⟩ := ho3.sl
  rw [← HNB.out] at hv3
  subst hv3
  have HM3 := hide ho3
  have HNe := hide hne3
  have HV := hide (HV.out.below hb3)
  have HS := hide (HS.out.below hb3)
  have HA := hide (HA.out.below hb3)
  have HO := hide (HO.out.below hb3)
  have HB := hide (HB.out.trans (hb3.mono HB.out.size))
  have H23 := hide hb3
  obtain ⟨n8, hn8⟩ : ∃ n8, n8 = 8 * nB := ⟨_, rfl⟩
  have hw8 : IntKind.i64.wrap (8 * (nB : Int)) = (n8 : Int) := by rw [IntKind.wrap_i64]; have := HSm.out; omega
  have hmk := run_make_boolE w3 n8 (by have := HSm.out; omega)
  obtain ⟨w4, hw4⟩ : ∃ w4, w4 = w3.alloc (.cells (madeCells #[.bool false] n8) 4) := ⟨_, rfl⟩
  have hb4 : Below w3.heap.size w3 w4 := by rw [hw4]; exact (Below.refl _ _).alloc (Nat.le_refl _) _
  have HO4 := hide (show OwnO w4 w3.heap.size w3.heap.size n8 (bitsL B 0) by rw [hw4, bitsL_zero, ← HNB.out, ← hn8]; exact OwnO.made w3 n8 (by have := HSm.out; unfold maxLen; omega))
  rw [← hw4] at hmk
  have HN8 := hide hn8
  have HM4 := hide (HM3.out.below hb4)
  have HB4 := hide (HB.out.trans (hb4.mono HB.out.size))
  have HBi := hide (fun (j : Nat) (hj : j < n8) (u : World) (hu : Lies u aB B) => hide (rbit_any aB cB B (j : Int) u (by rw [← HNB.out]; have := HSm.out; omega) hu HBy.out (by have := HSm.out; omega)))
  rw [← HNB.out] at HBi
  have H34 := hide hb4
  clear hw4 hb4 hn8 ho3 hs3 hne3 hb3 HPt
  go_wp2_with fail
  clear hmk
  go_loopw [9] (fun i wr => ∃ j : Nat, j ≤ n8 ∧ i = .int .i64 (j : Int) ∧ OwnO wr w3.heap.size w3.heap.size n8 (bitsL B j) ∧ Chg (fun k => k = w3.heap.size) w4 wr) (fun i _ => n8 - (intOf i).toNat)
  case atStart => exact ⟨0, by omega, rfl, HO4.out, Chg.refl _ _⟩
  case round =>
    obtain ⟨j, hj, rfl, ho, hc⟩ := hrel
    obtain ⟨W2, hW2⟩ : ∃ W2, W2 = wr := ⟨_, rfl⟩
    subst hW2
    have HOr := hide ho
    have HCr := hide hc
    have hBr : Below w3.heap.size w3 W2 := H34.out.trans (Chg.below w3.heap.size hc H34.out.size (fun i hi e => by omega))
    have HBr := hide hBr
    by_cases hlt : j < n8
    · have hltI : (j : Int) < (n8 : Int) := by omega
      have HBj := hide (HBi.out j hlt W2 (HS.out.lies.below hBr))
      have hcell := ho.cell j hlt
      have hfr := ho.free j
      have HSet := hide (fun x => ho.set j x)
      have hjw : IntKind.i64.wrap ((j : Int) + 1) = (j : Int) + 1 := by rw [IntKind.wrap_i64]; have := HSm.out; have := HN8.out; omega
      have hjw2 : IntKind.i64.wrap (j : Int) = (j : Int) := by rw [IntKind.wrap_i64]; have := HSm.out; have := HN8.out; omega
      have HJ := hide hlt
      have HNx := hide (bitsL_next B j)
      obtain ⟨h, hh⟩ : ∃ h, h = hasB B (j : Int) := ⟨_, rfl⟩
      simp only [← hh] at HBj
      rw [← hh] at HNx
      clear hh hlt hj ho hc hBr
      go_wp2_with fail
      refine HBj.out.out.mono ?_
      rintro e9 w5 ⟨rfl, h5⟩
      rw [h5]
      clear h5
      go_wp2_with fail
      go_roundw
      case rel => exact ⟨j + 1, by have := HJ.out; omega, by go_num, by rw [HNx.out]; exact (HSet.out h).1, HCr.out.trans ((Chg.of_grown (HSet.out h).2).mono (fun i _ e => Option.some.inj e))⟩
      case measure => have := HJ.out; simp [intOf]; omega
    · obtain rfl : j = n8 := by omega
      have HOf := hide (show OwnO W2 w3.heap.size w3.heap.size j (bitsL B (8 * B.length)) by rw [← HNB.out, ← HN8.out]; exact ho)
      have HMf := hide (show Own W2 w2.heap.size (.slice a3 nB c3) B from ownsRow_chg HM4.out hc (fun g hg e => by have h1 := World.ownsRow.lt HM3.out g hg; omega))
      have HBf := hide (show Below w2.heap.size w2 W2 from H23.out.trans (hBr.mono H23.out.size))
      have HGs := hide H23.out.size
      have HGg := hide (show ∀ g, (Value.slice a3 nB c3).ownBlock = some g → w2.heap.size ≤ g ∧ g < w3.heap.size from fun g hg => World.ownsRow.lt HM3.out g hg)
      obtain ⟨G, hG⟩ : ∃ G, G = w3.heap.size := ⟨_, rfl⟩
      rw [← hG] at HOf HGs HGg ⊢
      clear hlt hj ho hc hBr HOr HCr HBr HBi HM4 HO4 HB4 H34 H23 HM3 hG
      go_wp2_with fail
      go_loopw [10] (fun i wr => ∃ (j' : Nat) (M : List Int), j' ≤ nA ∧ i = .int .i64 (j' : Int) ∧ Byts M ∧ M.length = nB ∧ Own wr w2.heap.size (.slice a3 nB c3) M ∧ OwnO wr G G j (bitsL M (8 * M.length)) ∧ Below w2.heap.size w2 wr) (fun i _ => nA - (intOf i).toNat)
      case atStart => exact ⟨0, B, by omega, rfl, HBy.out, HNB.out.symm, HMf.out, HOf.out, HBf.out⟩
      case round =>
        obtain ⟨t, M, ht, rfl, hbm, hml, hom, hob, hbw⟩ := hrel
        obtain ⟨W3, hW3⟩ : ∃ W3, W3 = wr := ⟨_, rfl⟩
        subst hW3
        have HMb := hide hbm
        have HMl := hide hml
        have HOm := hide hom
        have HOb := hide hob
        have HBw := hide hbw
        by_cases hlt : t < nA
        · obtain ⟨bA, oA, haA, hcA⟩ : ∃ b off, aA = some ⟨b, off, none⟩ ∧ ∀ k : Nat, k < L.length → W3.cell? ⟨b, off + k, none⟩ = some (.int .i64 (L.getD k 0)) := by
            rcases (HA2.out.below hbw) with h | h
            · have := HNA.out; rw [h] at this; simp at this; omega
            · exact h
          subst haA
          have hcx := hcA t (by rw [← HNA.out]; exact hlt)
          have hrx := HAr.out t
          have htI : (t : Int) < (nA : Int) := by omega
          have htw : IntKind.i64.wrap ((t : Int) + 1) = (t : Int) + 1 := by rw [IntKind.wrap_i64]; have := HSm.out; omega
          have HT := hide hlt
          have HCx := hide (fun (u : World) (hb : Below w2.heap.size w2 u) => show u.cell? ⟨bA, oA + t, none⟩ = some (.int .i64 (L.getD t 0)) from by
            rcases HA2.out with h | ⟨b, off, h1, h2⟩
            · have := HNA.out; rw [h] at this; simp at this; have := HT.out; omega
            · cases h1
              have h3 := h2 t (by rw [← HNA.out]; exact HT.out)
              exact (hb.cell (p := ⟨bA, oA + t, none⟩) (lt_of_cell h3)).trans h3)
          obtain ⟨x, hx⟩ : ∃ x, x = L.getD t 0 := ⟨_, rfl⟩
          simp only [← hx] at hcx hrx HCx
          have HRx := hide hrx
          clear hx hcA hlt ht hbm hml hom hob hbw
          cases d0 : decide ((t : Int) < (nO : Int))
          · obtain ⟨v, hv⟩ : ∃ v, v = false := ⟨_, rfl⟩
            have d0n : decide (t < nO) = false := by have := of_decide_eq_false d0; simp; omega
            have d0p : ¬ ((t : Int) < (nO : Int)) := of_decide_eq_false d0
            subst hv
            by_cases hin : 0 ≤ x ∧ x < (j : Int)
            · obtain ⟨X, rfl⟩ : ∃ X : Nat, x = X := ⟨x.toNat, by omega⟩
              have HXn := hide (show X < j by omega)
              obtain ⟨gM, rfl⟩ : ∃ gM, a3 = some ⟨gM, 0, none⟩ := by
                obtain ⟨g, h, _⟩ := HNe.out (by intro e; have h1 := HNB.out; rw [e] at h1; simp at h1; have := HN8.out; omega)
                exact ⟨g, h⟩
              clear hin
              have HSe := hide (by
                have h := set_in w2.heap.size gM c3 M (X : Int) false W3 (by rw [HMl.out]; have := HSm.out; omega) (by rw [HMl.out]; exact HOm.out) HMb.out (by rw [HMl.out]; have := HN8.out; have := HXn.out; omega)
                rw [HMl.out] at h
                exact h)
              go_wp2_with fail
              refine HSe.out.mono ?_
              rintro e9 W4 ⟨rfl, ho4, hg4⟩
              have HBx := hide (show Below w2.heap.size w2 W4 from HBw.out.trans (Chg.below w2.heap.size (Chg.of_grown hg4) HBw.out.size (fun i hi e => by have := Option.some.inj e; have := (HGg.out gM rfl).1; omega)))
              have HOb4 := hide (HOb.out.keep (Chg.of_grown hg4) (fun e => by have := Option.some.inj e; have := (HGg.out gM rfl).2; omega))
              have HOm4 := hide ho4
              have hcx4 := HCx.out W4 HBx.out
              have d1 : decide ((0 : Int) ≤ (X : Int)) = true := by simp
              have d2 : decide ((X : Int) < (j : Int)) = true := by have := HXn.out; simp; omega
              have hXI : (X : Int) < (j : Int) := by have := HXn.out; omega
              have hX0 : (0 : Int) ≤ (X : Int) := by omega
              have hfr := HOb4.out.free X
              have hcl := HOb4.out.cell X HXn.out
              have hst := HOb4.out.set X false
              obtain ⟨W5, hW5⟩ : ∃ W5, W5 = W4.setCell ⟨G, X, none⟩ (.bool false) := ⟨_, rfl⟩
              have HBx5 := hide (show Below w2.heap.size w2 W5 from by rw [hW5]; exact HBx.out.setCell (p := ⟨G, X, none⟩) HGs.out _)
              have hcx5 := HCx.out W5 HBx5.out
              have HOb5 := hide (show OwnO W5 G G j (bitsL (setB M (X : Int) false) (8 * (setB M (X : Int) false).length)) by
                rw [hW5, setB_len, bitsL_set HMb.out X false (by rw [HMl.out, ← HN8.out]; exact HXn.out)]
                exact hst.1)
              have HOm5 := hide (show Own W5 w2.heap.size (.slice (some ⟨gM, 0, none⟩) nB c3) (setB M (X : Int) false) by
                rw [hW5]
                exact ownsRow_chg HOm4.out (Chg.of_grown hst.2) (fun g hg e => by have h1 := HGg.out g hg; have := Option.some.inj e; omega))
              have hsl := HOm5.out.sl
              obtain ⟨a9, c9, e9, hs9, _⟩ := hsl
              have HHa := hide (by
                have h := has_any (some ⟨gM, 0, none⟩) c3 (setB M (X : Int) false) (X : Int) W5 (by rw [setB_len, HMl.out]; have := HSm.out; omega) (by injection e9 with k1 k2 k3; rw [k1]; exact hs9.lies) (setB_byts HMb.out _ _) (by have := HRx.out; omega)
                rw [setB_len, HMl.out, hasB_set HMb.out _ _ _ (by rw [HMl.out]; have := HN8.out; have := HXn.out; omega), if_pos rfl] at h
                exact h)
              have HW5 := hide hW5
              rw [hW5] at hcx5
              clear hs9 e9 hst ho4 hg4 hW5
              go_wp2_with fail
              rw [← HW5.out]
              refine HHa.out.mono ?_
              rintro e9 W6 ⟨rfl, h6⟩
              rw [h6]
              clear h6
              all_goals
                go_wp2_with fail
                go_roundw
                case rel => exact ⟨t + 1, _, by have := HT.out; omega, by go_num, setB_byts HMb.out _ _, by rw [setB_len]; exact HMl.out, HOm5.out, HOb5.out, HBx5.out⟩
                case measure => have := HT.out; simp [intOf]; omega
            · have hnin : ¬ (0 ≤ x ∧ x < 8 * (nB : Int)) := fun c => hin ⟨c.1, by have := HN8.out; omega⟩
              by_cases h0 : 0 ≤ x
              · have d1 : decide ((0 : Int) ≤ x) = true := by simpa using h0
                have d2 : decide (x < (j : Int)) = false := by simp; omega
                clear hin h0
                have HSe := hide (set_off a3 nB c3 x false W3 (by have := HSm.out; omega) hnin)
                have hsl := HOm.out.sl
                obtain ⟨a9, c9, e9, hs9, _⟩ := hsl
                have HHa := hide (by
                  have h := has_any a3 c3 M x W3 (by rw [HMl.out]; have := HSm.out; omega) (by injection e9 with k1 k2 k3; rw [k1]; exact hs9.lies) HMb.out HRx.out
                  rw [hasB_off (by rw [HMl.out]; exact hnin), HMl.out] at h
                  exact h)
                clear hs9 e9 hnin
                go_wp2_with fail
                refine HSe.out.mono ?_
                rintro e9 W4 ⟨rfl, h4⟩
                rw [h4]
                clear h4
                go_wp2_with fail
                refine HHa.out.mono ?_
                rintro e9 W6 ⟨rfl, h6⟩
                rw [h6]
                clear h6
                go_wp2_with fail
                go_roundw
                case rel => exact ⟨t + 1, M, by have := HT.out; omega, by go_num, HMb.out, HMl.out, HOm.out, HOb.out, HBw.out⟩
                case measure => have := HT.out; simp [intOf]; omega
              · have d1 : decide ((0 : Int) ≤ x) = false := by simpa using h0
                clear hin h0
                have HSe := hide (set_off a3 nB c3 x false W3 (by have := HSm.out; omega) hnin)
                have hsl := HOm.out.sl
                obtain ⟨a9, c9, e9, hs9, _⟩ := hsl
                have HHa := hide (by
                  have h := has_any a3 c3 M x W3 (by rw [HMl.out]; have := HSm.out; omega) (by injection e9 with k1 k2 k3; rw [k1]; exact hs9.lies) HMb.out HRx.out
                  rw [hasB_off (by rw [HMl.out]; exact hnin), HMl.out] at h
                  exact h)
                clear hs9 e9 hnin
                go_wp2_with fail
                refine HSe.out.mono ?_
                rintro e9 W4 ⟨rfl, h4⟩
                rw [h4]
                clear h4
                go_wp2_with fail
                refine HHa.out.mono ?_
                rintro e9 W6 ⟨rfl, h6⟩
                rw [h6]
                clear h6
                go_wp2_with fail
                go_roundw
                case rel => exact ⟨t + 1, M, by have := HT.out; omega, by go_num, HMb.out, HMl.out, HOm.out, HOb.out, HBw.out⟩
                case measure => have := HT.out; simp [intOf]; omega
          · obtain ⟨bO, oO, haO, hcO⟩ : ∃ b off, aO = some ⟨b, off, none⟩ ∧ ∀ k : Nat, k < O.length → W3.cell? ⟨b, off + k, none⟩ = some (.bool (O.getD k false)) := by
              rcases (HO2.out.below HBw.out) with h | h
              · have h1 := HNO.out; rw [h] at h1; simp at h1; have := of_decide_eq_true d0; omega
              · exact h
            subst haO
            have hcv := hcO t (by rw [← HNO.out]; have := of_decide_eq_true d0; omega)
            have htO : (t : Int) < (nO : Int) := of_decide_eq_true d0
            obtain ⟨v, hv⟩ : ∃ v, v = O.getD t false := ⟨_, rfl⟩
            rw [← hv] at hcv
            clear hv hcO
            by_cases hin : 0 ≤ x ∧ x < (j : Int)
            · obtain ⟨X, rfl⟩ : ∃ X : Nat, x = X := ⟨x.toNat, by omega⟩
              have HXn := hide (show X < j by omega)
              obtain ⟨gM, rfl⟩ : ∃ gM, a3 = some ⟨gM, 0, none⟩ := by
                obtain ⟨g, h, _⟩ := HNe.out (by intro e; have h1 := HNB.out; rw [e] at h1; simp at h1; have := HN8.out; omega)
                exact ⟨g, h⟩
              clear hin
              have HSe := hide (by
                have h := set_in w2.heap.size gM c3 M (X : Int) v W3 (by rw [HMl.out]; have := HSm.out; omega) (by rw [HMl.out]; exact HOm.out) HMb.out (by rw [HMl.out]; have := HN8.out; have := HXn.out; omega)
                rw [HMl.out] at h
                exact h)
              go_wp2_with fail
              refine HSe.out.mono ?_
              rintro e9 W4 ⟨rfl, ho4, hg4⟩
              have HBx := hide (show Below w2.heap.size w2 W4 from HBw.out.trans (Chg.below w2.heap.size (Chg.of_grown hg4) HBw.out.size (fun i hi e => by have := Option.some.inj e; have := (HGg.out gM rfl).1; omega)))
              have HOb4 := hide (HOb.out.keep (Chg.of_grown hg4) (fun e => by have := Option.some.inj e; have := (HGg.out gM rfl).2; omega))
              have HOm4 := hide ho4
              have hcx4 := HCx.out W4 HBx.out
              have d1 : decide ((0 : Int) ≤ (X : Int)) = true := by simp
              have d2 : decide ((X : Int) < (j : Int)) = true := by have := HXn.out; simp; omega
              have hXI : (X : Int) < (j : Int) := by have := HXn.out; omega
              have hX0 : (0 : Int) ≤ (X : Int) := by omega
              have hfr := HOb4.out.free X
              have hcl := HOb4.out.cell X HXn.out
              have hst := HOb4.out.set X v
              obtain ⟨W5, hW5⟩ : ∃ W5, W5 = W4.setCell ⟨G, X, none⟩ (.bool v) := ⟨_, rfl⟩
              have HBx5 := hide (show Below w2.heap.size w2 W5 from by rw [hW5]; exact HBx.out.setCell (p := ⟨G, X, none⟩) HGs.out _)
              have hcx5 := HCx.out W5 HBx5.out
              have HOb5 := hide (show OwnO W5 G G j (bitsL (setB M (X : Int) v) (8 * (setB M (X : Int) v).length)) by
                rw [hW5, setB_len, bitsL_set HMb.out X v (by rw [HMl.out, ← HN8.out]; exact HXn.out)]
                exact hst.1)
              have HOm5 := hide (show Own W5 w2.heap.size (.slice (some ⟨gM, 0, none⟩) nB c3) (setB M (X : Int) v) by
                rw [hW5]
                exact ownsRow_chg HOm4.out (Chg.of_grown hst.2) (fun g hg e => by have h1 := HGg.out g hg; have := Option.some.inj e; omega))
              have hsl := HOm5.out.sl
              obtain ⟨a9, c9, e9, hs9, _⟩ := hsl
              have HHa := hide (by
                have h := has_any (some ⟨gM, 0, none⟩) c3 (setB M (X : Int) v) (X : Int) W5 (by rw [setB_len, HMl.out]; have := HSm.out; omega) (by injection e9 with k1 k2 k3; rw [k1]; exact hs9.lies) (setB_byts HMb.out _ _) (by have := HRx.out; omega)
                rw [setB_len, HMl.out, hasB_set HMb.out _ _ _ (by rw [HMl.out]; have := HN8.out; have := HXn.out; omega), if_pos rfl] at h
                exact h)
              have HW5 := hide hW5
              rw [hW5] at hcx5
              clear hs9 e9 hst ho4 hg4 hW5
              go_wp2_with fail
              rw [← HW5.out]
              refine HHa.out.mono ?_
              rintro e9 W6 ⟨rfl, h6⟩
              rw [h6]
              clear h6
              cases v
              all_goals
                go_wp2_with fail
                go_roundw
                case rel => exact ⟨t + 1, _, by have := HT.out; omega, by go_num, setB_byts HMb.out _ _, by rw [setB_len]; exact HMl.out, HOm5.out, HOb5.out, HBx5.out⟩
                case measure => have := HT.out; simp [intOf]; omega
            · have hnin : ¬ (0 ≤ x ∧ x < 8 * (nB : Int)) := fun c => hin ⟨c.1, by have := HN8.out; omega⟩
              by_cases h0 : 0 ≤ x
              · have d1 : decide ((0 : Int) ≤ x) = true := by simpa using h0
                have d2 : decide (x < (j : Int)) = false := by simp; omega
                clear hin h0
                have HSe := hide (set_off a3 nB c3 x v W3 (by have := HSm.out; omega) hnin)
                have hsl := HOm.out.sl
                obtain ⟨a9, c9, e9, hs9, _⟩ := hsl
                have HHa := hide (by
                  have h := has_any a3 c3 M x W3 (by rw [HMl.out]; have := HSm.out; omega) (by injection e9 with k1 k2 k3; rw [k1]; exact hs9.lies) HMb.out HRx.out
                  rw [hasB_off (by rw [HMl.out]; exact hnin), HMl.out] at h
                  exact h)
                clear hs9 e9 hnin
                go_wp2_with fail
                refine HSe.out.mono ?_
                rintro e9 W4 ⟨rfl, h4⟩
                rw [h4]
                clear h4
                go_wp2_with fail
                refine HHa.out.mono ?_
                rintro e9 W6 ⟨rfl, h6⟩
                rw [h6]
                clear h6
                go_wp2_with fail
                go_roundw
                case rel => exact ⟨t + 1, M, by have := HT.out; omega, by go_num, HMb.out, HMl.out, HOm.out, HOb.out, HBw.out⟩
                case measure => have := HT.out; simp [intOf]; omega
              · have d1 : decide ((0 : Int) ≤ x) = false := by simpa using h0
                clear hin h0
                have HSe := hide (set_off a3 nB c3 x v W3 (by have := HSm.out; omega) hnin)
                have hsl := HOm.out.sl
                obtain ⟨a9, c9, e9, hs9, _⟩ := hsl
                have HHa := hide (by
                  have h := has_any a3 c3 M x W3 (by rw [HMl.out]; have := HSm.out; omega) (by injection e9 with k1 k2 k3; rw [k1]; exact hs9.lies) HMb.out HRx.out
                  rw [hasB_off (by rw [HMl.out]; exact hnin), HMl.out] at h
                  exact h)
                clear hs9 e9 hnin
                go_wp2_with fail
                refine HSe.out.mono ?_
                rintro e9 W4 ⟨rfl, h4⟩
                rw [h4]
                clear h4
                go_wp2_with fail
                refine HHa.out.mono ?_
                rintro e9 W6 ⟨rfl, h6⟩
                rw [h6]
                clear h6
                go_wp2_with fail
                go_roundw
                case rel => exact ⟨t + 1, M, by have := HT.out; omega, by go_num, HMb.out, HMl.out, HOm.out, HOb.out, HBw.out⟩
                case measure => have := HT.out; simp [intOf]; omega
        · obtain rfl : t = nA := by omega
          have HV3 := hide (HV2.out.below hbw)
          have HM := hide (HMd.out W3 HV3.out)
          have hB3 := HB2.out.trans (hbw.mono HB2.out.size)
          have HB3 := hide hB3
          obtain ⟨a9, c9, e9, hs9, _⟩ := hom.sl
          have HLm := hide (show Lies W3 a3 M by injection e9 with k1 k2 k3; rw [k1]; exact hs9.lies)
          have hj8 : 8 * M.length = j := by rw [HMl.out]; exact HN8.out.symm
          have HBt : ∀ u, Below W3.heap.size W3 u → Hid (Calls Tryd.prog 27 #[.slice (some ⟨G, 0, none⟩) j j] u fun e w' => (∃ a c, e = .returned (.slice a nB c) ∧ Lies w' a M) ∧ Below u.heap.size u w') := fun u hu => hide (by
            have h := rbits_any (some ⟨G, 0, none⟩) j M u (by rw [HMl.out]; have := HSm.out; omega) HMb.out (fun _ => ⟨G, 0, rfl, by have := (World.ownsRow.lt HOb.out.2 G rfl).2; have := hu.size; omega, fun i hi => (HOb.out.keep (Chg.of_below (X := fun _ => False) hu) (fun e => e)).bits i hi⟩)
            rw [hj8] at h
            refine h.mono ?_
            rintro e' u' ⟨⟨v, rfl, ho⟩, hb⟩
            obtain ⟨a, c, rfl, hs, _⟩ := ho.sl
            rw [HMl.out]
            exact ⟨⟨a, c, rfl, hs.lies⟩, hb⟩)
          have HSa : ∀ a c u, Lies u a3 M → Lies u a M → Hid (Calls Tryd.prog 13 #[.slice a3 nB c3, .slice a nB c] u fun e w' => e = .returned (.bool true) ∧ w' = u) := fun a c u h1 h2 => hide (by
            have h := Same_any a3 a c3 c M M u h1 h2 HMb.out HMb.out
            rw [decide_eq_true rfl, HMl.out] at h
            exact h)
          have HCo : ∀ u, Lies u a3 M → Hid (Calls Tryd.prog 28 #[.slice a3 nB c3, .int .i64 N] u fun e w' => e = .returned (.int .i64 (freeB M (min N (8 * (nB : Int))).toNat)) ∧ w' = u) := fun u h1 => hide (by
            have h := count_any a3 c3 M N u (by rw [HMl.out]; have := HSm.out; omega) h1 HMb.out
            rw [HMl.out] at h
            exact h)
          have HCl : ∀ a c u, Lies u a M → Hid (Calls Tryd.prog 29 #[.slice a nB c, .int .i64 N] u fun e w' => e = .returned (.int .i64 (freeB M (min N (8 * (nB : Int))).toNat)) ∧ w' = u) := fun a c u h1 => hide (by
            have h := rclear_any a c M N u (by rw [HMl.out]; have := HSm.out; omega) h1 HMb.out
            rw [HMl.out] at h
            exact h)
          have HBt := hide HBt
          have HSa := hide HSa
          generalize freeB M (min N (8 * (nB : Int))).toNat = f at HCo HCl
          have HCo := hide HCo
          have HCl := hide HCl
          clear hlt ht hbm hml hom hob hbw hB3 hs9 e9 hj8
          go_wp2_with fail
          refine HM.out.mono ?_
          rintro e9 W6 ⟨rfl, hb6⟩
          have H36 := hide hb6
          have HL6 := hide (HLm.out.below hb6)
          clear hb6
          go_wp2_with fail
          refine (HBt.out W6 H36.out).out.mono ?_
          rintro e9 W7 ⟨⟨a7, c7, rfl, hl7⟩, hb7⟩
          have H37 := hide (H36.out.trans (hb7.mono H36.out.size))
          have HL7 := hide (HL6.out.below hb7)
          have HR7 := hide hl7
          clear hb7 hl7
          go_wp2_with fail
          refine (HSa.out a7 c7 W7 HL7.out HR7.out).out.mono ?_
          rintro e9 W8 ⟨rfl, h8⟩
          rw [h8]
          clear h8
          go_wp2_with fail
          refine (HCo.out W7 HL7.out).out.mono ?_
          rintro e9 W8 ⟨rfl, h8⟩
          rw [h8]
          clear h8
          go_wp2_with fail
          refine (HBt.out W7 H37.out).out.mono ?_
          rintro e9 W9 ⟨⟨a10, c10, rfl, hl9⟩, hb9⟩
          have HBf := hide (HB3.out.trans ((H37.out.trans (hb9.mono H37.out.size)).mono HB3.out.size))
          have HR9 := hide hl9
          clear hl9 hb9
          go_wp2_with fail
          refine (HCl.out a10 c10 W9 HR9.out).out.mono ?_
          rintro e9 W10 ⟨rfl, h10⟩
          rw [h10]
          clear h10
          go_wp2_with fail
          go_ret
          exact ⟨rfl, HBf.out⟩
end Go.Proofs.YtjmajjfknmjifaaDoor.Oct
