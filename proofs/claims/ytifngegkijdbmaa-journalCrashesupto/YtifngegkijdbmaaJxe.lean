/- A case's file. -/
import Derived.Test.YtifngegkijdbmaaJxd
import Derived.Handy
namespace Go.Proofs.Ytifngegkijdbmaa.Oct
open Go.RowKit Go.Deep Go.WideShapes Go.ChangeShapes Go.ChangeAt

set_option maxRecDepth 100000 in
set_option maxHeartbeats 8000000 in
theorem file_any (s0 : Int) (fa : Option Addr) (fc : Nat) (fl : List Int) (s2 s3 : Int) (ra : Option Addr) (rc : Nat) (R : List JR) (w : World) (hf : Sl w fa fc fl) (hfb : Byts fl) (hR : LiesJ w ra R) (hlf : fl.length ≤ 100000000) (hlR : R.length ≤ 100000000) :
    Calls Try.prog 6 #[.agg #[.int .i64 s0, .slice fa fl.length fc, .int .i64 s2, .int .i64 s3, .slice ra R.length rc]] w fun e w' => Below w.heap.size w w' ∧ (e = .returned (.tuple #[.slice none 0 0, .int .i64 0, .int .i64 0, .bool false]) ∨
      ∃ v B p s, e = .returned (.tuple #[v, .int .i64 ((p : Nat) : Int), .int .i64 ((s : Nat) : Int), .bool true]) ∧ Own w' w.heap.size v B ∧ Byts B ∧ B.length ≤ 30000 ∧ p % 512 = 0 ∧ s % 512 = 0 ∧ 1024 ≤ s ∧ p + s ≤ B.length ∧ B.getD p 0 = 0 ∧ R.length ≤ 12 ∧ (∀ r ∈ R, r.b.length ≤ 2000 ∧ ¬ ((B.length : Int) < r.at_ ∧ r.at_ ≤ 4194304))) := by
  have HFl := hide hf
  have HFb := hide hfb
  have HR := hide hR
  clear hf hfb hR
  have HX := hide (Blk.new w #[.int .i64 s0, .slice fa fl.length fc, .int .i64 s2, .int .i64 s3, .slice ra R.length rc] 25)
  have HB0 := hide ((Below.refl w.heap.size w).alloc (Nat.le_refl _) (.cells #[.int .i64 s0, .slice fa fl.length fc, .int .i64 s2, .int .i64 s3, .slice ra R.length rc] 25))
  have hsz : (w.alloc (.cells #[.int .i64 s0, .slice fa fl.length fc, .int .i64 s2, .int .i64 s3, .slice ra R.length rc] 25)).heap.size = w.heap.size + 1 := by simp
  obtain ⟨n0, n3, n2, hn0, hn3, hn2, a1, a2, a3, a4, a5, a6, a7⟩ := file_nums s0 s2 s3
  have b0 := HX.out.cell 0 _ rfl
  have b1 := HX.out.cell 1 _ rfl
  have b2 := HX.out.cell 2 _ rfl
  have b3 := HX.out.cell 3 _ rfl
  have b4 := HX.out.cell 4 _ rfl
  by_cases hb1 : 12 < R.length
  · go_enter Try.func6, Try.ntmps6
    go_wp2_with fail
    go_returns
    exact ⟨HB0.out, Or.inl rfl⟩
  by_cases hb2 : 64 < fl.length
  · go_enter Try.func6, Try.ntmps6
    go_wp2_with fail
    go_returns
    exact ⟨HB0.out, Or.inl rfl⟩
  go_enter Try.func6, Try.ntmps6
  go_wp2_with fail
  clear a1 a2 a3 a4 a5 a6 a7 b0 b1 b2 b3 b4
  have c1 : (512 * (8 + (n0 : Int))) = ((512 * (8 + n0) : Nat) : Int) := by omega
  generalize w.alloc (.cells #[.int .i64 s0, .slice fa fl.length fc, .int .i64 s2, .int .i64 s3, .slice ra R.length rc] 25) = w0 at *
  have HZ0 := hide (Zeros_any (512 * (8 + n0)) w0 (by omega))
  rw [c1]
  refine HZ0.out.mono ?_
  rintro e9 w1 ⟨v1, rfl, ho1, hb1'⟩
  obtain ⟨Z, hZ⟩ : ∃ Z, Z = List.replicate (512 * (8 + n0)) (0 : Int) := ⟨_, rfl⟩
  have hZl : Z.length = 512 * (8 + n0) := by rw [hZ]; exact List.length_replicate
  have HZb : Hid (Byts Z) := hide (by rw [hZ]; exact Byts.reps _)
  rw [← hZ] at ho1
  clear hZ c1 HZ0
  obtain ⟨a1', c1', rfl, hl1, hcle, hcc, hmm, hgg⟩ := ho1.form
  obtain ⟨g1, rfl, hg1, hg2⟩ := hgg (fun e => by rw [e] at hZl; simp at hZl; omega)
  have HB1 := hide (HB0.out.trans (hb1'.mono HB0.out.size))
  have HX1 := hide (HX.out.below hb1')
  have HO1 := hide (ho1.mono HB0.out.size)
  have hw0 := HB0.out.size
  have HZl := hide hZl
  have hZm : Z.length ≤ 24064 := by omega
  have hZp : 0 < Z.length := by omega
  clear ho1 hb1' hl1 hgg HX hcc hcle hZl
  unfold maxLen at hmm
  go_wp2_with fail
  go_loopw [10] (fun i wr => ∃ (k : Nat) (L : List Int), k ≤ Z.length ∧ i = .int .i64 (k : Int) ∧ L.length = Z.length ∧ Byts L ∧ Own wr w.heap.size (.slice (some ⟨g1, 0, none⟩) Z.length c1') L ∧ Blk wr w.heap.size #[.int .i64 s0, .slice fa fl.length fc, .int .i64 s2, .int .i64 s3, .slice ra R.length rc] 25 ∧ Below w.heap.size w wr) (fun i _ => Z.length - (intOf i).toNat)
  case atStart => exact ⟨0, Z, by omega, rfl, rfl, HZb.out, HO1.out, HX1.out, HB1.out⟩
  case round =>
    obtain ⟨k, L, hk, rfl, hLl, hLb, ho, hx, hbel⟩ := hrel
    have HO := hide ho
    have HX := hide hx
    have HB := hide hbel
    have HLb := hide hLb
    have HLl := hide hLl
    have f1 := hx.cell 1 _ rfl
    clear hLb ho hx hbel hLl
    by_cases hgo : k < Z.length ∧ 0 < fl.length
    · obtain ⟨hk2, hfl⟩ := hgo
      rcases HFl.out.lies with h0 | ⟨bf, of, rfl, hbf, hcf⟩
      · rw [h0] at hfl; simp at hfl
      obtain ⟨j, hj, hj1, hj2⟩ : ∃ j : Nat, j < fl.length ∧ ((k : Int).tdiv 512).tmod fl.length = j ∧ ((k : Int) / 512).tmod fl.length = j := by
        have e1 : (k : Int).tdiv 512 = (k : Int) / 512 := Int.tdiv_eq_ediv_of_nonneg (by omega)
        have h0 : 0 ≤ (k : Int) / 512 := by omega
        have e2 : ((k : Int) / 512).tmod fl.length = ((k : Int) / 512) % fl.length := Int.tmod_eq_emod_of_nonneg h0
        have h1 : 0 ≤ ((k : Int) / 512) % fl.length := Int.emod_nonneg _ (by omega)
        have h2 : ((k : Int) / 512) % fl.length < fl.length := Int.emod_lt_of_pos _ (by omega)
        rw [e1, e2]
        exact ⟨(((k : Int) / 512) % fl.length).toNat, by omega, by omega, by omega⟩
      have q := (HB.out.cell (p := ⟨bf, of + j, none⟩) hbf).trans (hcf j hj)
      have HXb := hide (HFb.out j)
      have o1 := HO.out.cell HLl.out.symm k (by omega)
      have o2 := HO.out.free HLl.out.symm k
      have e1 : (k : Int).tdiv 512 = (k : Int) / 512 := Int.tdiv_eq_ediv_of_nonneg (by omega)
      have e2 : IntKind.i64.wrap ((k : Int) / 512) = (k : Int) / 512 := by rw [IntKind.wrap_i64]; omega
      have e3 : ¬ ((fl.length : Int) = 0) := by omega
      have e4 : ¬ (fl.length = 0) := by omega
      have e6 : ¬ (fl = []) := fun e => by rw [e] at hfl; simp at hfl
      generalize fl.getD j 0 = y at *
      have d0 : wr.drew.cell? ⟨w.heap.size, 1, none⟩ = some (.slice (some ⟨bf, of, none⟩) fl.length fc) := f1
      have d1 : wr.drew.cell? ⟨bf, of + j, none⟩ = some (.int .u8 y) := q
      have d2 : wr.drew.cell? ⟨g1, k, none⟩ = some (.int .u8 (L.getD k 0)) := o1
      have d3 : wr.drew.frozen? ⟨g1, k, none⟩ = false := o2
      have hne1 : w.heap.size ≠ g1 := by omega
      have hne2 : bf ≠ g1 := by omega
      have d4 : (wr.setCell ⟨g1, k, none⟩ (.int .u8 y)).drew.cell? ⟨w.heap.size, 1, none⟩ = some (.slice (some ⟨bf, of, none⟩) fl.length fc) := (World.cell?_of_block (w := wr) (w' := wr.setCell ⟨g1, k, none⟩ (.int .u8 y)) (a := ⟨w.heap.size, 1, none⟩) (blk_setCell_other _ _ _ _ (by assumption))).trans f1
      have d5 : (wr.setCell ⟨g1, k, none⟩ (.int .u8 y)).drew.cell? ⟨bf, of + j, none⟩ = some (.int .u8 y) := (World.cell?_of_block (w := wr) (w' := wr.setCell ⟨g1, k, none⟩ (.int .u8 y)) (a := ⟨bf, of + j, none⟩) (blk_setCell_other _ _ _ _ (by assumption))).trans q
      have HSet := hide (HO.out.set HLl.out.symm k y)
      clear hcf
      go_wp2_with fail
      go_region_held3 (fun u => u.cell? ⟨w.heap.size, 1, none⟩ = some (.slice (some ⟨bf, of, none⟩) fl.length fc) ∧ u.cell? ⟨bf, of + j, none⟩ = some (.int .u8 y)) (go_keep) (fail)
      have hgr := HSet.out.2
      have hO2 : Own (wr.setCell ⟨g1, k, none⟩ (.int .u8 y)).drew w.heap.size (.slice (some ⟨g1, 0, none⟩) Z.length c1') (L.set k y) := HSet.out.1.drew
      have hB2 : Below w.heap.size w (wr.setCell ⟨g1, k, none⟩ (.int .u8 y)).drew := (HB.out.grown hgr HB.out.size (by intro q hq; simp at hq; omega)).drew
      have hX2 : Blk (wr.setCell ⟨g1, k, none⟩ (.int .u8 y)).drew w.heap.size #[.int .i64 s0, .slice (some ⟨bf, of, none⟩) fl.length fc, .int .i64 s2, .int .i64 s3, .slice ra R.length rc] 25 := by
        refine Blk.drew ?_
        exact Blk.other HX.out hne1 k _
      have hL2 : Byts (L.set k y) := fun i => by
        by_cases e : i = k
        · subst e
          have := HXb.out
          have hl : i < L.length := by rw [HLl.out]; omega
          simpa [List.getD_eq_getElem?_getD, hl] using this
        · have := HLb.out i
          simpa [List.getD_eq_getElem?_getD, List.getElem?_set_ne (Ne.symm e)] using this
      have HE := hide (And.intro hO2 (And.intro hB2 (And.intro hX2 hL2)))
      clear hgr hO2 hB2 hX2 hL2 d0 d1 d2 d3 d4 d5
      generalize (wr.setCell ⟨g1, k, none⟩ (.int .u8 y)).drew = w5 at *
      go_wp2_with fail
      exact ⟨⟨k + 1, L.set k y, by omega, by congr 1 <;> omega, by rw [List.length_set]; exact HLl.out, HE.out.2.2.2, HE.out.1, HE.out.2.2.1, HE.out.2.1⟩, by simp [intOf]; omega⟩
    · have c2 : ((512 * n2 : Nat) : Int) = 512 * (n2 : Int) := by omega
      have HZ1 := hide (Zeros_any 512 wr (by omega))
      have hor : (k < Z.length ∧ fl.length = 0) ∨ ¬ k < Z.length := by omega
      rcases hor with ⟨hk2, hfl⟩ | hk2
      all_goals
        go_wp2_with fail
        refine HZ1.out.mono ?_
        rintro e9 w2 ⟨v2, rfl, ho2, hb2'⟩
        obtain ⟨a2, c2', rfl, hs2, _⟩ := ho2.sl
        have hoL := HO.out.below hb2'
        obtain ⟨aL, cL, heq, hsL, _⟩ := hoL.sl
        have hLl := HLl.out
        have hZl := HZl.out
        rw [hLl] at heq
        have hW := With_any aL cL L a2 c2' Z512 (512 * n2) w2 (by omega) (by rw [Z512_len]; omega) (by rw [Z512_len]; omega) hsL hs2
        rw [hLl, ← heq, c2] at hW
        have HW := hide hW
        have HX2 := hide (HX.out.below hb2')
        have HB2 := hide (HB.out.trans (hb2'.mono HB.out.size))
        have HBb : Hid (Byts (over L (512 * n2) Z512) ∧ (over L (512 * n2) Z512).length = 512 * (8 + n0) ∧ (over L (512 * n2) Z512).getD (512 * n2) 0 = 0) := hide (by
          have hl : (over L (512 * n2) Z512).length = L.length := by unfold over; simp [Z512_len]; omega
          have hg := overP_get L (512 * n2) Z512 (by rw [Z512_len]; omega)
          refine ⟨fun i => ?_, by omega, ?_⟩
          · rw [hg]
            split
            · exact Byts.reps 512 _
            · exact HLb.out i
          · rw [hg, if_pos (by rw [Z512_len]; omega)]
            exact getD_rep 512 _)
        clear ho2 hb2' hs2 hoL hsL hW hLl hZl heq
        generalize over L (512 * n2) Z512 = B at *
        go_wp2_with fail
        refine HW.out.mono ?_
        rintro e9 w3 ⟨v3, rfl, ho3, hb3⟩
        obtain ⟨a3, c3, rfl, _, _⟩ := ho3.form
        have HO3 := hide (ho3.mono HB2.out.size)
        have HX3 := hide (HX2.out.below hb3)
        have HB3 := hide (HB2.out.trans (hb3.mono HB2.out.size))
        clear ho3 hb3 HW HZ1
        go_wp2_with fail
        go_loopw [11] (fun i wq => ∃ m : Nat, m ≤ R.length ∧ i = .int .i64 (m : Int) ∧ (∀ j, j < m → (R.getD j JR.z).b.length ≤ 2000 ∧ ¬ ((B.length : Int) < (R.getD j JR.z).at_ ∧ (R.getD j JR.z).at_ ≤ 4194304)) ∧ Below w3.heap.size w3 wq) (fun i _ => R.length - (intOf i).toNat)
        case atStart => exact ⟨0, by omega, rfl, fun j hj => by omega, Below.refl _ _⟩
        case round =>
          obtain ⟨m, hm, rfl, hall, hbq⟩ := hrel
          have HAll := hide hall
          have HBq := hide (HB3.out.trans (hbq.mono HB3.out.size))
          have HOq := hide (HO3.out.below hbq)
          have x4 := (HX3.out.below hbq).cell 4 _ rfl
          have HBo := hide hbq
          have hBl := HBb.out.2.1
          have hBm : B.length ≤ 24064 := by omega
          clear hall hbq hBl
          by_cases hlt : m < R.length
          · rcases HR.out with hE | ⟨b, off, rfl, hblt, hc⟩
            · rw [hE] at hlt; simp at hlt
            obtain ⟨q0, q1, q2⟩ := hc m hlt
            have r0 := (HBq.out.cell (p := ⟨b, off + m * 2, none⟩) hblt).trans q0
            have r1 := (HBq.out.cell (p := ⟨b, off + m * 2 + 1, none⟩) hblt).trans q1
            have hq2 := q2.le
            have hq3 := q2.max
            have HNx : Hid ((R.getD m JR.z).b.length ≤ 2000 ∧ ¬ ((B.length : Int) < (R.getD m JR.z).at_ ∧ (R.getD m JR.z).at_ ≤ 4194304) → ∀ j, j < m + 1 → (R.getD j JR.z).b.length ≤ 2000 ∧ ¬ ((B.length : Int) < (R.getD j JR.z).at_ ∧ (R.getD j JR.z).at_ ≤ 4194304)) := hide (fun h j hj => by
              by_cases e : j = m
              · subst e; exact h
              · exact HAll.out j (by omega))
            clear hc q0 q1 q2
            generalize R.getD m JR.z = r at *
            obtain ⟨t, ra', rc', rb⟩ := r
            simp only at *
            unfold maxLen at hq3
            by_cases hbig : 2000 < rb.length
            · go_wp2_with fail
              go_returns
              exact ⟨HBq.out, Or.inl rfl⟩
            · by_cases ht : (B.length : Int) < t ∧ t ≤ 4194304
              · obtain ⟨ht1, ht2⟩ := ht
                go_wp2_with fail
                go_returns
                exact ⟨HBq.out, Or.inl rfl⟩
              · have hor : (¬ ((B.length : Int) < t)) ∨ ((B.length : Int) < t ∧ ¬ t ≤ 4194304) := by omega
                rcases hor with ht1 | ⟨ht1, ht2⟩
                all_goals
                  go_wp2_with fail
                  exact ⟨⟨m + 1, by omega, by congr 1 <;> omega, HNx.out ⟨by omega, ht⟩, HBo.out⟩, by simp [intOf]; omega⟩
          · obtain rfl : m = R.length := by omega
            have c4 : ((512 * (2 + n3) : Nat) : Int) = 512 * (2 + (n3 : Int)) := by omega
            have HC4 := hide c4
            have HC2 := hide c2
            clear c4 c2
            go_wp2_with fail
            go_returns
            refine ⟨HBq.out, Or.inr ⟨_, B, 512 * n2, 512 * (2 + n3), by rw [HC4.out, HC2.out], HOq.out, HBb.out.1, by omega, by omega, by omega, by omega, by have := HBb.out.2.1; omega, HBb.out.2.2, by omega, fun r hr => ?_⟩⟩
            obtain ⟨j, hj, rfl⟩ := List.getElem_of_mem hr
            have := HAll.out j hj
            simpa [hj] using this
end Go.Proofs.Ytifngegkijdbmaa.Oct
