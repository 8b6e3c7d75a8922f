/- Is the lowest cluster given out? -/
import Derived.Test.YtiokjlckngkhnaaGreatPRfz
namespace Go.Proofs.YtiokjlckngkhnaaGreat.Oct
open Go.RowKit Go.Deep

theorem loR_first (c : Nat → Int) (n0 : Nat) (h0 : c n0 = 0) (h33 : 33 ≤ n0) (hm : ∀ m, 33 ≤ m → m < n0 → c m ≠ 0) : ∀ k : Nat, loR c k = if k ≤ n0 then -1 else (n0 : Int)
  | 0 => by rw [if_pos (by omega)]; rfl
  | k + 1 => by
    rw [loR, loR_first c n0 h0 h33 hm k]
    by_cases h1 : k < n0
    · rw [if_pos (show k ≤ n0 by omega), if_pos (show k + 1 ≤ n0 by omega), if_neg]
      rintro ⟨a, b, _⟩
      exact hm k b h1 a
    · by_cases h2 : k = n0
      · subst h2
        rw [if_pos (Nat.le_refl _), if_neg (show ¬ k + 1 ≤ k by omega), if_pos ⟨h0, h33, rfl⟩]
      · rw [if_neg (show ¬ k ≤ n0 by omega), if_neg (show ¬ k + 1 ≤ n0 by omega), if_neg]
        rintro ⟨_, _, a⟩
        omega

theorem see_set {S : List Int} {B M B' M' : Int → List Int} {n : Nat} {v : Int} (h : SetR B M B' M' n v) (x : Nat) : seeT S B' M' x = if 15360 + 2 * n ≤ x ∧ x < 15360 + 2 * n + 2 then v / 2 ^ (8 * (x - (15360 + 2 * n))) % 256 else seeT S B M x := by
  unfold seeT
  rw [h]

theorem cnt_set {S : List Int} {B M B' M' : Int → List Int} {n : Nat} {v : Int} (h : SetR B M B' M' n v) (hv : 0 ≤ v ∧ v ≤ 65535) (m : Nat) : cntR S B' M' m = if m = n then v else cntR S B M m := by
  unfold cntR
  rw [see_set h, see_set h]
  by_cases hm : m = n
  · subst hm
    rw [if_pos (by omega), if_pos (by omega), if_pos rfl, show 15360 + 2 * m - (15360 + 2 * m) = 0 by omega, show 15360 + 2 * m + 1 - (15360 + 2 * m) = 1 by omega]
    simp
    omega
  · rw [if_neg (by omega), if_neg (by omega), if_neg hm]

theorem see_by {S : List Int} {B M B' M' : Int → List Int} {n : Nat} {v : Int} (h : SetR B M B' M' n v) (hb : ∀ x, 0 ≤ seeT S B M x ∧ seeT S B M x < 256) (x : Nat) : 0 ≤ seeT S B' M' x ∧ seeT S B' M' x < 256 := by
  rw [see_set h]
  split
  · omega
  · exact hb x

theorem see_zero (S : List Int) (x : Nat) : seeT S (fun _ => Z5) (fun _ => Z5) x = S.getD x 0 := by
  have h5 : ∀ i, Z5.getD i 0 = 0 := fun i => by
    unfold Z5
    rw [List.getD_eq_getElem?_getD, List.getElem?_replicate]
    split <;> rfl
  unfold seeT valT
  rw [h5, if_pos rfl]

theorem cts_cnt {S : List Int} (h : Cts S 33) (n : Nat) : cntR S (fun _ => Z5) (fun _ => Z5) n = if n < 33 then 1 else 0 := by
  unfold cntR
  rw [see_zero, see_zero, h, h, if_neg (show ¬ (15360 ≤ 15360 + 2 * n + 1 ∧ 15360 + 2 * n + 1 < 15360 + 2 * 33 ∧ (15360 + 2 * n + 1) % 2 = 0) by omega)]
  by_cases hn : n < 33
  · rw [if_pos (by omega), if_pos hn]; rfl
  · rw [if_neg (by omega), if_neg hn]; rfl

theorem cts_by {S : List Int} (h : Cts S 33) (x : Nat) : 0 ≤ seeT S (fun _ => Z5) (fun _ => Z5) x ∧ seeT S (fun _ => Z5) (fun _ => Z5) x < 256 := by
  rw [see_zero, h]
  split <;> omega

theorem head8 (w : World) : Calls Tryz.prog 5 #[.int .i64 0] w fun e w' => e = .returned (.agg #[.int .i64 9, .int .i64 32768, .int .i64 40, .int .i64 29, .bool false]) ∧ Below w.heap.size w w' := by
  have HN := hide (heap_new9 w (.cells #[.int .i64 9, .int .i64 32768, .int .i64 40, .int .i64 29, .bool false] 25))
  have HB := hide ((Below.refl w.heap.size w).alloc (Nat.le_refl _) (.cells #[.int .i64 9, .int .i64 32768, .int .i64 40, .int .i64 29, .bool false] 25))
  go_enter Tryz.func5, Tryz.ntmps5
  go_wp2_with fail
  refine bodyPost_ret (results_cell_row rfl _ _ w.heap.size 25 _ (0, 0) _ rfl HN.out Tryz.underlying25 rfl (by kernel_rfl)) rfl ?_
  exact ⟨rfl, HB.out⟩

theorem check40 : Hd.check ⟨9, 32768, 40, 29, false⟩ = 0 := by decide

set_option maxRecDepth 100000 in
set_option maxHeartbeats 8000000 in
theorem counted_any (w : World) : Calls Tryz.prog 4 #[] w fun e w' => e = .returned (.bool true) ∧ Below w.heap.size w w' := by
  have HH := fun u => hide (head8 u)
  have HBg : ∀ u, Hid (Calls Tryz.prog 6 #[.agg #[.int .i64 9, .int .i64 32768, .int .i64 40, .int .i64 29, .bool false]] u fun e w' => ∃ T J F S, e = .returned (.tuple #[.pointer (some ⟨F, 0, none⟩), .pointer (some ⟨T, 0, none⟩), .bool true]) ∧ List.length S = 16896 ∧ Cts S 33 ∧ Bgn u w' T J F 512 15360 S) := fun u => hide (begun8_any 40 (by omega) (by omega) u)
  have HNw : ∀ T u, Hid (Calls Tryz.prog 7 #[.agg #[.int .i64 9, .int .i64 32768, .int .i64 40, .int .i64 29, .bool false], .pointer (some ⟨T, 0, none⟩)] u fun e w' => ∃ A, e = .returned (.tuple #[.pointer (some ⟨A, 0, none⟩), .int .i64 0]) ∧ u.heap.size ≤ A ∧ Rfs w' A T 40 ∧ Below u.heap.size u w') := fun T u => hide (by
    refine (rnew_any 9 32768 40 29 false T u).mono ?_
    rintro e9 w2 (⟨h, _⟩ | ⟨_, A, rfl, hA, hc, hb⟩)
    · exact absurd check40 h
    · exact ⟨A, rfl, hA, hc, hb⟩)
  have HFi : ∀ u, Hid (Calls Tryz.prog 9 #[.agg #[.int .i64 9, .int .i64 32768, .int .i64 40, .int .i64 29, .bool false]] u fun e w' => e = .returned (.int .i64 33) ∧ Below u.heap.size u w') := fun u => hide (first9 40 (by omega) (by omega) u)
  go_enter Tryz.func4, Tryz.ntmps4
  go_wp2_with fail
  refine ((HH _).out).mono ?_
  rintro e9 w1 ⟨rfl, hb1⟩
  have HX1 : Hid (Bx8 (w1.alloc (.cells #[.int .i64 9, .int .i64 32768, .int .i64 40, .int .i64 29, .bool false] 25)) w1.heap.size 40) := hide (heap_new9 w1 _)
  have HB1 := hide (hb1.alloc hb1.size (.cells #[.int .i64 9, .int .i64 32768, .int .i64 40, .int .i64 29, .bool false] 25))
  have hs1 := hb1.size
  obtain ⟨x0, x1, x2, x3, x4⟩ := HX1.out.cell
  clear hb1
  go_wp2_with fail
  have hs2 : w1.heap.size < (w1.alloc (.cells #[.int .i64 9, .int .i64 32768, .int .i64 40, .int .i64 29, .bool false] 25)).heap.size := by simp
  clear x0 x1 x2 x3 x4
  generalize w1.alloc (.cells #[.int .i64 9, .int .i64 32768, .int .i64 40, .int .i64 29, .bool false] 25) = w2 at *
  refine ((HBg _).out).mono ?_
  rintro e9 w3 ⟨T, J, F, S, rfl, hSl, hSc, hbg⟩
  have HG := hide hbg
  have HSl : Hid (S.length ≤ 4194304) := hide (by rw [hSl]; omega)
  have HSc := hide hSc
  have HX3 := hide (HX1.out.below hbg.below)
  have HB3 := hide (HB1.out.trans (hbg.below.mono HB1.out.size))
  have hTl := hbg.tx.lt
  have hjt := hbg.jt
  have hwj := hbg.wj
  obtain ⟨v1, v2, hf⟩ := hbg.fil
  have hFx : w2.heap.size ≤ F ∧ F < J := hf.xF
  have HT3 : Hid (Tst w3 T J F (fun k => w2.heap.size ≤ k ∧ k < J) ⟨v1, v2, .slice none 0 0, 0, 0, 0, 0, false⟩ S (.map none) (.map none) (fun _ => Z5) (fun _ => Z5) 512 15360) := hide ⟨HG.out.tx, ⟨Or.inl ⟨rfl, fun _ => rfl⟩, Or.inl ⟨rfl, fun _ => rfl⟩, fun _ => Z5_len, fun _ => Z5_len⟩, Or.inl ⟨rfl, rfl⟩, HG.out.jr, hf, by omega, by omega, (fun r hr => (by rcases hr with h | h <;> cases h)), by omega, ⟨rfl, rfl⟩, by simp, rfl, fun _ _ => rfl, fun _ => Or.inl (z5_getQ _)⟩
  obtain ⟨x0, x1, x2, x3, x4⟩ := HX3.out.cell
  clear hbg hSl hSc hf
  go_wp2_with fail
  refine ((HNw T _).out).mono ?_
  rintro e9 w4 ⟨A, rfl, hA3, hA4, hb4⟩
  have HA4 := hide hA4
  have HX4 := hide (HX3.out.below hb4)
  have HT4 := hide (HT3.out.below hb4)
  have HB4 := hide (HB3.out.trans (hb4.mono HB3.out.size))
  have hs4 := hb4.size
  have hA4l := hA4.lt
  have HAl := hide (rfs_alloc w4 A T J F _ _ S _ _ _ _ 512 15360 HT4.out HSl.out (by simp) (fun k hk => by omega) (cts_by HSc.out) 40 hA4 (by omega) (by omega) (by omega) (by omega))
  clear hb4 hA4 x0 x1 x2 x3 x4
  go_wp2_with fail
  refine HAl.out.mono ?_
  have hc1 : loR (cntR S (fun _ => Z5) (fun _ => Z5)) 40 = 33 := by
    rw [loR_first _ 33 (by rw [cts_cnt HSc.out]; rfl) (by omega) (fun m h1 h2 => by omega)]
    rfl
  rintro e9 w5 (⟨h, _⟩ | ⟨n, hn, h33, h40, hn0, rfl, f5, vb5, vm5, B5, M5, ht5, hf5, hs5, hr5, hc5⟩)
  · rw [hc1] at h; cases h
  obtain rfl : n = 33 := by rw [hc1] at hn; omega
  have hA5 : Rfs w5 A T 40 := (hc5.block A hA4l (by rintro (e | e | e | e) <;> first | omega | cases e)).trans HA4.out
  have HA5 := hide hA5
  have HX5 : Hid (Bx8 w5 w1.heap.size 40) := hide ((hc5.block _ HX4.out.lt (by rintro (e | e | e | e) <;> first | omega | cases e)).trans HX4.out)
  have HT5 := hide ht5
  have HB5 := hide (HB4.out.trans (hc5.below _ HB4.out.size (fun q hq e => by rcases e with e | e | e | e <;> first | omega | cases e)))
  have hs45 := hc5.size
  have hr5' : ∀ r, vb5 = .map (some r) ∨ vm5 = .map (some r) → w4.heap.size ≤ r := fun r hr => by
    rcases hr5 r hr with e | e
    · rcases e with e | e <;> cases e
    · exact e
  have HR5 := hide hr5'
  have HS5 := hide hs5
  have hf5' : f5.ops ≤ 0 + 1 := hf5
  have HAl2 := hide (rfs_alloc w5 A T J F _ f5 S vb5 vm5 B5 M5 512 15360 ht5 HSl.out (by omega) (fun k hk => by omega) (see_by hs5 (cts_by HSc.out)) 40 hA5 (by omega) (by omega) (by omega) (by omega))
  have hA5l := hA5.lt
  clear hc1 hn hn0 hc5 hr5 hr5' ht5 hs5 hA5 HAl
  go_wp2_with fail
  refine HAl2.out.mono ?_
  have hcn := cnt_set (S := S) HS5.out (by omega)
  have hc1 : loR (cntR S B5 M5) 40 = 34 := by
    rw [loR_first _ 34 (by rw [hcn, cts_cnt HSc.out]; rfl) (by omega) (fun m h1 h2 => by
      obtain rfl : m = 33 := by omega
      rw [hcn, if_pos rfl]; omega)]
    rfl
  rintro e9 w6 (⟨h, _⟩ | ⟨n, hn, h33', h40', hn0, rfl, f6, vb6, vm6, B6, M6, ht6, hf6, hs6, hr6, hc6⟩)
  · rw [hc1] at h; cases h
  obtain rfl : n = 34 := by rw [hc1] at hn; omega
  have hno : ∀ q, q < w4.heap.size → q ≠ F → q ≠ T → ¬ (q = F ∨ q = T ∨ vb5 = .map (some q) ∨ vm5 = .map (some q)) := fun q hq h1 h2 e => by
    rcases e with e | e | e
    · exact h1 e
    · exact h2 e
    · have := HR5.out q e; omega
  have hA6 : Rfs w6 A T 40 := (hc6.block A hA5l (hno A hA4l (by omega) (by omega))).trans HA5.out
  have HX6 : Hid (Bx8 w6 w1.heap.size 40) := hide ((hc6.block _ HX5.out.lt (hno _ HX4.out.lt (by omega) (by omega))).trans HX5.out)
  have HB6 := hide (HB5.out.trans (hc6.below _ HB5.out.size (fun q hq e => hno q (by omega) (by omega) (by omega) e)))
  have hs56 := hc6.size
  have hcn2 : cntR S B6 M6 33 = 1 := by rw [cnt_set (S := S) hs6 (by omega), if_neg (by omega), hcn, if_pos rfl]
  have HGt := hide (rfs_get w6 A T J F _ f6 S vb6 vm6 B6 M6 512 15360 ht6 HSl.out (by omega) (fun k hk => by omega) (see_by hs6 (see_by HS5.out (cts_by HSc.out))) 40 hA6 (by omega) (by omega) 33 (by omega))
  rw [hcn2] at HGt
  clear hc1 hn hn0 hc6 hr6 ht6 hs6 hA6 HAl2 hcn hcn2 hno
  go_wp2_with fail
  refine HGt.out.mono ?_
  rintro e9 w7 ⟨f7, rfl, ht7, hf7, hc7⟩
  have HX7 : Hid (Bx8 w7 w1.heap.size 40) := hide ((hc7.block _ HX6.out.lt (by omega)).trans HX6.out)
  have HB7 := hide (HB6.out.trans (hc7.below _ HB6.out.size (fun q hq e => by omega)))
  obtain ⟨x0, x1, x2, x3, x4⟩ := HX7.out.cell
  clear ht7 hf7 hc7 HGt
  go_wp2_with fail
  refine ((HFi _).out).mono ?_
  rintro e9 w8 ⟨rfl, hb8⟩
  have HB8 := hide (HB7.out.trans (hb8.mono HB7.out.size))
  clear hb8 x0 x1 x2 x3 x4
  go_wp2_with fail
  go_ret
  exact ⟨rfl, HB8.out⟩
end Go.Proofs.YtiokjlckngkhnaaGreat.Oct
