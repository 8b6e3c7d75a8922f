/- The document's Chain: the clusters from one on, others being marked: the same function on lists as the program's. -/
import Derived.Test.YtcbbaoiefdbcpaaDoorPFcy
namespace Go.Proofs.YtcbbaoiefdbcpaaDoor.Oct
open Go.RowKit Go.MapKept

set_option maxHeartbeats 8000000 in
set_option maxRecDepth 100000 in
theorem rchain_any (b : Bt) (v mv : Value) (k : Nat) (f x : Int) (L M : List Int) (first : Int) (w : World) (hc : -9223372036854775808 ≤ first ∧ first ≤ 9223372036854775807) (hk2 : k ≤ 40000) (hLl : L.length = k) (hv : LiesC w v (0 :: 0 :: L)) (hm : LiesC w mv M) (hM : M.length ≤ 100000) (hLr : ∀ j, 0 ≤ L.getD j 0 ∧ L.getD j 0 < 4294967296) :
    Calls Tryd.prog 9 #[.agg (rvolC b v f x 0), .int .i64 first, mv] w fun e w' => (((fol L k (fun c => if c ∈ M then 1 else 0) (k + 1) [] first).2 = 0 ∧ ∃ v', e = .returned (.tuple #[v', .int .i64 0]) ∧ OwnC w' w.heap.size v' (fol L k (fun c => if c ∈ M then 1 else 0) (k + 1) [] first).1) ∨ ((fol L k (fun c => if c ∈ M then 1 else 0) (k + 1) [] first).2 ≠ 0 ∧ e = .returned (.tuple #[.slice none 0 0, .int .i64 (fol L k (fun c => if c ∈ M then 1 else 0) (k + 1) [] first).2]))) ∧ Below w.heap.size w w' := by
  obtain ⟨av, cv, hve', hvc⟩ := hv
  have hve : v = .slice av (k + 2) cv := by rw [hve']; simp [hLl]
  clear hve'
  have HLl := hide hLl
  clear hLl
  subst hve
  obtain ⟨bv, ov, rfl, hcs⟩ := hvc.resolve_left (by simp)
  obtain ⟨mk, hmk⟩ : ∃ mk : Int → Int, mk = fun c => if c ∈ M then 1 else 0 := ⟨_, rfl⟩
  rw [← hmk]
  have HMk := hide (show ∀ c, 0 < mk c ↔ c ∈ M by intro c; rw [hmk]; by_cases h : c ∈ M <;> simp [h])
  obtain ⟨w1, hw1⟩ : ∃ w1, w1 = w.alloc (.cells (rvolC b (.slice (some ⟨bv, ov, none⟩) (k + 2) cv) f x 0) 38) := ⟨_, rfl⟩
  have hb1 : Below w.heap.size w w1 := by rw [hw1]; exact (Below.refl _ _).alloc (Nat.le_refl _) _
  have HR := hide (show Blk w1 w.heap.size (rvolC b (.slice (some ⟨bv, ov, none⟩) (k + 2) cv) f x 0) 38 by rw [hw1]; exact Blk.new _ _ _)
  have HB1 := hide hb1
  have HS1 := hide (show w1.heap.size = w.heap.size + 1 by rw [hw1]; simp)
  have HW1 := hide hw1
  have HL := hide (show ∀ c : Int, 2 ≤ c → c < (k : Int) + 2 → ∀ u, Below w.heap.size w u → u.cell? ⟨bv, ov + c.toNat, none⟩ = some (.int .i64 (L.getD (c - 2).toNat 0)) from fun c h1 h2 u hu => by
    have h3 := hcs c.toNat (L.getD (c - 2).toNat 0) (by
      have hLl := HLl.out
      obtain ⟨i, rfl⟩ : ∃ i : Nat, c = (i : Int) + 2 := ⟨(c - 2).toNat, by omega⟩
      rw [show ((i : Int) + 2).toNat = i + 1 + 1 by omega, show ((i : Int) + 2 - 2).toNat = i by omega]
      simp [show i < L.length by omega])
    exact (hu.cell (p := ⟨bv, ov + c.toNat, none⟩) (lt_of_cell h3)).trans h3)
  have HMm := fun u (hu : Below w.heap.size w u) => hide (hm.below hu)
  have HMl := hide hM
  have HLr := hide hLr
  have HK2 := hide hk2
  obtain ⟨F0, hF0⟩ : ∃ F0, F0 = fol L k mk (k + 1) [] first := ⟨_, rfl⟩
  rw [← hF0]
  have HF0 := hide hF0
  clear hw1 hb1 hvc hcs hm hM hLr hF0 hk2 hmk
  go_enter Tryd.func9, Tryd.ntmps9
  go_wp2_with fail
  rw [show w.alloc _ = w1 from HW1.out.symm]
  go_loopw [8, 9] (fun v i wr => ∃ (n : Nat) (acc : List Int) (c : Int), i = .int .i64 c ∧ (-9223372036854775808 ≤ c ∧ c ≤ 9223372036854775807) ∧ OwnC wr (w.heap.size + 1) v acc ∧ n + acc.length = k + 1 ∧ acc.Nodup ∧ (∀ a ∈ acc, 2 ≤ a ∧ a < (k : Int) + 2) ∧ F0 = fol L k mk n acc c ∧ Below w1.heap.size w1 wr) (fun v _ _ => k + 1 - (match v with | .slice _ m _ => m | _ => 0))
  case atStart => exact ⟨k + 1, [], first, rfl, hc, World.ownsRow_nil _ _ _ _, by simp, by simp, by simp, HF0.out, Below.refl _ _⟩
  case round =>
    obtain ⟨n, acc, c, rfl, hcb, how, hlen, hnd, hin, hfo, hbw⟩ := hrel
    have hacc : acc.length ≤ k := by
      have := nodup_leF k (acc.map (fun a => a - 2)) (hnd.map _ (fun p q h e => h (by omega))) (by intro y hy; obtain ⟨a, ha, rfl⟩ := List.mem_map.1 hy; have := hin a ha; omega)
      simpa using this
    obtain ⟨m, rfl⟩ : ∃ m, n = m + 1 := ⟨n - 1, by omega⟩
    have hwr : Below w.heap.size w wr := HB1.out.trans (hbw.mono HB1.out.size)
    have HRr := hide (HR.out.below hbw)
    have HOw := hide how
    have HBw := hide hbw
    have HNd := hide hnd
    have HIn := hide hin
    have HLe := hide (And.intro hlen hacc)
    have HM1 := HMm wr hwr
    have HIo := hide (rin_any _ acc c wr (by have := HK2.out; omega) how.liesC)
    have HIm := hide (rin_any mv M c wr HMl.out HM1.out)
    have hLc := fun h1 h2 => HL.out c h1 h2 wr hwr
    have HWr := hide hwr
    have hfo' := hfo
    rw [fol] at hfo'
    have HT := hide hfo'
    obtain ⟨a8, c8, hv8⟩ := how.len
    subst hv8
    have v8 : wr.cell? ⟨w.heap.size, 8, none⟩ = some (.slice (some ⟨bv, ov, none⟩) (k + 2) cv) := HRr.out.cell 8 _ rfl
    clear how hbw hnd hin hlen hacc hfo hfo' hwr
    by_cases h2 : 2 ≤ c ∧ c < (k : Int) + 2
    rotate_left
    · have HE := hide (show F0 = ([], 4) by rw [HT.out, if_neg h2])
      have hcase : decide (c < 2) = true ∨ (decide (c < 2) = false ∧ decide ((k : Int) + 2 ≤ c) = true) := by simp; omega
      clear h2 hLc HT
      rcases hcase with d1 | ⟨d1, d2⟩
      all_goals
        go_wp2_with fail
        go_ret2
        exact ⟨Or.inr ⟨by rw [HE.out]; decide, by rw [HE.out]; rfl⟩, HWr.out⟩
    have HH2 := hide h2
    rw [if_pos h2] at HT
    obtain ⟨p, rfl⟩ : ∃ p : Nat, c = (p : Int) := ⟨c.toNat, by omega⟩
    have hy0 := hLc h2.1 h2.2
    obtain ⟨y, hy⟩ : ∃ y, y = L.getD ((p : Int) - 2).toNat 0 := ⟨_, rfl⟩
    have hyr := HLr.out ((p : Int) - 2).toNat
    rw [← hy] at HT hyr
    have d1 : decide ((p : Int) < 2) = false := by simp; omega
    have d2 : decide ((k : Int) + 2 ≤ (p : Int)) = false := by simp; omega
    have d3 : p < k + 2 := by omega
    have HYr := hide hyr
    have HLc := hide (show ∀ u, Below w.heap.size w u → u.cell? ⟨bv, ov + p, none⟩ = some (.int .i64 y) from fun u hu => by have h := HL.out (p : Int) h2.1 h2.2 u hu; rw [← hy] at h; exact h)
    clear h2 hLc hy0 hy hyr
    by_cases hin2 : (p : Int) ∈ acc
    · have hdi : decide ((p : Int) ∈ acc) = true := by simpa using hin2
      have HE := hide (show F0 = ([], 13) by rw [HT.out, if_pos hin2])
      rw [hdi] at HIo
      clear hin2 hdi HT
      go_wp2_with fail
      refine HIo.out.mono ?_
      rintro e9 w2 ⟨rfl, h3⟩
      rw [h3]
      clear h3
      go_wp2_with fail
      go_ret2
      exact ⟨Or.inr ⟨by rw [HE.out]; decide, by rw [HE.out]; rfl⟩, HWr.out⟩
    have hdi : decide ((p : Int) ∈ acc) = false := by simpa using hin2
    rw [hdi] at HIo
    rw [if_neg hin2] at HT
    have HNi := hide hin2
    clear hdi hin2
    by_cases hin3 : (p : Int) ∈ M
    · have hdi : decide ((p : Int) ∈ M) = true := by simpa using hin3
      have HE := hide (show F0 = ([], 14) by rw [HT.out, if_pos ((HMk.out _).2 hin3)])
      rw [hdi] at HIm
      clear hin3 hdi HT
      go_wp2_with fail
      refine HIo.out.mono ?_
      rintro e9 w2 ⟨rfl, h3⟩
      rw [h3]
      clear h3
      go_wp2_with fail
      refine HIm.out.mono ?_
      rintro e9 w2 ⟨rfl, h3⟩
      rw [h3]
      clear h3
      go_wp2_with fail
      go_ret2
      exact ⟨Or.inr ⟨by rw [HE.out]; decide, by rw [HE.out]; rfl⟩, HWr.out⟩
    have hdi : decide ((p : Int) ∈ M) = false := by simpa using hin3
    rw [hdi] at HIm
    rw [if_neg (fun h => hin3 ((HMk.out _).1 h))] at HT
    clear hdi hin3
    obtain ⟨w4, hw4⟩ : ∃ w4, w4 = wr.alloc (.cells #[.int .i64 (p : Int)] 2) := ⟨_, rfl⟩
    have hb4 : Below wr.heap.size wr w4 := by rw [hw4]; exact (Below.refl _ _).alloc (Nat.le_refl _) _
    have HK4 := hide (show Blk w4 wr.heap.size #[.int .i64 (p : Int)] 2 by rw [hw4]; exact Blk.new _ _ _)
    have HO4 := hide (HOw.out.below hb4)
    have HB4 := hide (HWr.out.trans (hb4.mono HWr.out.size))
    have HR4 := hide (HRr.out.below hb4)
    have HC4 := hide (HBw.out.trans (hb4.mono HBw.out.size))
    have HW4 := hide hw4
    have HSz := hide (show w.heap.size + 1 ≤ w4.heap.size by have := HS1.out; have := HC4.out.size; omega)
    clear hb4 hw4 v8
    have v8 : wr.cell? ⟨w.heap.size, 8, none⟩ = some (.slice (some ⟨bv, ov, none⟩) (k + 2) cv) := HRr.out.cell 8 _ rfl
    have HGo : ∀ (v5 : Value) (w5 : World), OwnC w5 (w.heap.size + 1) v5 (acc ++ [(p : Int)]) → w4.grownBy w5 (Value.slice a8 acc.length c8).ownBlock → Hid (w5.cell? ⟨w.heap.size, 8, none⟩ = some (.slice (some ⟨bv, ov, none⟩) (k + 2) cv) ∧ w5.cell? ⟨bv, ov + p, none⟩ = some (.int .i64 y) ∧ Below w.heap.size w w5 ∧ Below w1.heap.size w1 w5) := fun v5 w5 ho hg => hide (by
      have h1 : Chg (fun i => w1.heap.size ≤ i) w4 w5 := (Chg.of_grown hg).mono (fun i _ e => by have := (World.ownsRow.lt HO4.out i e.symm).1; have := HS1.out; omega)
      have h2 : Below w1.heap.size w1 w5 := HC4.out.trans (Chg.below w1.heap.size h1 HC4.out.size (fun i hi => by omega))
      have h3 : Below w.heap.size w w5 := HB1.out.trans (h2.mono HB1.out.size)
      exact ⟨(HR.out.below h2).cell 8 _ rfl, HLc.out w5 h3, h3, h2⟩)
    by_cases hye : 268435448 ≤ y
    · have hyd : decide (268435448 ≤ y) = true := by simpa using hye
      have HE := hide (show F0 = (acc ++ [(p : Int)], 0) by rw [HT.out, if_neg (by omega), if_pos hye])
      clear hye HT
      go_wp2_with fail
      refine HIo.out.mono ?_
      rintro e9 w2 ⟨rfl, h3⟩
      rw [h3]
      clear h3
      go_wp2_with fail
      refine HIm.out.mono ?_
      rintro e9 w2 ⟨rfl, h3⟩
      rw [h3]
      clear h3
      go_wp2_with (at_builtin; rw [← HW4.out]; refine wpList_append_C rfl (.tmp 27) (.tmp 29) 25 rfl Tryd.underlying25 (w.heap.size + 1) _ acc rfl HO4.out wr.heap.size 1 (p : Int) rfl (HK4.out.cell 0 _ rfl) (by have := HLe.out; have := HK2.out; omega) (by exact HSz.out) ?_; intro v5 w5 ho5 hg5; have HO5 := hide ho5; obtain ⟨g1, g2, g3, g4⟩ := (HGo v5 w5 ho5 hg5).out; have HB5 := hide g3; have HC5 := hide g4; clear ho5 hg5 g3 g4)
      go_ret2
      exact ⟨Or.inl ⟨by rw [HE.out], _, rfl, by rw [HE.out]; exact HO5.out.mono (by omega)⟩, HB5.out⟩
    have hyd : decide (268435448 ≤ y) = false := by simpa using hye
    by_cases hy0 : y = 0 ∨ y = 268435447
    · have hyc : (y == 0) = true ∨ ((y == 0) = false ∧ (y == 268435447) = true) := by simp; omega
      have HE := hide (show F0 = ([], 11) by rw [HT.out, if_pos hy0])
      clear hye hy0 HT
      rcases hyc with y0 | ⟨y0, y1⟩
      all_goals
        go_wp2_with fail
        refine HIo.out.mono ?_
        rintro e9 w2 ⟨rfl, h3⟩
        rw [h3]
        clear h3
        go_wp2_with fail
        refine HIm.out.mono ?_
        rintro e9 w2 ⟨rfl, h3⟩
        rw [h3]
        clear h3
        go_wp2_with (at_builtin; rw [← HW4.out]; refine wpList_append_C rfl (.tmp 27) (.tmp 29) 25 rfl Tryd.underlying25 (w.heap.size + 1) _ acc rfl HO4.out wr.heap.size 1 (p : Int) rfl (HK4.out.cell 0 _ rfl) (by have := HLe.out; have := HK2.out; omega) (by exact HSz.out) ?_; intro v5 w5 ho5 hg5; have HO5 := hide ho5; obtain ⟨g1, g2, g3, g4⟩ := (HGo v5 w5 ho5 hg5).out; have HB5 := hide g3; have HC5 := hide g4; clear ho5 hg5 g3 g4)
        go_ret2
        exact ⟨Or.inr ⟨by rw [HE.out]; decide, by rw [HE.out]; rfl⟩, HB5.out⟩
    · have y0 : (y == 0) = false := by simp; omega
      have y1 : (y == 268435447) = false := by simp; omega
      have HE := hide (show F0 = fol L k mk m (acc ++ [(p : Int)]) y by rw [HT.out, if_neg hy0, if_neg hye])
      clear hye hy0 HT
      go_wp2_with fail
      refine HIo.out.mono ?_
      rintro e9 w2 ⟨rfl, h3⟩
      rw [h3]
      clear h3
      go_wp2_with fail
      refine HIm.out.mono ?_
      rintro e9 w2 ⟨rfl, h3⟩
      rw [h3]
      clear h3
      go_wp2_with (at_builtin; rw [← HW4.out]; refine wpList_append_C rfl (.tmp 27) (.tmp 29) 25 rfl Tryd.underlying25 (w.heap.size + 1) _ acc rfl HO4.out wr.heap.size 1 (p : Int) rfl (HK4.out.cell 0 _ rfl) (by have := HLe.out; have := HK2.out; omega) (by exact HSz.out) ?_; intro v5 w5 ho5 hg5; have HO5 := hide ho5; obtain ⟨g1, g2, g3, g4⟩ := (HGo v5 w5 ho5 hg5).out; have HB5 := hide g3; have HC5 := hide g4; clear ho5 hg5 g3 g4)
      obtain ⟨a5, c5, hv5⟩ := HO5.out.len
      have hle := HLe.out
      refine ⟨⟨m, acc ++ [(p : Int)], y, rfl, by have := HYr.out; omega, HO5.out, by simp; omega, ?_, ?_, HE.out, HC5.out⟩, ?_⟩
      · exact List.nodup_append.2 ⟨HNd.out, by simp, by intro q hq r hr; simp at hr; subst hr; exact fun e => HNi.out (e ▸ hq)⟩
      · intro a ha
        rcases List.mem_append.1 ha with h | h
        · exact HIn.out a h
        · simp at h; subst h; exact HH2.out
      · rw [hv5]
        simp
        omega
end Go.Proofs.YtcbbaoiefdbcpaaDoor.Oct
