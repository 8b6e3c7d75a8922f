/- The bytes of the clusters that are free. -/
import Derived.Test.YtcbbaoiefdbcpaaDoorPFov
import Derived.Test.YtcbbaoiefdbcpaaDoorPRisNorFgh
namespace Go.Proofs.YtcbbaoiefdbcpaaDoor.Oct
open Go.RowKit

set_option maxHeartbeats 4000000 in
theorem unit_any (b : Bt) (w : World) (hn : -1099511627776 ≤ b.each ∧ b.each ≤ 1099511627776) :
    Calls Tryd.prog 53 #[.agg b.cs] w fun e w' => e = .returned (.int .i64 (512 * b.each)) ∧ Below w.heap.size w w' := by
  obtain ⟨c0, c1, c2, c3, c4, c5, c6, c7⟩ := cells_of (Blk.new w b.cs 63)
  have HB := hide ((Below.refl w.heap.size w).alloc (Nat.le_refl _) (.cells b.cs 63))
  have hm : IntKind.i64.wrap (512 * b.each) = 512 * b.each := by rw [IntKind.wrap_i64]; omega
  clear hn
  go_enter Tryd.func53, Tryd.ntmps53
  go_wp2_with fail
  go_ret
  exact ⟨rfl, HB.out⟩

/-- Where a cluster begins. -/
def Bt.at (b : Bt) (n : Int) : Int := b.data * 512 + (n - 2) * (512 * b.each)

set_option maxHeartbeats 8000000 in
set_option maxRecDepth 100000 in
theorem at_ok (b : Bt) (n : Int) (w : World) (hf : b.form = true) (h0 : 0 ≤ n) (h1 : n ≤ 100000) :
    Calls Tryd.prog 33 #[.agg b.cs, .int .i64 n] w fun e w' => e = .returned (.agg #[.int .i64 (b.at n), .int .i64 (b.at n + 512 * b.each)]) ∧ Below w.heap.size w w' := by
  obtain ⟨w1, hw1⟩ : ∃ w1, w1 = w.alloc (.cells b.cs 63) := ⟨_, rfl⟩
  obtain ⟨w2, hw2⟩ : ∃ w2, w2 = w1.alloc (.cells #[.int .i64 0, .int .i64 0] 72) := ⟨_, rfl⟩
  have hs1 : w1.heap.size = w.heap.size + 1 := by rw [hw1]; simp
  have hb1 : Below w.heap.size w w1 := by rw [hw1]; exact (Below.refl _ _).alloc (Nat.le_refl _) _
  have hb2 : Below w1.heap.size w1 w2 := by rw [hw2]; exact (Below.refl _ _).alloc (Nat.le_refl _) _
  have HK2 := hide (show Blk w2 (w.heap.size + 1) #[.int .i64 0, .int .i64 0] 72 by rw [hw2, ← hs1]; exact Blk.new _ _ _)
  have HI2 := hide ((show Blk w1 w.heap.size b.cs 63 by rw [hw1]; exact Blk.new _ _ _).below hb2)
  have HB2 := hide (hb1.trans (hb2.mono hb1.size))
  have hfs := Bt.form_says hf
  have hfn := Bt.form_near hf
  have HDa := fun u => hide (data_any b u hfn.1)
  have HUn := fun u => hide (unit_any b u (by omega))
  have hdd : 0 ≤ b.data ∧ b.data ≤ 70000 := by unfold Bt.data; omega
  have hp : 0 ≤ (n - 2) * (512 * b.each) + 8192 ∧ (n - 2) * (512 * b.each) ≤ 1000000000 := by
    have he : b.each = 1 ∨ b.each = 2 ∨ b.each = 3 ∨ b.each = 4 ∨ b.each = 5 ∨ b.each = 6 ∨ b.each = 7 ∨ b.each = 8 := by omega
    rcases he with e | e | e | e | e | e | e | e <;> rw [e] <;> omega
  have m1 : IntKind.i64.wrap (b.data * 512) = b.data * 512 := by rw [IntKind.wrap_i64]; omega
  have m2 : IntKind.i64.wrap (n - 2) = n - 2 := by rw [IntKind.wrap_i64]; omega
  have m3 : IntKind.i64.wrap ((n - 2) * (512 * b.each)) = (n - 2) * (512 * b.each) := by rw [IntKind.wrap_i64]; omega
  have m4 : IntKind.i64.wrap (b.data * 512 + (n - 2) * (512 * b.each)) = b.at n := by rw [IntKind.wrap_i64]; unfold Bt.at; omega
  have m5 : IntKind.i64.wrap (b.at n + 512 * b.each) = b.at n + 512 * b.each := by rw [IntKind.wrap_i64]; unfold Bt.at; omega
  have HW2 := hide (show w2 = (w.alloc (.cells b.cs 63)).alloc (.cells #[.int .i64 0, .int .i64 0] 72) by rw [hw2, hw1])
  clear hf h0 h1 hw1 hw2 hb1 hb2 hs1 hfs hfn hdd hp
  have HI := hide HI2.out.drew
  have HK := hide HK2.out.drew
  have HB := hide HB2.out.drew
  have hsb : w2.drew.cell? ⟨w.heap.size, 0, none⟩ = some (.int .i64 b.each) ∧ w2.drew.cell? ⟨w.heap.size, 1, none⟩ = some (.int .i64 b.ahead) ∧ w2.drew.cell? ⟨w.heap.size, 2, none⟩ = some (.int .i64 b.tabs) ∧ w2.drew.cell? ⟨w.heap.size, 3, none⟩ = some (.int .i64 b.secs) ∧ w2.drew.cell? ⟨w.heap.size, 4, none⟩ = some (.int .i64 b.long) ∧ w2.drew.cell? ⟨w.heap.size, 5, none⟩ = some (.int .i64 b.root) ∧ w2.drew.cell? ⟨w.heap.size, 6, none⟩ = some (.int .i64 b.info) ∧ w2.drew.cell? ⟨w.heap.size, 7, none⟩ = some (.int .i64 b.copy) := cells_of HI.out
  go_enter Tryd.func33, Tryd.ntmps33
  go_wp2_with fail
  rw [← HW2.out]
  obtain ⟨c0, c1, c2, c3, c4, c5, c6, c7⟩ := cells_of HI2.out
  go_region_held3 (fun u => u.cell? ⟨w.heap.size, 0, none⟩ = some (.int .i64 b.each) ∧ u.cell? ⟨w.heap.size, 1, none⟩ = some (.int .i64 b.ahead) ∧ u.cell? ⟨w.heap.size, 2, none⟩ = some (.int .i64 b.tabs) ∧ u.cell? ⟨w.heap.size, 3, none⟩ = some (.int .i64 b.secs) ∧ u.cell? ⟨w.heap.size, 4, none⟩ = some (.int .i64 b.long) ∧ u.cell? ⟨w.heap.size, 5, none⟩ = some (.int .i64 b.root) ∧ u.cell? ⟨w.heap.size, 6, none⟩ = some (.int .i64 b.info) ∧ u.cell? ⟨w.heap.size, 7, none⟩ = some (.int .i64 b.copy)) (first | go_keep | exact hsb | exact cells_of HI.out) (first
    | (go_at_call 19; refine ((HDa _).out).mono ?_; rintro e9 w8 ⟨rfl, hb8⟩; have HI := hide (HI.out.below hb8); have HK := hide (HK.out.below hb8); have HB := hide (HB.out.trans (hb8.mono HB.out.size)); clear hb8)
    | (go_at_call 53; refine ((HUn _).out).mono ?_; rintro e9 w7 ⟨rfl, hb8⟩; have HI := hide (HI.out.below hb8); have HK := hide (HK.out.below hb8); have HB := hide (HB.out.trans (hb8.mono HB.out.size)); clear hb8))
  all_goals
    clear c0 c1 c2 c3 c4 c5 c6 c7
    obtain ⟨c0, c1, c2, c3, c4, c5, c6, c7⟩ := cells_of HI.out
    go_wp2_with fail
    refine ((HUn _).out).mono ?_
    rintro e9 w6 ⟨rfl, hb8⟩
    have HK := hide (HK.out.below hb8)
    have HB := hide (HB.out.trans (hb8.mono HB.out.size))
    clear hb8
    have z0 := HK.out.cell 0 _ rfl
    have z1 := HK.out.cell 1 _ rfl
    have f0 := HK.out.frozen 0
    have f1 := HK.out.frozen 1
    go_wp2_with fail
    refine bodyPost_ret (results_cell_row rfl _ _ (w.heap.size + 1) 72 _ (0, 0) _ rfl (((HK.out.set 0 (.int .i64 (b.at n))).set 1 (.int .i64 (b.at n + 512 * b.each)))) Tryd.underlying72 rfl (by kernel_rfl)) rfl ⟨rfl, ?_⟩
    exact (HB.out.setCell (p := ⟨w.heap.size + 1, 0, none⟩) (by show w.heap.size ≤ w.heap.size + 1; omega) _).setCell (p := ⟨w.heap.size + 1, 1, none⟩) (by show w.heap.size ≤ w.heap.size + 1; omega) _

/-- The bytes of the first clusters that are free. -/
def spcF (b : Bt) (L : List Int) (j : Nat) : List (Int × Int) := (List.range j).flatMap (fun i => if L.getD i 0 = 0 then [(b.at ((i : Int) + 2), b.at ((i : Int) + 2) + 512 * b.each)] else [])

theorem spcF_step (b : Bt) (L : List Int) (j : Nat) : spcF b L (j + 1) = spcF b L j ++ if L.getD j 0 = 0 then [(b.at ((j : Int) + 2), b.at ((j : Int) + 2) + 512 * b.each)] else [] := by
  unfold spcF
  rw [List.range_succ, List.flatMap_append]
  simp

theorem spcF_len (b : Bt) (L : List Int) : ∀ j, (spcF b L j).length ≤ j
  | 0 => by simp [spcF]
  | j + 1 => by
    have := spcF_len b L j
    rw [spcF_step, List.length_append]
    split <;> simp <;> omega

set_option maxHeartbeats 8000000 in
set_option maxRecDepth 100000 in
theorem space_ok (hS : SortSays) (b : Bt) (R g k : Nat) (f x : Int) (L : List Int) (w : World) (hf : b.form = true) (hk2 : k ≤ 40000) (hR : Blk w R (volC b g k f x) 68) (hL : ∀ j, j < k → w.cell? ⟨g, j, none⟩ = some (.int .u32 (L.getD j 0))) :
    Calls Tryd.prog 21 #[.pointer (some ⟨R, 0, none⟩)] w fun e w' => (∃ v N, e = .returned v ∧ OwnE w' w.heap.size v N ∧ Normed (spcF b L k) N) ∧ Below w.heap.size w w' := by
  have HAt := fun (n : Int) (h0 : 0 ≤ n) (h1 : n ≤ 100000) (u : World) => hide (at_ok b n u hf h0 h1)
  have HN := fun (u : World) (a : Option Addr) (c : Nat) (M : List (Int × Int)) (h : LiesE u a M) (hl : M.length ≤ 1000000) => hide (norm_any hS u a c M h hl)
  obtain ⟨i1, hi, hz0, hz1, hz2⟩ := info_parts info_E
  have c8 : w.cell? ⟨R, 8, none⟩ = some (.slice (some ⟨g, 0, none⟩) k k) := hR.cell 8 _ rfl
  have HR := hide hR
  have HK := hide hk2
  have HL := hide hL
  have hRl := hR.lt
  have HRl := hide hRl
  clear hR hk2 hL hS hf hRl
  go_enter Tryd.func21, Tryd.ntmps21
  go_wp2_with fail
  go_loopw [3, 13] (fun v i wr => ∃ j : Nat, j ≤ k ∧ i = .int .i64 (j : Int) ∧ OwnE wr w.heap.size v (spcF b L j) ∧ Below w.heap.size w wr) (fun _ i _ => k - (intOf i).toNat)
  case atStart => exact ⟨0, by omega, rfl, OwnE.nil _ _, Below.refl _ _⟩
  case round =>
    obtain ⟨j, hj, rfl, ho, hbr⟩ := hrel
    have HO := hide ho
    have HBr := hide hbr
    have hln := spcF_len b L j
    clear ho hbr
    by_cases hjk : j < k
    · have cj := (HBr.out.cell (p := ⟨g, j, none⟩) (lt_of_cell (HL.out j hjk))).trans (HL.out j hjk)
      have hk3 := HK.out
      have hq3 : IntKind.i64.wrap ((j : Int) + 1) = (j : Int) + 1 := by rw [IntKind.wrap_i64]; omega
      have hq4 : IntKind.i64.wrap ((j : Int) + 2) = (j : Int) + 2 := by rw [IntKind.wrap_i64]; omega
      have hlt : (j : Int) < (k : Int) := by omega
      have HJ := hide hjk
      have HSt := hide (spcF_step b L j)
      have HAj := fun u => HAt ((j : Int) + 2) (by omega) (by omega) u
      by_cases h0 : L.getD j 0 = 0
      · have h1 := HSt.out
        rw [if_pos h0] at h1
        have H1 := hide h1
        rw [h0] at cj
        have HR2 := hide (HR.out.below HBr.out)
        have d0 := HR2.out.cell 0 _ rfl
        have d1 := HR2.out.cell 1 _ rfl
        have d2 := HR2.out.cell 2 _ rfl
        have d3 := HR2.out.cell 3 _ rfl
        have d4 := HR2.out.cell 4 _ rfl
        have d5 := HR2.out.cell 5 _ rfl
        have d6 := HR2.out.cell 6 _ rfl
        have d7 := HR2.out.cell 7 _ rfl
        have HLn := hide (And.intro hln hk3)
        clear h1 h0 HSt hjk hk3 hj hln HN HAt
        generalize b.at ((j : Int) + 2) = x1 at *
        generalize x1 + 512 * b.each = x2 at *
        go_wp2_with fail
        refine ((HAj _).out).mono ?_
        rintro e9 w4 ⟨rfl, hb4⟩
        have HO4 := hide (HO.out.below hb4)
        have HB4 := hide (HBr.out.trans (hb4.mono HBr.out.size))
        clear hb4 d0 d1 d2 d3 d4 d5 d6 d7 cj
        obtain ⟨ao, co, hvo, _, hoc, hom, _⟩ := HO4.out.form
        subst hvo
        have HO3 := hide (World.ownsRow.alloc HO4.out (.cells #[.int .i64 x1, .int .i64 x2] 72))
        have HB3 := hide (HB4.out.alloc HB4.out.size (.cells #[.int .i64 x1, .int .i64 x2] 72))
        have HN3 := hide (new2 w4 72 (.int .i64 x1) (.int .i64 x2))
        have hlb := HLn.out
        generalize spcF b L j = M at *
        have hjb := HJ.out
        go_wp2_with (at_builtin; refine wpList_append_own_at _ rfl (.tmp 20) (.tmp 28) 47 rfl w.heap.size 72 i1 (.agg #[.int .i64 0, .int .i64 0]) 2 16 Tryd.underlying47 hi hz0 hz1 hz2 rfl (by decide) (.slice ao M.length co) M.length (M.flatMap encE) rfl HO3.out ⟨w4.heap.size, 0, none⟩ 1 1 [.int .i64 x1, .int .i64 x2] rfl rfl HN3.out (by simp [Value.oneCell']) (by unfold maxLen; omega) (by omega) HB3.out.size ?_; intro v5 w5 ho5 hg5 _ hw5; have HO5 := hide ho5; have HG5 := hide hg5; clear ho5 hg5 hw5)
        have ho6 : OwnE w5 w.heap.size v5 (M ++ [(x1, x2)]) := by
          unfold OwnE
          rw [List.flatMap_append, List.length_append]
          exact HO5.out
        have hb6 := HB3.out.grown HG5.out HB3.out.size (fun q hq => (World.ownsRow.lt HO3.out q hq).1)
        refine ⟨⟨j + 1, by omega, by go_num, by rw [H1.out]; exact ho6, hb6⟩, ?_⟩
        simp [intOf]
        omega
      · have h1 := HSt.out
        rw [if_neg h0, List.append_nil] at h1
        have H1 := hide h1
        have hq : (L.getD j 0 == 0) = false := by simpa using h0
        generalize L.getD j 0 = v0 at *
        clear h1 h0 HSt hk3 hj hln HN HAt HAj hjk
        go_wp2_with fail
        go_roundw
        case rel => exact ⟨j + 1, by have := HJ.out; omega, by push_cast; rfl, by rw [H1.out]; exact HO.out, HBr.out⟩
        case measure => have := HJ.out; simp [intOf]; omega
    · obtain rfl : j = k := by omega
      clear hjk
      have hnlt : ¬ ((j : Int) < (j : Int)) := by omega
      obtain ⟨ao, co, hvo, hlo, _⟩ := HO.out.form
      subst hvo
      have HNo := HN wr ao co _ hlo (by have := HK.out; omega)
      clear hlo HN
      go_wp2_with fail
      refine HNo.out.mono ?_
      rintro e9 w5 ⟨v5, N5, rfl, ho5, hn5, hb5⟩
      have HO5 := hide (ho5.mono HBr.out.size)
      have HN5 := hide hn5
      have HB5 := hide (HBr.out.trans (hb5.mono HBr.out.size))
      clear ho5 hn5 hb5
      go_wp2_with fail
      go_ret
      exact ⟨⟨_, _, rfl, HO5.out, HN5.out⟩, HB5.out⟩
end Go.Proofs.YtcbbaoiefdbcpaaDoor.Oct
