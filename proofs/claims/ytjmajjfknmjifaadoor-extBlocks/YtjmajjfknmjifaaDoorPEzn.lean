/- The only group of the volume of 128 blocks is opened. -/
import Derived.Test.YtjmajjfknmjifaaDoorPEzk
import Derived.Test.YtjmajjfknmjifaaDoorPEzi
namespace Go.Proofs.YtjmajjfknmjifaaDoor.Oct
open Go.RowKit

theorem Own.liesE {u : World} {B g n c : Nat} {L : List Int} (h : Own u B (.slice (some ⟨g, 0, none⟩) n c) L) : Lies u (some ⟨g, 0, none⟩) L := by
  obtain ⟨a', c', e', hsl, _⟩ := h.sl
  injection e' with e1 e2 e3
  rw [e1]
  exact hsl.lies

theorem rows_rB {w : World} {g : Nat} (h : Blk w g #[.int .i64 3, .int .i64 4, .int .i64 5, .int .i64 120, .int .i64 6, .int .i64 1] 41) : w.cell? ⟨g, 0, none⟩ = some (.int .i64 3) ∧ w.cell? ⟨g, 1, none⟩ = some (.int .i64 4) ∧ w.cell? ⟨g, 2, none⟩ = some (.int .i64 5) ∧ w.cell? ⟨g, 3, none⟩ = some (.int .i64 120) ∧ w.cell? ⟨g, 4, none⟩ = some (.int .i64 6) ∧ w.cell? ⟨g, 5, none⟩ = some (.int .i64 1) :=
  ⟨h.cell 0 _ rfl, h.cell 1 _ rfl, h.cell 2 _ rfl, h.cell 3 _ rfl, h.cell 4 _ rfl, h.cell 5 _ rfl⟩

theorem wpList_appE {P : Program} {ops : Array Oper} {rest : List Oper} {o : Oper} {a : Act} {w : World} {Q : Exit → Act → World → Prop} (hgd : o.guard = none) (s x : Operand) (t : TypeId) (ho : o.op = .call { callee := .builtin .append, args := #[s, x], argTypes := #[t, t] }) (v q v' : Value) (w' : World) (hs : a.eval s = v) (hx : a.eval x = q) (hr : (Builtin.append_ #[t, t] o.type #[v, q]).run P w = .ok v' w') (h : wpList P ops Q rest (a.put o.dst v') w') : wpList P ops Q (o :: rest) a w := by
  refine wpList_plain hgd fun K hK => ?_
  unfold Oper.wp
  rw [exec_appendZ ho hs hx hr]
  exact hK _ _ h

/-- What two maps must be for a volume of 128 blocks. -/
structure MapsX (F1 F2 : List Int) : Prop where
  len1 : F1.length = 1024
  len2 : F2.length = 1024
  by1 : Byts F1
  by2 : Byts F2
  fix : ∀ i : Int, 0 ≤ i → i < 7 → hasB F1 i = true
  last : hasB F1 127 = true
  fr1 : freeB F1 128 = 120
  fr2 : freeB F2 16 = 6

set_option maxHeartbeats 16000000 in
set_option maxRecDepth 100000 in
theorem ogroup_ok (R : Nat) (a : Option Addr) (cap m : Nat) (d F1 F2 : List Int) (w : World) (hD : DiskE w a cap d) (hm : m = d.length) (hlen : 131072 ≤ d.length) (hd1 : cutE d 3072 1024 = F1) (hd2 : cutE d 4096 1024 = F2) (hM : MapsX F1 F2)
    (hDn : ∀ x, a = some x → x.block ≠ R) (hR : Blk w R (volX s1 (.slice none 0 0) (.slice none 0 0) (.slice none 0 0) (.iface 76 (.slice a m cap))) 82) :
    Calls Tryd.prog 57 #[.pointer (some ⟨R, 0, none⟩), .int .i64 0, .agg #[.int .i64 3, .int .i64 4, .int .i64 5, .int .i64 120, .int .i64 6, .int .i64 1]] w fun e w' => e = .returned (.int .i64 0) ∧ VolB w' R (.iface 76 (.slice a m cap)) F1 F2 ∧ Chg (fun k => R = k ∨ w.heap.size ≤ k) w w' := by
  have HFx := fun (gr cr : Nat) (b n d : Value) (u : World) h1 h2 => hide (fixed_ok R gr cr b n d u h1 h2)
  have HGr := fun u => hide (s1_group u)
  have HC1 := fun (u : World) (g cap p q : Nat) h1 h3 => hide (contains1_none u g cap p q [1, 2, 3, 4, 5, 6] h1 (by simp) h3)
  have HC2 := fun (u : World) (g cap p q : Nat) h1 h3 => hide (contains2_none u g cap p q [1, 2, 3, 4, 5, 6] h1 (by simp) h3)
  have HDf := fun (u : World) (g cap : Nat) h1 => hide (differ_yes u g cap [1, 2, 3, 4, 5, 6] h1 (by simp) (by simp) (List.mergeSort_of_pairwise (by decide)) (fun k hk => by
    have : k = 0 ∨ k = 1 ∨ k = 2 ∨ k = 3 ∨ k = 4 := by simp at hk; omega
    rcases this with rfl | rfl | rfl | rfl | rfl <;> decide))
  have HO1 : ∀ (r b nn : Value) (u : World), DiskE u a cap d → Blk u R (volX s1 r b nn (.iface 76 (.slice a m cap))) 82 → Hid (Calls Tryd.prog 77 #[.pointer (some ⟨R, 0, none⟩), .int .i64 3] u fun e w' => (∃ g c', e = .returned (.tuple #[.slice (some ⟨g, 0, none⟩) 1024 c', .int .i64 0]) ∧ Own w' u.heap.size (.slice (some ⟨g, 0, none⟩) 1024 c') F1) ∧ Below u.heap.size u w') := fun r b nn u h1 h2 => hide (by
    rw [hm] at h2
    have h := omap_ok R r b nn a cap d 3 u h1 hlen (by omega) (by omega) h2
    rw [show ((3 : Int) * 1024).toNat = 3072 by decide, hd1] at h
    exact h)
  have HO2 : ∀ (r b nn : Value) (u : World), DiskE u a cap d → Blk u R (volX s1 r b nn (.iface 76 (.slice a m cap))) 82 → Hid (Calls Tryd.prog 77 #[.pointer (some ⟨R, 0, none⟩), .int .i64 4] u fun e w' => (∃ g c', e = .returned (.tuple #[.slice (some ⟨g, 0, none⟩) 1024 c', .int .i64 0]) ∧ Own w' u.heap.size (.slice (some ⟨g, 0, none⟩) 1024 c') F2) ∧ Below u.heap.size u w') := fun r b nn u h1 h2 => hide (by
    rw [hm] at h2
    have h := omap_ok R r b nn a cap d 4 u h1 hlen (by omega) (by omega) h2
    rw [show ((4 : Int) * 1024).toNat = 4096 by decide, hd2] at h
    exact h)
  have HG1 : ∀ (p q k : Nat) (u : World), k < 6 → u.cell? ⟨p, 0, none⟩ = some (.int .i64 1) → u.cell? ⟨q, 0, none⟩ = some (.int .i64 128) → Calls Tryd.prog 75 #[.int .i64 (([1, 2, 3, 4, 5, 6] : List Int).getD k 0), .pointer (some ⟨p, 0, none⟩), .pointer (some ⟨q, 0, none⟩)] u fun e w' => e = .returned (.bool false) ∧ w' = u := fun p q k u hk h1 h2 => by
    have : k = 0 ∨ k = 1 ∨ k = 2 ∨ k = 3 ∨ k = 4 ∨ k = 5 := by omega
    rcases this with rfl | rfl | rfl | rfl | rfl | rfl <;> exact og1_no _ 1 128 p q u h1 h2 (by decide) (by decide)
  have HG2 : ∀ (p q k g c : Nat) (u : World), k < 6 → u.cell? ⟨p, 0, none⟩ = some (.slice (some ⟨g, 0, none⟩) 1024 c) → u.cell? ⟨q, 0, none⟩ = some (.int .i64 1) → Lies u (some ⟨g, 0, none⟩) F1 → Calls Tryd.prog 78 #[.int .i64 (([1, 2, 3, 4, 5, 6] : List Int).getD k 0), .pointer (some ⟨p, 0, none⟩), .pointer (some ⟨q, 0, none⟩)] u fun e w' => e = .returned (.bool false) ∧ w' = u := fun p q k g c u hk h1 h2 h3 => by
    rw [← hM.len1] at h1
    have : k = 0 ∨ k = 1 ∨ k = 2 ∨ k = 3 ∨ k = 4 ∨ k = 5 := by omega
    rcases this with rfl | rfl | rfl | rfl | rfl | rfl <;> exact og2_no _ 1 p q _ c F1 u h1 h2 (by rw [hM.len1]; omega) h3 hM.by1 (by decide) (by decide) (hM.fix _ (by decide) (by decide))
  have HFu : ∀ (g c : Nat) (u : World), Lies u (some ⟨g, 0, none⟩) F1 → Hid (Calls Tryd.prog 79 #[.slice (some ⟨g, 0, none⟩) 1024 c, .int .i64 127, .int .i64 128] u fun e w' => e = .returned (.bool true) ∧ w' = u) := fun g c u hl => hide (by
    have h := full_yes (some ⟨g, 0, none⟩) c F1 127 128 u (by rw [hM.len1]; omega) hl hM.by1 (by omega) (by omega) (fun i h1 h2 => by rw [show i = 127 by omega]; exact hM.last)
    rw [hM.len1] at h
    exact h)
  have HK1 : ∀ (g c : Nat) (u : World), Lies u (some ⟨g, 0, none⟩) F1 → Hid (Calls Tryd.prog 28 #[.slice (some ⟨g, 0, none⟩) 1024 c, .int .i64 128] u fun e w' => e = .returned (.int .i64 120) ∧ w' = u) := fun g c u hl => hide (by
    have h := count_any (some ⟨g, 0, none⟩) c F1 128 u (by rw [hM.len1]; omega) hl hM.by1
    rw [hM.len1, show (min (128 : Int) (8 * ((1024 : Nat) : Int))).toNat = 128 by decide, hM.fr1] at h
    exact h)
  have HK2 : ∀ (g c : Nat) (u : World), Lies u (some ⟨g, 0, none⟩) F2 → Hid (Calls Tryd.prog 28 #[.slice (some ⟨g, 0, none⟩) 1024 c, .int .i64 16] u fun e w' => e = .returned (.int .i64 6) ∧ w' = u) := fun g c u hl => hide (by
    have h := count_any (some ⟨g, 0, none⟩) c F2 16 u (by rw [hM.len2]; omega) hl hM.by2
    rw [hM.len2, show (min (16 : Int) (8 * ((1024 : Nat) : Int))).toNat = 16 by decide, hM.fr2] at h
    exact h)
  have HRl := hide hR.lt
  have HDn := hide hDn
  obtain ⟨G, hG⟩ : ∃ G, G = w.heap.size := ⟨_, rfl⟩
  obtain ⟨w1, hw1⟩ : ∃ w1, w1 = w.alloc (.cells #[.int .i64 3, .int .i64 4, .int .i64 5, .int .i64 120, .int .i64 6, .int .i64 1] 41) := ⟨_, rfl⟩
  have hb1 : Below w.heap.size w w1 := by rw [hw1]; exact (Below.refl _ _).alloc (Nat.le_refl _) _
  have HI1 := hide (show Blk w1 G #[.int .i64 3, .int .i64 4, .int .i64 5, .int .i64 120, .int .i64 6, .int .i64 1] 41 by rw [hw1, hG]; exact Blk.new _ _ _)
  have HV1 := hide (hR.below hb1)
  have HB1 := hide hb1
  have HD1 := hide (hD.below hb1)
  have HW1 := hide hw1
  have HGe := hide hG
  have HGR := hide (show G ≠ R by have := hR.lt; omega)
  obtain ⟨ri, hri, hrz, hrs, hrb⟩ := info_parts info_row
  obtain ⟨mi, hmi, hmz, hms, hmb⟩ := info_parts info_map
  clear hD hDn hm hlen hd1 hd2 hM hR hb1 hw1 hG
  go_enter Tryd.func57, Tryd.ntmps57
  go_wp2_with fail
  rw [← HGe.out, ← HW1.out]
  refine b_region (S := (fun u => u.cell? ⟨R, 8, none⟩ = some (.slice none 0 0) ∧ Blk u G #[.int .i64 3, .int .i64 4, .int .i64 5, .int .i64 120, .int .i64 6, .int .i64 1] 41)) (F := (fun j => decide (j < 9))) (by kernel_rfl) ?_
  refine b_take 0 (some 13) (.pointer (some ⟨R, 0, none⟩)) rfl rfl (by kernel_rfl) (by kernel_rfl) (by kernel_rfl) (by kernel_rfl) (by kernel_rfl) (fun _ _ _ h => h) (by rfl) ⟨(HV1.out.drew.cell 8 _ rfl), HI1.out.drew⟩ ?_ ?_
  · intro u hSu
    obtain ⟨sU, tU⟩ := hSu
    go_simp
  try simp only [Act.put, List.setIfInBounds_toArray, List.set_cons_zero, List.set_cons_succ]
  refine b_take 1 (some 14) (.pointer (some ⟨R, 0, none⟩)) rfl rfl (by kernel_rfl) (by kernel_rfl) (by kernel_rfl) (by kernel_rfl) (by kernel_rfl) (fun _ _ _ h => h) (by rfl) ⟨(HV1.out.drew.cell 8 _ rfl), HI1.out.drew⟩ ?_ ?_
  · intro u hSu
    obtain ⟨sU, tU⟩ := hSu
    go_simp
  try simp only [Act.put, List.setIfInBounds_toArray, List.set_cons_zero, List.set_cons_succ]
  refine b_take 2 (some 15) (.pointer (some ⟨R, 0, none⟩)) rfl rfl (by kernel_rfl) (by kernel_rfl) (by kernel_rfl) (by kernel_rfl) (by kernel_rfl) (fun _ _ _ h => h) (by rfl) ⟨(HV1.out.drew.cell 8 _ rfl), HI1.out.drew⟩ ?_ ?_
  · intro u hSu
    obtain ⟨sU, tU⟩ := hSu
    go_simp
  try simp only [Act.put, List.setIfInBounds_toArray, List.set_cons_zero, List.set_cons_succ]
  refine b_take 3 (some 16) (.pointer (some ⟨R, 8, none⟩)) rfl rfl (by kernel_rfl) (by kernel_rfl) (by kernel_rfl) (by kernel_rfl) (by kernel_rfl) (fun _ _ _ h => h) (by rfl) ⟨(HV1.out.drew.cell 8 _ rfl), HI1.out.drew⟩ ?_ ?_
  · intro u hSu
    obtain ⟨sU, tU⟩ := hSu
    go_simp
  try simp only [Act.put, List.setIfInBounds_toArray, List.set_cons_zero, List.set_cons_succ]
  refine b_take 4 (some 17) (.slice none 0 0) rfl rfl (by kernel_rfl) (by kernel_rfl) (by kernel_rfl) (by kernel_rfl) (by kernel_rfl) (fun _ _ _ h => h) (by rfl) ⟨(HV1.out.drew.cell 8 _ rfl), HI1.out.drew⟩ ?_ ?_
  · intro u hSu
    obtain ⟨sU, tU⟩ := hSu
    go_simp
  try simp only [Act.put, List.setIfInBounds_toArray, List.set_cons_zero, List.set_cons_succ]
  refine b_take 5 (some 18) (.agg #[.int .i64 3, .int .i64 4, .int .i64 5, .int .i64 120, .int .i64 6, .int .i64 1]) rfl rfl (by kernel_rfl) (by kernel_rfl) (by kernel_rfl) (by kernel_rfl) (by kernel_rfl) (fun _ _ _ h => h) (by rfl) ⟨(HV1.out.drew.cell 8 _ rfl), HI1.out.drew⟩ ?_ ?_
  · intro u hSu
    obtain ⟨sU, tU⟩ := hSu
    obtain ⟨u0, u1, u2, u3, u4, u5⟩ := rows_rB tU
    go_simp
  try simp only [Act.put, List.setIfInBounds_toArray, List.set_cons_zero, List.set_cons_succ]
  refine b_ready (rs := [6]) (by kernel_rfl) (by simp) ?_
  refine AllReadyB.cons (i := 6) rfl (fun K hK => ?_) AllReadyB.nil
  go_simp
  refine hK.out _ _ (fun _ => ⟨(HV1.out.drew.below (show Below w1.drew.heap.size w1.drew (w1.drew.alloc (.cells #[.int .i64 3, .int .i64 4, .int .i64 5, .int .i64 120, .int .i64 6, .int .i64 1] 41)) from (Below.refl _ _).alloc (Nat.le_refl _) _)).cell 8 _ rfl, HI1.out.drew.below (show Below w1.drew.heap.size w1.drew (w1.drew.alloc (.cells #[.int .i64 3, .int .i64 4, .int .i64 5, .int .i64 120, .int .i64 6, .int .i64 1] 41)) from (Below.refl _ _).alloc (Nat.le_refl _) _)⟩) ?_
  clear hK K
  try simp only [Act.put, List.setIfInBounds_toArray, List.set_cons_zero, List.set_cons_succ]
  obtain ⟨z9, hz9⟩ : ∃ z9, z9 = (w1.alloc (.cells #[.int .i64 3, .int .i64 4, .int .i64 5, .int .i64 120, .int .i64 6, .int .i64 1] 41)).drew := ⟨_, rfl⟩
  have hbz9 : Below w1.heap.size w1 z9 := by rw [hz9]; exact ((Below.refl w1.heap.size w1).alloc (Nat.le_refl _) _).drew
  have hcz9 : CellsAt z9 w1.heap.size #[.int .i64 3, .int .i64 4, .int .i64 5, .int .i64 120, .int .i64 6, .int .i64 1].toList := by rw [hz9]; exact (Blk.new w1 #[.int .i64 3, .int .i64 4, .int .i64 5, .int .i64 120, .int .i64 6, .int .i64 1] 41).drew.cellsAt
  rw [← hz9]
  obtain ⟨gr, kr, vr, hrr, hcr, hgr, _, _, hbr⟩ := app_one z9 77 77 41 ri (.agg #[.int .i64 0, .int .i64 0, .int .i64 0, .int .i64 0, .int .i64 0, .int .i64 0]) 6 48 Tryd.underlying77 hri hrz hrs hrb rfl (by decide) w1.heap.size 1 #[.int .i64 3, .int .i64 4, .int .i64 5, .int .i64 120, .int .i64 6, .int .i64 1].toList rfl hcz9 (by simp [Value.oneCell']) (by decide)
  have hbb9 := hbz9.trans (hbr.mono hbz9.size)
  have HVr := hide (HV1.out.below hbb9)
  have HIr := hide (HI1.out.below hbb9)
  have HBr := hide (HB1.out.trans (hbb9.mono HB1.out.size))
  have HDr := hide (HD1.out.below hbb9)
  have HRr := hide hcr
  have HGrr := hide (show gr ≠ R ∧ gr ≠ G from by have h1 := hbz9.size; have h3 := HI1.out.lt; have h4 := HV1.out.lt; omega)
  have sv := HVr.out.cell 8 _ rfl
  have fv := HVr.out.frozen 8
  refine b_val 7 (some 20) (.slice (some ⟨gr, 0, none⟩) 1 kr) vr (by kernel_rfl) rfl rfl rfl (exec_appendZ (s := .tmp 17) (x := .tmp 19) (t := 77) (v := .slice none 0 0) (q := .slice (some ⟨w1.heap.size, 0, none⟩) 1 1) rfl (by rfl) (by rfl) hrr) (fun _ => ⟨(HVr.out.cell 8 _ rfl), HIr.out⟩) ?_
  try simp only [Act.put, List.setIfInBounds_toArray, List.set_cons_zero, List.set_cons_succ]
  clear hz9 hbz9 hcz9 hrr hcr hgr hbr hbb9
  refine b_take 8 (some 21) (.pointer (some ⟨R, 0, none⟩)) rfl rfl (by kernel_rfl) (by kernel_rfl) (by kernel_rfl) (by kernel_rfl) (by kernel_rfl) (fun _ _ _ h => h) (by rfl) ⟨(HVr.out.cell 8 _ rfl), HIr.out⟩ ?_ ?_
  · intro u hSu
    obtain ⟨sU, tU⟩ := hSu
    go_simp
  try simp only [Act.put, List.setIfInBounds_toArray, List.set_cons_zero, List.set_cons_succ]
  refine b_take 9 (some 22) (.pointer (some ⟨R, 8, none⟩)) rfl rfl (by kernel_rfl) (by kernel_rfl) (by kernel_rfl) (by kernel_rfl) (by kernel_rfl) (fun _ _ _ h => h) (by rfl) ⟨(HVr.out.cell 8 _ rfl), HIr.out⟩ ?_ ?_
  · intro u hSu
    obtain ⟨sU, tU⟩ := hSu
    go_simp
  try simp only [Act.put, List.setIfInBounds_toArray, List.set_cons_zero, List.set_cons_succ]
  refine b_ready (rs := [10]) (by kernel_rfl) (by simp) ?_
  refine AllReadyB.cons (i := 10) rfl (fun K hK => ?_) AllReadyB.nil
  go_simp
  refine hK.out _ _ (fun e => absurd e (by decide)) ?_
  clear hK K
  try simp only [Act.put, List.setIfInBounds_toArray, List.set_cons_zero, List.set_cons_succ]
  clear sv fv
  refine b_done (by kernel_rfl) ?_ _
  obtain ⟨w2, hw2⟩ : ∃ w2, w2 = vr.setCell ⟨R, 8, none⟩ (.slice (some ⟨gr, 0, none⟩) 1 kr) := ⟨_, rfl⟩
  have HV2 := hide (show Blk w2 R (volX s1 (.slice (some ⟨gr, 0, none⟩) 1 kr) (.slice none 0 0) (.slice none 0 0) (.iface 76 (.slice a m cap))) 82 by rw [hw2]; exact HVr.out.set 8 _)
  have HI2 := hide (show Blk w2 G #[.int .i64 3, .int .i64 4, .int .i64 5, .int .i64 120, .int .i64 6, .int .i64 1] 41 by rw [hw2]; exact HIr.out.setN HGR.out 8 _)
  have hcz : Chg (fun k => k = R) vr w2 := by rw [hw2]; exact (Chg.refl _ _).setZ R 8 _ rfl
  have HC2' := hide (show Chg (fun k => R = k ∨ w.heap.size ≤ k) w w2 by rw [hw2]; exact (Chg.of_below HBr.out).setZ R 8 _ (Or.inl rfl))
  have HR2 := hide (show CellsAt w2 gr #[.int .i64 3, .int .i64 4, .int .i64 5, .int .i64 120, .int .i64 6, .int .i64 1].toList by rw [hw2]; exact HRr.out.setN HGrr.out.1 8 _)
  have HD2 := hide (show DiskE w2 a cap d from ⟨HDr.out.len, HDr.out.le, HDr.out.none, HDr.out.lies.chg hcz (fun x hx e => HDn.out x hx e)⟩)
  rw [← hw2]
  clear hw2 hcz
  go_wp2_with fail
  refine (HFx gr kr _ _ _ _ HV2.out HR2.out).out.mono ?_
  rintro e9 w3 ⟨⟨g6, c6, rfl, hl6, _⟩, hb3⟩
  have HV3 := hide (HV2.out.below hb3)
  have HI3 := hide (HI2.out.below hb3)
  have HR3 := hide (HR2.out.below hb3)
  have HD3 := hide (HD2.out.below hb3)
  have HC3 := hide (HC2'.out.trans (Chg.of_below hb3))
  have HL3 := hide hl6
  clear hb3 hl6
  obtain ⟨⟨f0, f1, f2, f3, f4, f5, f6, f7⟩, f8, f9, f10, f11⟩ := cells_v1 HV3.out
  go_wp2_with fail
  clear f0 f1 f2 f3 f4 f5 f6 f7 f8 f9 f10 f11
  refine (HGr _).out.mono ?_
  rintro e9 w4 ⟨rfl, hb4⟩
  have HV4 := hide (HV3.out.below hb4)
  have HI4 := hide (HI3.out.below hb4)
  have HR4 := hide (HR3.out.below hb4)
  have HD4 := hide (HD3.out.below hb4)
  have HC4 := hide (HC3.out.trans (Chg.of_below hb4))
  have HL4 := hide (HL3.out.below hb4)
  clear hb4
  obtain ⟨A, hA⟩ : ∃ A, A = w4.heap.size := ⟨_, rfl⟩
  obtain ⟨w5, hw5⟩ : ∃ w5, w5 = (w4.alloc (.cells #[.int .i64 1] 2)).alloc (.cells #[.int .i64 128] 2) := ⟨_, rfl⟩
  have hb5a : Below w4.heap.size w4 (w4.alloc (.cells #[.int .i64 1] 2)) := (Below.refl _ _).alloc (Nat.le_refl _) _
  have hb5 : Below w4.heap.size w4 w5 := by rw [hw5]; exact hb5a.alloc hb5a.size _
  have hbb : Below (w4.alloc (.cells #[.int .i64 1] 2)).heap.size (w4.alloc (.cells #[.int .i64 1] 2)) w5 := by rw [hw5]; exact (Below.refl _ _).alloc (Nat.le_refl _) _
  have HA5 := hide (show Blk w5 A #[.int .i64 1] 2 by rw [hA]; exact (Blk.new w4 _ _).below hbb)
  have HE5 := hide (show Blk w5 (A + 1) #[.int .i64 128] 2 by
    have h := Blk.new (w4.alloc (.cells #[.int .i64 1] 2)) #[.int .i64 128] 2
    rw [← hw5, show (w4.alloc (.cells #[.int .i64 1] 2)).heap.size = A + 1 by rw [hA]; simp] at h
    exact h)
  have HV5 := hide (HV4.out.below hb5)
  have HI5 := hide (HI4.out.below hb5)
  have HR5 := hide (HR4.out.below hb5)
  have HD5 := hide (HD4.out.below hb5)
  have HC5 := hide (HC4.out.trans (Chg.of_below hb5))
  have HL5 := hide (HL4.out.below hb5)
  have HAR := hide (show A ≠ R ∧ A + 1 ≠ R from by have := HV4.out.lt; omega)
  have HW5 := hide hw5
  have HAe := hide hA
  clear hb5a hb5 hbb hw5 hA
  have a1 := HA5.out.cell 0 _ rfl
  have a2 := HE5.out.cell 0 _ rfl
  have HC1' := HC1 w5 g6 c6 A (A + 1) HL5.out (fun k hk => HG1 A (A + 1) k w5 hk a1 a2)
  have HDf' := HDf w5 g6 c6 HL5.out
  clear a1 a2
  go_wp2_with fail
  rw [← HAe.out, ← HW5.out]
  refine HC1'.out.mono ?_
  rintro e9 y5 ⟨rfl, h5⟩
  rw [h5]
  clear h5 HC1'
  go_wp2_with fail
  refine HDf'.out.mono ?_
  rintro e9 w6 ⟨rfl, hb6⟩
  have HA6 := hide (HA5.out.below hb6)
  have HE6 := hide (HE5.out.below hb6)
  have HV6 := hide (HV5.out.below hb6)
  have HI6 := hide (HI5.out.below hb6)
  have HR6 := hide (HR5.out.below hb6)
  have HD6 := hide (HD5.out.below hb6)
  have HC6 := hide (HC5.out.trans (Chg.of_below hb6))
  have HL6 := hide (HL5.out.below hb6)
  clear hb6 HDf'
  obtain ⟨u0, u1, u2, u3, u4, u5⟩ := rows_rB HI6.out
  go_wp2_with fail
  clear u0 u1 u2 u3 u4 u5
  refine (HO1 _ _ _ _ HD6.out HV6.out).out.mono ?_
  rintro e9 w7 ⟨⟨gm, cm, rfl, ho7⟩, hb7⟩
  have hlm := ho7.liesE
  have hlt7 := (World.ownsRow.lt ho7 gm rfl)
  obtain ⟨M, hM⟩ : ∃ M, M = w7.heap.size := ⟨_, rfl⟩
  obtain ⟨w8, hw8⟩ : ∃ w8, w8 = w7.alloc (.cells #[.slice (some ⟨gm, 0, none⟩) 1024 cm] 63) := ⟨_, rfl⟩
  have hb8 : Below w7.heap.size w7 w8 := by rw [hw8]; exact (Below.refl _ _).alloc (Nat.le_refl _) _
  have hb78 := hb7.trans (hb8.mono hb7.size)
  have HA8 := hide (HA6.out.below hb78)
  have HE8 := hide (HE6.out.below hb78)
  have HV8 := hide (HV6.out.below hb78)
  have HI8 := hide (HI6.out.below hb78)
  have HR8 := hide (HR6.out.below hb78)
  have HD8 := hide (HD6.out.below hb78)
  have HC8 := hide (HC6.out.trans (Chg.of_below hb78))
  have HL8 := hide (HL6.out.below hb78)
  have HN8 := hide (hlm.below hb8)
  have HM8 := hide (show Blk w8 M #[.slice (some ⟨gm, 0, none⟩) 1024 cm] 63 by rw [hw8, hM]; exact Blk.new _ _ _)
  have HMR := hide (show M ≠ R ∧ gm ≠ R from by have h1 := HV6.out.lt; have h2 := hb7.size; omega)
  have HW8 := hide hw8
  have HMe := hide hM
  clear hlm hlt7 ho7 hb7 hb8 hb78 hw8 hM
  go_wp2_with fail
  rw [← HMe.out, ← HW8.out]
  refine b_region (S := (fun u => (u.cell? ⟨M, 0, none⟩ = some (.slice (some ⟨gm, 0, none⟩) 1024 cm)) ∧ (u.cell? ⟨A, 0, none⟩ = some (.int .i64 1)) ∧ (u.cell? ⟨A + 1, 0, none⟩ = some (.int .i64 128)) ∧ (u.cell? ⟨R, 4, none⟩ = some (.int .i64 128)))) (F := (fun _ => true)) (by kernel_rfl) ?_
  refine b_take 0 (some 51) (.slice (some ⟨g6, 0, none⟩) 6 c6) rfl rfl (by kernel_rfl) (by kernel_rfl) (by kernel_rfl) (by kernel_rfl) (by kernel_rfl) (fun _ _ _ h => h) (by rfl) ⟨HM8.out.drew.cell 0 _ rfl, HA8.out.drew.cell 0 _ rfl, HE8.out.drew.cell 0 _ rfl, (cells_v1 HV8.out.drew).1.2.2.2.2.1⟩ ?_ ?_
  · intro u hSu
    obtain ⟨sU, tU, vU, xU⟩ := hSu
    go_simp
  try simp only [Act.put, List.setIfInBounds_toArray, List.set_cons_zero, List.set_cons_succ]
  refine b_take 1 (some 52) (.func (.func 78) #[] #[.pointer (some ⟨M, 0, none⟩), .pointer (some ⟨A, 0, none⟩)]) rfl rfl (by kernel_rfl) (by kernel_rfl) (by kernel_rfl) (by kernel_rfl) (by kernel_rfl) (fun _ _ _ h => h) (by rfl) ⟨HM8.out.drew.cell 0 _ rfl, HA8.out.drew.cell 0 _ rfl, HE8.out.drew.cell 0 _ rfl, (cells_v1 HV8.out.drew).1.2.2.2.2.1⟩ ?_ ?_
  · intro u hSu
    obtain ⟨sU, tU, vU, xU⟩ := hSu
    go_simp
  try simp only [Act.put, List.setIfInBounds_toArray, List.set_cons_zero, List.set_cons_succ]
  refine b_ready (rs := [2]) (by kernel_rfl) (by simp) ?_
  refine AllReadyB.cons (i := 2) rfl (fun K hK => ?_) AllReadyB.nil
  go_simp
  refine (HC2 _ g6 c6 M A (HL8.out.below (Below.refl _ _).drew) (fun k hk => HG2 M A k gm cm _ hk (HM8.out.drew.cell 0 _ rfl) (HA8.out.drew.cell 0 _ rfl) (HN8.out.below (Below.refl _ _).drew))).out.mono ?_
  rintro e9 y5 ⟨rfl, h5⟩
  rw [h5]
  clear h5
  go_simp
  refine hK.out _ _ (fun _ => ⟨HM8.out.drew.cell 0 _ rfl, HA8.out.drew.cell 0 _ rfl, HE8.out.drew.cell 0 _ rfl, (cells_v1 HV8.out.drew).1.2.2.2.2.1⟩) ?_
  clear hK K
  try simp only [Act.put, List.setIfInBounds_toArray, List.set_cons_zero, List.set_cons_succ]
  refine b_take 3 (some 54) (.bool false) rfl rfl (by kernel_rfl) (by kernel_rfl) (by kernel_rfl) (by kernel_rfl) (by kernel_rfl) (fun _ _ _ h => h) (by rfl) ⟨HM8.out.drew.cell 0 _ rfl, HA8.out.drew.cell 0 _ rfl, HE8.out.drew.cell 0 _ rfl, (cells_v1 HV8.out.drew).1.2.2.2.2.1⟩ ?_ ?_
  · intro u hSu
    obtain ⟨sU, tU, vU, xU⟩ := hSu
    go_simp
  try simp only [Act.put, List.setIfInBounds_toArray, List.set_cons_zero, List.set_cons_succ]
  refine b_take 4 (some 55) (.slice (some ⟨gm, 0, none⟩) 1024 cm) rfl rfl (by kernel_rfl) (by kernel_rfl) (by kernel_rfl) (by kernel_rfl) (by kernel_rfl) (fun _ _ _ h => h) (by rfl) ⟨HM8.out.drew.cell 0 _ rfl, HA8.out.drew.cell 0 _ rfl, HE8.out.drew.cell 0 _ rfl, (cells_v1 HV8.out.drew).1.2.2.2.2.1⟩ ?_ ?_
  · intro u hSu
    obtain ⟨sU, tU, vU, xU⟩ := hSu
    go_simp
  try simp only [Act.put, List.setIfInBounds_toArray, List.set_cons_zero, List.set_cons_succ]
  refine b_take 5 (some 56) (.int .i64 128) rfl rfl (by kernel_rfl) (by kernel_rfl) (by kernel_rfl) (by kernel_rfl) (by kernel_rfl) (fun _ _ _ h => h) (by rfl) ⟨HM8.out.drew.cell 0 _ rfl, HA8.out.drew.cell 0 _ rfl, HE8.out.drew.cell 0 _ rfl, (cells_v1 HV8.out.drew).1.2.2.2.2.1⟩ ?_ ?_
  · intro u hSu
    obtain ⟨sU, tU, vU, xU⟩ := hSu
    go_simp
  try simp only [Act.put, List.setIfInBounds_toArray, List.set_cons_zero, List.set_cons_succ]
  refine b_take 6 (some 57) (.int .i64 1) rfl rfl (by kernel_rfl) (by kernel_rfl) (by kernel_rfl) (by kernel_rfl) (by kernel_rfl) (fun _ _ _ h => h) (by rfl) ⟨HM8.out.drew.cell 0 _ rfl, HA8.out.drew.cell 0 _ rfl, HE8.out.drew.cell 0 _ rfl, (cells_v1 HV8.out.drew).1.2.2.2.2.1⟩ ?_ ?_
  · intro u hSu
    obtain ⟨sU, tU, vU, xU⟩ := hSu
    go_simp
  try simp only [Act.put, List.setIfInBounds_toArray, List.set_cons_zero, List.set_cons_succ]
  refine b_take 7 (some 58) (.int .i64 127) rfl rfl (by kernel_rfl) (by kernel_rfl) (by kernel_rfl) (by kernel_rfl) (by kernel_rfl) (fun _ _ _ h => h) (by rfl) ⟨HM8.out.drew.cell 0 _ rfl, HA8.out.drew.cell 0 _ rfl, HE8.out.drew.cell 0 _ rfl, (cells_v1 HV8.out.drew).1.2.2.2.2.1⟩ ?_ ?_
  · intro u hSu
    obtain ⟨sU, tU, vU, xU⟩ := hSu
    have qw : IntKind.i64.wrap 127 = 127 := by decide
    go_simp
  try simp only [Act.put, List.setIfInBounds_toArray, List.set_cons_zero, List.set_cons_succ]
  refine b_take 8 (some 59) (.pointer (some ⟨R, 0, none⟩)) rfl rfl (by kernel_rfl) (by kernel_rfl) (by kernel_rfl) (by kernel_rfl) (by kernel_rfl) (fun _ _ _ h => h) (by rfl) ⟨HM8.out.drew.cell 0 _ rfl, HA8.out.drew.cell 0 _ rfl, HE8.out.drew.cell 0 _ rfl, (cells_v1 HV8.out.drew).1.2.2.2.2.1⟩ ?_ ?_
  · intro u hSu
    obtain ⟨sU, tU, vU, xU⟩ := hSu
    go_simp
  try simp only [Act.put, List.setIfInBounds_toArray, List.set_cons_zero, List.set_cons_succ]
  refine b_take 9 (some 60) (.pointer (some ⟨R, 0, none⟩)) rfl rfl (by kernel_rfl) (by kernel_rfl) (by kernel_rfl) (by kernel_rfl) (by kernel_rfl) (fun _ _ _ h => h) (by rfl) ⟨HM8.out.drew.cell 0 _ rfl, HA8.out.drew.cell 0 _ rfl, HE8.out.drew.cell 0 _ rfl, (cells_v1 HV8.out.drew).1.2.2.2.2.1⟩ ?_ ?_
  · intro u hSu
    obtain ⟨sU, tU, vU, xU⟩ := hSu
    go_simp
  try simp only [Act.put, List.setIfInBounds_toArray, List.set_cons_zero, List.set_cons_succ]
  refine b_take 10 (some 61) (.pointer (some ⟨R, 0, none⟩)) rfl rfl (by kernel_rfl) (by kernel_rfl) (by kernel_rfl) (by kernel_rfl) (by kernel_rfl) (fun _ _ _ h => h) (by rfl) ⟨HM8.out.drew.cell 0 _ rfl, HA8.out.drew.cell 0 _ rfl, HE8.out.drew.cell 0 _ rfl, (cells_v1 HV8.out.drew).1.2.2.2.2.1⟩ ?_ ?_
  · intro u hSu
    obtain ⟨sU, tU, vU, xU⟩ := hSu
    go_simp
  try simp only [Act.put, List.setIfInBounds_toArray, List.set_cons_zero, List.set_cons_succ]
  refine b_take 11 (some 62) (.pointer (some ⟨R, 4, none⟩)) rfl rfl (by kernel_rfl) (by kernel_rfl) (by kernel_rfl) (by kernel_rfl) (by kernel_rfl) (fun _ _ _ h => h) (by rfl) ⟨HM8.out.drew.cell 0 _ rfl, HA8.out.drew.cell 0 _ rfl, HE8.out.drew.cell 0 _ rfl, (cells_v1 HV8.out.drew).1.2.2.2.2.1⟩ ?_ ?_
  · intro u hSu
    obtain ⟨sU, tU, vU, xU⟩ := hSu
    go_simp
  try simp only [Act.put, List.setIfInBounds_toArray, List.set_cons_zero, List.set_cons_succ]
  refine b_take 12 (some 63) (.int .i64 128) rfl rfl (by kernel_rfl) (by kernel_rfl) (by kernel_rfl) (by kernel_rfl) (by kernel_rfl) (fun _ _ _ h => h) (by rfl) ⟨HM8.out.drew.cell 0 _ rfl, HA8.out.drew.cell 0 _ rfl, HE8.out.drew.cell 0 _ rfl, (cells_v1 HV8.out.drew).1.2.2.2.2.1⟩ ?_ ?_
  · intro u hSu
    obtain ⟨sU, tU, vU, xU⟩ := hSu
    go_simp
  try simp only [Act.put, List.setIfInBounds_toArray, List.set_cons_zero, List.set_cons_succ]
  refine b_ready (rs := [13]) (by kernel_rfl) (by simp) ?_
  refine AllReadyB.cons (i := 13) rfl (fun K hK => ?_) AllReadyB.nil
  go_simp
  refine (HFu gm cm _ (HN8.out.below (Below.refl _ _).drew)).out.mono ?_
  rintro e9 y5 ⟨rfl, h5⟩
  rw [h5]
  clear h5
  go_simp
  refine hK.out _ _ (fun _ => ⟨HM8.out.drew.cell 0 _ rfl, HA8.out.drew.cell 0 _ rfl, HE8.out.drew.cell 0 _ rfl, (cells_v1 HV8.out.drew).1.2.2.2.2.1⟩) ?_
  clear hK K
  try simp only [Act.put, List.setIfInBounds_toArray, List.set_cons_zero, List.set_cons_succ]
  refine b_take 14 (some 65) (.bool false) rfl rfl (by kernel_rfl) (by kernel_rfl) (by kernel_rfl) (by kernel_rfl) (by kernel_rfl) (fun _ _ _ h => h) (by rfl) ⟨HM8.out.drew.cell 0 _ rfl, HA8.out.drew.cell 0 _ rfl, HE8.out.drew.cell 0 _ rfl, (cells_v1 HV8.out.drew).1.2.2.2.2.1⟩ ?_ ?_
  · intro u hSu
    obtain ⟨sU, tU, vU, xU⟩ := hSu
    go_simp
  try simp only [Act.put, List.setIfInBounds_toArray, List.set_cons_zero, List.set_cons_succ]
  refine b_take 15 (some 66) (.bool false) rfl rfl (by kernel_rfl) (by kernel_rfl) (by kernel_rfl) (by kernel_rfl) (by kernel_rfl) (fun _ _ _ h => h) (by rfl) ⟨HM8.out.drew.cell 0 _ rfl, HA8.out.drew.cell 0 _ rfl, HE8.out.drew.cell 0 _ rfl, (cells_v1 HV8.out.drew).1.2.2.2.2.1⟩ ?_ ?_
  · intro u hSu
    obtain ⟨sU, tU, vU, xU⟩ := hSu
    go_simp
  try simp only [Act.put, List.setIfInBounds_toArray, List.set_cons_zero, List.set_cons_succ]
  refine b_done (by kernel_rfl) ?_ _
  have HM9 := hide (HM8.out.drew)
  have HI9 := hide (HI8.out.drew)
  have HV9 := hide (HV8.out.drew)
  have HR9 := hide (HR8.out.drew)
  have HD9 := hide (HD8.out.below (Below.refl _ _).drew)
  have HC9 := hide (HC8.out.drew)
  have HN9 := hide (HN8.out.drew)
  obtain ⟨u0, u1, u2, u3, u4, u5⟩ := rows_rB HI9.out
  go_wp2_with fail
  clear u0 u1 u2 u3 u4 u5
  refine (HO2 _ _ _ _ HD9.out HV9.out).out.mono ?_
  rintro e9 w10 ⟨⟨gn, cn, rfl, ho7⟩, hb7⟩
  have HM10 := hide (HM9.out.below hb7)
  have HI10 := hide (HI9.out.below hb7)
  have HV10 := hide (HV9.out.below hb7)
  have HR10 := hide (HR9.out.below hb7)
  have HC10 := hide (HC9.out.trans (Chg.of_below hb7))
  have HN10 := hide (HN9.out.below hb7)
  have HX10 := hide ho7.liesE
  have HGn := hide (show gn ≠ R from by have h1 := HV9.out.lt; have h2 := (World.ownsRow.lt ho7 gn rfl).1; omega)
  clear ho7 hb7
  go_wp2_with fail
  refine b_region (S := (fun u => (u.cell? ⟨M, 0, none⟩ = some (.slice (some ⟨gm, 0, none⟩) 1024 cm)) ∧ (u.cell? ⟨R, 4, none⟩ = some (.int .i64 128)) ∧ (u.cell? ⟨R, 5, none⟩ = some (.int .i64 16)) ∧ (u.cell? ⟨G, 3, none⟩ = some (.int .i64 120)) ∧ (u.cell? ⟨G, 4, none⟩ = some (.int .i64 6)))) (F := (fun _ => true)) (by kernel_rfl) ?_
  refine b_take 0 (some 77) (.slice (some ⟨gm, 0, none⟩) 1024 cm) rfl rfl (by kernel_rfl) (by kernel_rfl) (by kernel_rfl) (by kernel_rfl) (by kernel_rfl) (fun _ _ _ h => h) (by rfl) ⟨HM10.out.drew.cell 0 _ rfl, HV10.out.drew.cell 4 _ rfl, HV10.out.drew.cell 5 _ rfl, HI10.out.drew.cell 3 _ rfl, HI10.out.drew.cell 4 _ rfl⟩ ?_ ?_
  · intro u hSu
    obtain ⟨sU, tU, vU, xU, yU⟩ := hSu
    go_simp
  try simp only [Act.put, List.setIfInBounds_toArray, List.set_cons_zero, List.set_cons_succ]
  refine b_take 1 (some 78) (.pointer (some ⟨R, 0, none⟩)) rfl rfl (by kernel_rfl) (by kernel_rfl) (by kernel_rfl) (by kernel_rfl) (by kernel_rfl) (fun _ _ _ h => h) (by rfl) ⟨HM10.out.drew.cell 0 _ rfl, HV10.out.drew.cell 4 _ rfl, HV10.out.drew.cell 5 _ rfl, HI10.out.drew.cell 3 _ rfl, HI10.out.drew.cell 4 _ rfl⟩ ?_ ?_
  · intro u hSu
    obtain ⟨sU, tU, vU, xU, yU⟩ := hSu
    go_simp
  try simp only [Act.put, List.setIfInBounds_toArray, List.set_cons_zero, List.set_cons_succ]
  refine b_take 2 (some 79) (.pointer (some ⟨R, 0, none⟩)) rfl rfl (by kernel_rfl) (by kernel_rfl) (by kernel_rfl) (by kernel_rfl) (by kernel_rfl) (fun _ _ _ h => h) (by rfl) ⟨HM10.out.drew.cell 0 _ rfl, HV10.out.drew.cell 4 _ rfl, HV10.out.drew.cell 5 _ rfl, HI10.out.drew.cell 3 _ rfl, HI10.out.drew.cell 4 _ rfl⟩ ?_ ?_
  · intro u hSu
    obtain ⟨sU, tU, vU, xU, yU⟩ := hSu
    go_simp
  try simp only [Act.put, List.setIfInBounds_toArray, List.set_cons_zero, List.set_cons_succ]
  refine b_take 3 (some 80) (.pointer (some ⟨R, 0, none⟩)) rfl rfl (by kernel_rfl) (by kernel_rfl) (by kernel_rfl) (by kernel_rfl) (by kernel_rfl) (fun _ _ _ h => h) (by rfl) ⟨HM10.out.drew.cell 0 _ rfl, HV10.out.drew.cell 4 _ rfl, HV10.out.drew.cell 5 _ rfl, HI10.out.drew.cell 3 _ rfl, HI10.out.drew.cell 4 _ rfl⟩ ?_ ?_
  · intro u hSu
    obtain ⟨sU, tU, vU, xU, yU⟩ := hSu
    go_simp
  try simp only [Act.put, List.setIfInBounds_toArray, List.set_cons_zero, List.set_cons_succ]
  refine b_take 4 (some 81) (.pointer (some ⟨R, 4, none⟩)) rfl rfl (by kernel_rfl) (by kernel_rfl) (by kernel_rfl) (by kernel_rfl) (by kernel_rfl) (fun _ _ _ h => h) (by rfl) ⟨HM10.out.drew.cell 0 _ rfl, HV10.out.drew.cell 4 _ rfl, HV10.out.drew.cell 5 _ rfl, HI10.out.drew.cell 3 _ rfl, HI10.out.drew.cell 4 _ rfl⟩ ?_ ?_
  · intro u hSu
    obtain ⟨sU, tU, vU, xU, yU⟩ := hSu
    go_simp
  try simp only [Act.put, List.setIfInBounds_toArray, List.set_cons_zero, List.set_cons_succ]
  refine b_take 5 (some 82) (.int .i64 128) rfl rfl (by kernel_rfl) (by kernel_rfl) (by kernel_rfl) (by kernel_rfl) (by kernel_rfl) (fun _ _ _ h => h) (by rfl) ⟨HM10.out.drew.cell 0 _ rfl, HV10.out.drew.cell 4 _ rfl, HV10.out.drew.cell 5 _ rfl, HI10.out.drew.cell 3 _ rfl, HI10.out.drew.cell 4 _ rfl⟩ ?_ ?_
  · intro u hSu
    obtain ⟨sU, tU, vU, xU, yU⟩ := hSu
    go_simp
  try simp only [Act.put, List.setIfInBounds_toArray, List.set_cons_zero, List.set_cons_succ]
  refine b_take 7 (some 84) (.pointer (some ⟨G, 3, none⟩)) rfl rfl (by kernel_rfl) (by kernel_rfl) (by kernel_rfl) (by kernel_rfl) (by kernel_rfl) (fun _ _ _ h => h) (by rfl) ⟨HM10.out.drew.cell 0 _ rfl, HV10.out.drew.cell 4 _ rfl, HV10.out.drew.cell 5 _ rfl, HI10.out.drew.cell 3 _ rfl, HI10.out.drew.cell 4 _ rfl⟩ ?_ ?_
  · intro u hSu
    obtain ⟨sU, tU, vU, xU, yU⟩ := hSu
    go_simp
  try simp only [Act.put, List.setIfInBounds_toArray, List.set_cons_zero, List.set_cons_succ]
  refine b_take 8 (some 85) (.int .i64 120) rfl rfl (by kernel_rfl) (by kernel_rfl) (by kernel_rfl) (by kernel_rfl) (by kernel_rfl) (fun _ _ _ h => h) (by rfl) ⟨HM10.out.drew.cell 0 _ rfl, HV10.out.drew.cell 4 _ rfl, HV10.out.drew.cell 5 _ rfl, HI10.out.drew.cell 3 _ rfl, HI10.out.drew.cell 4 _ rfl⟩ ?_ ?_
  · intro u hSu
    obtain ⟨sU, tU, vU, xU, yU⟩ := hSu
    go_simp
  try simp only [Act.put, List.setIfInBounds_toArray, List.set_cons_zero, List.set_cons_succ]
  refine b_ready (rs := [6]) (by kernel_rfl) (by simp) ?_
  refine AllReadyB.cons (i := 6) rfl (fun K hK => ?_) AllReadyB.nil
  go_simp
  refine (HK1 gm cm _ (HN10.out.below (Below.refl _ _).drew)).out.mono ?_
  rintro e9 y5 ⟨rfl, h5⟩
  rw [h5]
  clear h5
  go_simp
  refine hK.out _ _ (fun _ => ⟨HM10.out.drew.cell 0 _ rfl, HV10.out.drew.cell 4 _ rfl, HV10.out.drew.cell 5 _ rfl, HI10.out.drew.cell 3 _ rfl, HI10.out.drew.cell 4 _ rfl⟩) ?_
  clear hK K
  try simp only [Act.put, List.setIfInBounds_toArray, List.set_cons_zero, List.set_cons_succ]
  refine b_take 9 (some 86) (.bool false) rfl rfl (by kernel_rfl) (by kernel_rfl) (by kernel_rfl) (by kernel_rfl) (by kernel_rfl) (fun _ _ _ h => h) (by rfl) ⟨HM10.out.drew.cell 0 _ rfl, HV10.out.drew.cell 4 _ rfl, HV10.out.drew.cell 5 _ rfl, HI10.out.drew.cell 3 _ rfl, HI10.out.drew.cell 4 _ rfl⟩ ?_ ?_
  · intro u hSu
    obtain ⟨sU, tU, vU, xU, yU⟩ := hSu
    go_simp
  try simp only [Act.put, List.setIfInBounds_toArray, List.set_cons_zero, List.set_cons_succ]
  refine b_take 10 (some 87) (.bool false) rfl rfl (by kernel_rfl) (by kernel_rfl) (by kernel_rfl) (by kernel_rfl) (by kernel_rfl) (fun _ _ _ h => h) (by rfl) ⟨HM10.out.drew.cell 0 _ rfl, HV10.out.drew.cell 4 _ rfl, HV10.out.drew.cell 5 _ rfl, HI10.out.drew.cell 3 _ rfl, HI10.out.drew.cell 4 _ rfl⟩ ?_ ?_
  · intro u hSu
    obtain ⟨sU, tU, vU, xU, yU⟩ := hSu
    go_simp
  try simp only [Act.put, List.setIfInBounds_toArray, List.set_cons_zero, List.set_cons_succ]
  refine b_take 11 (some 88) (.slice (some ⟨gn, 0, none⟩) 1024 cn) rfl rfl (by kernel_rfl) (by kernel_rfl) (by kernel_rfl) (by kernel_rfl) (by kernel_rfl) (fun _ _ _ h => h) (by rfl) ⟨HM10.out.drew.cell 0 _ rfl, HV10.out.drew.cell 4 _ rfl, HV10.out.drew.cell 5 _ rfl, HI10.out.drew.cell 3 _ rfl, HI10.out.drew.cell 4 _ rfl⟩ ?_ ?_
  · intro u hSu
    obtain ⟨sU, tU, vU, xU, yU⟩ := hSu
    go_simp
  try simp only [Act.put, List.setIfInBounds_toArray, List.set_cons_zero, List.set_cons_succ]
  refine b_take 12 (some 89) (.pointer (some ⟨R, 0, none⟩)) rfl rfl (by kernel_rfl) (by kernel_rfl) (by kernel_rfl) (by kernel_rfl) (by kernel_rfl) (fun _ _ _ h => h) (by rfl) ⟨HM10.out.drew.cell 0 _ rfl, HV10.out.drew.cell 4 _ rfl, HV10.out.drew.cell 5 _ rfl, HI10.out.drew.cell 3 _ rfl, HI10.out.drew.cell 4 _ rfl⟩ ?_ ?_
  · intro u hSu
    obtain ⟨sU, tU, vU, xU, yU⟩ := hSu
    go_simp
  try simp only [Act.put, List.setIfInBounds_toArray, List.set_cons_zero, List.set_cons_succ]
  refine b_take 13 (some 90) (.pointer (some ⟨R, 0, none⟩)) rfl rfl (by kernel_rfl) (by kernel_rfl) (by kernel_rfl) (by kernel_rfl) (by kernel_rfl) (fun _ _ _ h => h) (by rfl) ⟨HM10.out.drew.cell 0 _ rfl, HV10.out.drew.cell 4 _ rfl, HV10.out.drew.cell 5 _ rfl, HI10.out.drew.cell 3 _ rfl, HI10.out.drew.cell 4 _ rfl⟩ ?_ ?_
  · intro u hSu
    obtain ⟨sU, tU, vU, xU, yU⟩ := hSu
    go_simp
  try simp only [Act.put, List.setIfInBounds_toArray, List.set_cons_zero, List.set_cons_succ]
  refine b_take 14 (some 91) (.pointer (some ⟨R, 0, none⟩)) rfl rfl (by kernel_rfl) (by kernel_rfl) (by kernel_rfl) (by kernel_rfl) (by kernel_rfl) (fun _ _ _ h => h) (by rfl) ⟨HM10.out.drew.cell 0 _ rfl, HV10.out.drew.cell 4 _ rfl, HV10.out.drew.cell 5 _ rfl, HI10.out.drew.cell 3 _ rfl, HI10.out.drew.cell 4 _ rfl⟩ ?_ ?_
  · intro u hSu
    obtain ⟨sU, tU, vU, xU, yU⟩ := hSu
    go_simp
  try simp only [Act.put, List.setIfInBounds_toArray, List.set_cons_zero, List.set_cons_succ]
  refine b_take 15 (some 92) (.pointer (some ⟨R, 5, none⟩)) rfl rfl (by kernel_rfl) (by kernel_rfl) (by kernel_rfl) (by kernel_rfl) (by kernel_rfl) (fun _ _ _ h => h) (by rfl) ⟨HM10.out.drew.cell 0 _ rfl, HV10.out.drew.cell 4 _ rfl, HV10.out.drew.cell 5 _ rfl, HI10.out.drew.cell 3 _ rfl, HI10.out.drew.cell 4 _ rfl⟩ ?_ ?_
  · intro u hSu
    obtain ⟨sU, tU, vU, xU, yU⟩ := hSu
    go_simp
  try simp only [Act.put, List.setIfInBounds_toArray, List.set_cons_zero, List.set_cons_succ]
  refine b_take 16 (some 93) (.int .i64 16) rfl rfl (by kernel_rfl) (by kernel_rfl) (by kernel_rfl) (by kernel_rfl) (by kernel_rfl) (fun _ _ _ h => h) (by rfl) ⟨HM10.out.drew.cell 0 _ rfl, HV10.out.drew.cell 4 _ rfl, HV10.out.drew.cell 5 _ rfl, HI10.out.drew.cell 3 _ rfl, HI10.out.drew.cell 4 _ rfl⟩ ?_ ?_
  · intro u hSu
    obtain ⟨sU, tU, vU, xU, yU⟩ := hSu
    go_simp
  try simp only [Act.put, List.setIfInBounds_toArray, List.set_cons_zero, List.set_cons_succ]
  refine b_take 18 (some 95) (.pointer (some ⟨G, 4, none⟩)) rfl rfl (by kernel_rfl) (by kernel_rfl) (by kernel_rfl) (by kernel_rfl) (by kernel_rfl) (fun _ _ _ h => h) (by rfl) ⟨HM10.out.drew.cell 0 _ rfl, HV10.out.drew.cell 4 _ rfl, HV10.out.drew.cell 5 _ rfl, HI10.out.drew.cell 3 _ rfl, HI10.out.drew.cell 4 _ rfl⟩ ?_ ?_
  · intro u hSu
    obtain ⟨sU, tU, vU, xU, yU⟩ := hSu
    go_simp
  try simp only [Act.put, List.setIfInBounds_toArray, List.set_cons_zero, List.set_cons_succ]
  refine b_take 19 (some 96) (.int .i64 6) rfl rfl (by kernel_rfl) (by kernel_rfl) (by kernel_rfl) (by kernel_rfl) (by kernel_rfl) (fun _ _ _ h => h) (by rfl) ⟨HM10.out.drew.cell 0 _ rfl, HV10.out.drew.cell 4 _ rfl, HV10.out.drew.cell 5 _ rfl, HI10.out.drew.cell 3 _ rfl, HI10.out.drew.cell 4 _ rfl⟩ ?_ ?_
  · intro u hSu
    obtain ⟨sU, tU, vU, xU, yU⟩ := hSu
    go_simp
  try simp only [Act.put, List.setIfInBounds_toArray, List.set_cons_zero, List.set_cons_succ]
  refine b_ready (rs := [17]) (by kernel_rfl) (by simp) ?_
  refine AllReadyB.cons (i := 17) rfl (fun K hK => ?_) AllReadyB.nil
  go_simp
  refine (HK2 gn cn _ (HX10.out.below (Below.refl _ _).drew)).out.mono ?_
  rintro e9 y5 ⟨rfl, h5⟩
  rw [h5]
  clear h5
  go_simp
  refine hK.out _ _ (fun _ => ⟨HM10.out.drew.cell 0 _ rfl, HV10.out.drew.cell 4 _ rfl, HV10.out.drew.cell 5 _ rfl, HI10.out.drew.cell 3 _ rfl, HI10.out.drew.cell 4 _ rfl⟩) ?_
  clear hK K
  try simp only [Act.put, List.setIfInBounds_toArray, List.set_cons_zero, List.set_cons_succ]
  refine b_take 20 (some 97) (.bool false) rfl rfl (by kernel_rfl) (by kernel_rfl) (by kernel_rfl) (by kernel_rfl) (by kernel_rfl) (fun _ _ _ h => h) (by rfl) ⟨HM10.out.drew.cell 0 _ rfl, HV10.out.drew.cell 4 _ rfl, HV10.out.drew.cell 5 _ rfl, HI10.out.drew.cell 3 _ rfl, HI10.out.drew.cell 4 _ rfl⟩ ?_ ?_
  · intro u hSu
    obtain ⟨sU, tU, vU, xU, yU⟩ := hSu
    go_simp
  try simp only [Act.put, List.setIfInBounds_toArray, List.set_cons_zero, List.set_cons_succ]
  refine b_take 21 (some 98) (.bool false) rfl rfl (by kernel_rfl) (by kernel_rfl) (by kernel_rfl) (by kernel_rfl) (by kernel_rfl) (fun _ _ _ h => h) (by rfl) ⟨HM10.out.drew.cell 0 _ rfl, HV10.out.drew.cell 4 _ rfl, HV10.out.drew.cell 5 _ rfl, HI10.out.drew.cell 3 _ rfl, HI10.out.drew.cell 4 _ rfl⟩ ?_ ?_
  · intro u hSu
    obtain ⟨sU, tU, vU, xU, yU⟩ := hSu
    go_simp
  try simp only [Act.put, List.setIfInBounds_toArray, List.set_cons_zero, List.set_cons_succ]
  refine b_done (by kernel_rfl) ?_ _
  obtain ⟨w11, hw11⟩ : ∃ w11, w11 = w10.drew := ⟨_, rfl⟩
  have HM11 := hide (show Blk w11 M _ _ by rw [hw11]; exact HM10.out.drew)
  have HV11 := hide (show Blk w11 R _ _ by rw [hw11]; exact HV10.out.drew)
  have HR11 := hide (show CellsAt w11 gr _ by rw [hw11]; exact HR10.out.drew)
  have HC11 := hide (show Chg _ w w11 by rw [hw11]; exact HC10.out.drew)
  have HN11 := hide (show Lies w11 _ F1 by rw [hw11]; exact HN10.out.drew)
  have HX11 := hide (show Lies w11 _ F2 by rw [hw11]; exact HX10.out.drew)
  rw [← hw11]
  clear hw11
  go_wp2_with fail
  refine b_region (S := (fun u => u.cell? ⟨R, 9, none⟩ = some (.slice none 0 0) ∧ u.cell? ⟨M, 0, none⟩ = some (.slice (some ⟨gm, 0, none⟩) 1024 cm))) (F := (fun j => decide (j < 9))) (by kernel_rfl) ?_
  refine b_take 0 (some 99) (.pointer (some ⟨R, 0, none⟩)) rfl rfl (by kernel_rfl) (by kernel_rfl) (by kernel_rfl) (by kernel_rfl) (by kernel_rfl) (fun _ _ _ h => h) (by rfl) ⟨(HV11.out.drew.cell 9 _ rfl), (HM11.out.drew.cell 0 _ rfl)⟩ ?_ ?_
  · intro u hSu
    obtain ⟨sU, tU⟩ := hSu
    go_simp
  try simp only [Act.put, List.setIfInBounds_toArray, List.set_cons_zero, List.set_cons_succ]
  refine b_take 1 (some 100) (.pointer (some ⟨R, 0, none⟩)) rfl rfl (by kernel_rfl) (by kernel_rfl) (by kernel_rfl) (by kernel_rfl) (by kernel_rfl) (fun _ _ _ h => h) (by rfl) ⟨(HV11.out.drew.cell 9 _ rfl), (HM11.out.drew.cell 0 _ rfl)⟩ ?_ ?_
  · intro u hSu
    obtain ⟨sU, tU⟩ := hSu
    go_simp
  try simp only [Act.put, List.setIfInBounds_toArray, List.set_cons_zero, List.set_cons_succ]
  refine b_take 2 (some 101) (.pointer (some ⟨R, 0, none⟩)) rfl rfl (by kernel_rfl) (by kernel_rfl) (by kernel_rfl) (by kernel_rfl) (by kernel_rfl) (fun _ _ _ h => h) (by rfl) ⟨(HV11.out.drew.cell 9 _ rfl), (HM11.out.drew.cell 0 _ rfl)⟩ ?_ ?_
  · intro u hSu
    obtain ⟨sU, tU⟩ := hSu
    go_simp
  try simp only [Act.put, List.setIfInBounds_toArray, List.set_cons_zero, List.set_cons_succ]
  refine b_take 3 (some 102) (.pointer (some ⟨R, 9, none⟩)) rfl rfl (by kernel_rfl) (by kernel_rfl) (by kernel_rfl) (by kernel_rfl) (by kernel_rfl) (fun _ _ _ h => h) (by rfl) ⟨(HV11.out.drew.cell 9 _ rfl), (HM11.out.drew.cell 0 _ rfl)⟩ ?_ ?_
  · intro u hSu
    obtain ⟨sU, tU⟩ := hSu
    go_simp
  try simp only [Act.put, List.setIfInBounds_toArray, List.set_cons_zero, List.set_cons_succ]
  refine b_take 4 (some 103) (.slice none 0 0) rfl rfl (by kernel_rfl) (by kernel_rfl) (by kernel_rfl) (by kernel_rfl) (by kernel_rfl) (fun _ _ _ h => h) (by rfl) ⟨(HV11.out.drew.cell 9 _ rfl), (HM11.out.drew.cell 0 _ rfl)⟩ ?_ ?_
  · intro u hSu
    obtain ⟨sU, tU⟩ := hSu
    go_simp
  try simp only [Act.put, List.setIfInBounds_toArray, List.set_cons_zero, List.set_cons_succ]
  refine b_take 5 (some 104) (.slice (some ⟨gm, 0, none⟩) 1024 cm) rfl rfl (by kernel_rfl) (by kernel_rfl) (by kernel_rfl) (by kernel_rfl) (by kernel_rfl) (fun _ _ _ h => h) (by rfl) ⟨(HV11.out.drew.cell 9 _ rfl), (HM11.out.drew.cell 0 _ rfl)⟩ ?_ ?_
  · intro u hSu
    obtain ⟨sU, tU⟩ := hSu
    go_simp
  try simp only [Act.put, List.setIfInBounds_toArray, List.set_cons_zero, List.set_cons_succ]
  refine b_ready (rs := [6]) (by kernel_rfl) (by simp) ?_
  refine AllReadyB.cons (i := 6) rfl (fun K hK => ?_) AllReadyB.nil
  go_simp
  refine hK.out _ _ (fun _ => ⟨(HV11.out.drew.below (show Below w11.drew.heap.size w11.drew (w11.drew.alloc (.cells #[.slice (some ⟨gm, 0, none⟩) 1024 cm] 63)) from (Below.refl _ _).alloc (Nat.le_refl _) _)).cell 9 _ rfl, (HM11.out.drew.below (show Below w11.drew.heap.size w11.drew (w11.drew.alloc (.cells #[.slice (some ⟨gm, 0, none⟩) 1024 cm] 63)) from (Below.refl _ _).alloc (Nat.le_refl _) _)).cell 0 _ rfl⟩) ?_
  clear hK K
  try simp only [Act.put, List.setIfInBounds_toArray, List.set_cons_zero, List.set_cons_succ]
  obtain ⟨z9, hz9⟩ : ∃ z9, z9 = (w11.alloc (.cells #[.slice (some ⟨gm, 0, none⟩) 1024 cm] 63)).drew := ⟨_, rfl⟩
  have hbz9 : Below w11.heap.size w11 z9 := by rw [hz9]; exact ((Below.refl w11.heap.size w11).alloc (Nat.le_refl _) _).drew
  have hcz9 : CellsAt z9 w11.heap.size [.slice (some ⟨gm, 0, none⟩) 1024 cm] := by rw [hz9]; exact (Blk.new w11 #[.slice (some ⟨gm, 0, none⟩) 1024 cm] 63).drew.cellsAt
  rw [← hz9]
  obtain ⟨gb, kb, vb, hrr, hcr, hgr, _, _, hbr⟩ := app_one z9 78 78 63 mi (.slice none 0 0) 1 24 Tryd.underlying78 hmi hmz hms hmb rfl (by decide) w11.heap.size 1 [.slice (some ⟨gm, 0, none⟩) 1024 cm] rfl hcz9 (by simp [Value.oneCell']) (by decide)
  have hbb9 := hbz9.trans (hbr.mono hbz9.size)
  have HVb := hide (HV11.out.below hbb9)
  have HMb := hide (HM11.out.below hbb9)
  have HRb := hide (HR11.out.below hbb9)
  have HCb := hide (HC11.out.trans (Chg.of_below hbb9))
  have HNb := hide (HN11.out.below hbb9)
  have HXb := hide (HX11.out.below hbb9)
  have HYb := hide hcr
  have HGb := hide (show gb ≠ R from by have h1 := hbz9.size; have h4 := HV11.out.lt; omega)
  have sv := HVb.out.cell 9 _ rfl
  have fv := HVb.out.frozen 9
  refine b_val 7 (some 106) (.slice (some ⟨gb, 0, none⟩) 1 kb) vb (by kernel_rfl) rfl rfl rfl (exec_appendZ (s := .tmp 103) (x := .tmp 105) (t := 78) (v := .slice none 0 0) (q := .slice (some ⟨w11.heap.size, 0, none⟩) 1 1) rfl (by rfl) (by rfl) hrr) (fun _ => ⟨(HVb.out.cell 9 _ rfl), (HMb.out.cell 0 _ rfl)⟩) ?_
  try simp only [Act.put, List.setIfInBounds_toArray, List.set_cons_zero, List.set_cons_succ]
  clear hz9 hbz9 hcz9 hrr hcr hgr hbr hbb9
  refine b_take 8 (some 107) (.pointer (some ⟨R, 0, none⟩)) rfl rfl (by kernel_rfl) (by kernel_rfl) (by kernel_rfl) (by kernel_rfl) (by kernel_rfl) (fun _ _ _ h => h) (by rfl) ⟨(HVb.out.cell 9 _ rfl), (HMb.out.cell 0 _ rfl)⟩ ?_ ?_
  · intro u hSu
    obtain ⟨sU, tU⟩ := hSu
    go_simp
  try simp only [Act.put, List.setIfInBounds_toArray, List.set_cons_zero, List.set_cons_succ]
  refine b_take 9 (some 108) (.pointer (some ⟨R, 9, none⟩)) rfl rfl (by kernel_rfl) (by kernel_rfl) (by kernel_rfl) (by kernel_rfl) (by kernel_rfl) (fun _ _ _ h => h) (by rfl) ⟨(HVb.out.cell 9 _ rfl), (HMb.out.cell 0 _ rfl)⟩ ?_ ?_
  · intro u hSu
    obtain ⟨sU, tU⟩ := hSu
    go_simp
  try simp only [Act.put, List.setIfInBounds_toArray, List.set_cons_zero, List.set_cons_succ]
  refine b_ready (rs := [10]) (by kernel_rfl) (by simp) ?_
  refine AllReadyB.cons (i := 10) rfl (fun K hK => ?_) AllReadyB.nil
  go_simp
  refine hK.out _ _ (fun e => absurd e (by decide)) ?_
  clear hK K
  try simp only [Act.put, List.setIfInBounds_toArray, List.set_cons_zero, List.set_cons_succ]
  clear sv fv
  refine b_done (by kernel_rfl) ?_ _
  obtain ⟨w12, hw12⟩ : ∃ w12, w12 = vb.setCell ⟨R, 9, none⟩ (.slice (some ⟨gb, 0, none⟩) 1 kb) := ⟨_, rfl⟩
  have HV12 := hide (show Blk w12 R (volX s1 (.slice (some ⟨gr, 0, none⟩) 1 kr) (.slice (some ⟨gb, 0, none⟩) 1 kb) (.slice none 0 0) (.iface 76 (.slice a m cap))) 82 by rw [hw12]; exact HVb.out.set 9 _)
  have HC12 := hide (show Chg (fun k => R = k ∨ w.heap.size ≤ k) w w12 by rw [hw12]; exact HCb.out.setZ R 9 _ (Or.inl rfl))
  have HR12 := hide (show CellsAt w12 gr #[.int .i64 3, .int .i64 4, .int .i64 5, .int .i64 120, .int .i64 6, .int .i64 1].toList by rw [hw12]; exact HRb.out.setN HGrr.out.1 9 _)
  have HN12 := hide (show Lies w12 (some ⟨gm, 0, none⟩) F1 by rw [hw12]; exact HNb.out.setN HMR.out.2 9 _)
  have HX12 := hide (show Lies w12 (some ⟨gn, 0, none⟩) F2 by rw [hw12]; exact HXb.out.setN HGn.out 9 _)
  have HY12 := hide (show CellsAt w12 gb [.slice (some ⟨gm, 0, none⟩) 1024 cm] by rw [hw12]; exact HYb.out.setN HGb.out 9 _)
  rw [← hw12]
  clear hw12
  obtain ⟨z9, hz9⟩ : ∃ z9, z9 = w12.alloc (.cells #[.slice (some ⟨gn, 0, none⟩) 1024 cn] 63) := ⟨_, rfl⟩
  have hbz9 : Below w12.heap.size w12 z9 := by rw [hz9]; exact (Below.refl w12.heap.size w12).alloc (Nat.le_refl _) _
  have hcz9 : CellsAt z9 w12.heap.size [.slice (some ⟨gn, 0, none⟩) 1024 cn] := by rw [hz9]; exact (Blk.new w12 #[.slice (some ⟨gn, 0, none⟩) 1024 cn] 63).cellsAt
  obtain ⟨go, ko, vo, hrr, hcr, hgr, _, _, hbr⟩ := app_one z9 78 78 63 mi (.slice none 0 0) 1 24 Tryd.underlying78 hmi hmz hms hmb rfl (by decide) w12.heap.size 1 [.slice (some ⟨gn, 0, none⟩) 1024 cn] rfl hcz9 (by simp [Value.oneCell']) (by decide)
  have hbb9 := hbz9.trans (hbr.mono hbz9.size)
  have HVo := hide (HV12.out.below hbb9)
  have HCo := hide (HC12.out.trans (Chg.of_below hbb9))
  have HRo := hide (HR12.out.below hbb9)
  have HNo := hide (HN12.out.below hbb9)
  have HXo := hide (HX12.out.below hbb9)
  have HYo := hide (HY12.out.below hbb9)
  have HZo := hide hcr
  have HGo := hide (show go ≠ R from by have h1 := hbz9.size; have h4 := HV12.out.lt; omega)
  have c10 := HV12.out.cell 10 _ rfl
  have d10 : (w12.alloc (.cells #[.slice (some ⟨gn, 0, none⟩) 1024 cn] 63)).cell? ⟨R, 10, none⟩ = some (.slice none 0 0) := by rw [← hz9]; exact (HV12.out.below hbz9).cell 10 _ rfl
  have s10 := HVo.out.cell 10 _ rfl
  have j10 := HVo.out.frozen 10
  rw [hz9] at hrr
  clear hz9 hbz9 hcz9 hcr hgr hbr hbb9
  go_wp2_with (refine wpList_appE (by rfl) (.tmp 113) (.tmp 115) 78 (by rfl) (.slice none 0 0) (.slice (some ⟨w12.heap.size, 0, none⟩) 1 1) (.slice (some ⟨go, 0, none⟩) 1 ko) vo (by rfl) (by rfl) hrr ?_)
  obtain ⟨x1, hx1⟩ : ∃ x1, x1 = vo.setCell ⟨R, 10, none⟩ (.slice (some ⟨go, 0, none⟩) 1 ko) := ⟨_, rfl⟩
  have HVx := hide (show Blk x1 R (volX s1 (.slice (some ⟨gr, 0, none⟩) 1 kr) (.slice (some ⟨gb, 0, none⟩) 1 kb) (.slice (some ⟨go, 0, none⟩) 1 ko) (.iface 76 (.slice a m cap))) 82 by rw [hx1]; exact HVo.out.set 10 _)
  have HCx := hide (show Chg (fun k => R = k ∨ w.heap.size ≤ k) w x1 by rw [hx1]; exact HCo.out.setZ R 10 _ (Or.inl rfl))
  have HRx := hide (show CellsAt x1 gr #[.int .i64 3, .int .i64 4, .int .i64 5, .int .i64 120, .int .i64 6, .int .i64 1].toList by rw [hx1]; exact HRo.out.setN HGrr.out.1 10 _)
  have HNx := hide (show Lies x1 (some ⟨gm, 0, none⟩) F1 by rw [hx1]; exact HNo.out.setN HMR.out.2 10 _)
  have HXx := hide (show Lies x1 (some ⟨gn, 0, none⟩) F2 by rw [hx1]; exact HXo.out.setN HGn.out 10 _)
  have HYx := hide (show CellsAt x1 gb [.slice (some ⟨gm, 0, none⟩) 1024 cm] by rw [hx1]; exact HYo.out.setN HGb.out 10 _)
  have HZx := hide (show CellsAt x1 go [.slice (some ⟨gn, 0, none⟩) 1024 cn] by rw [hx1]; exact HZo.out.setN HGo.out 10 _)
  rw [← hx1]
  go_ret
  exact ⟨rfl, ⟨gr, kr, gb, kb, go, ko, gm, cm, gn, cn, HVx.out, HRx.out, HYx.out, HNx.out, HZx.out, HXx.out⟩, HCx.out⟩
end Go.Proofs.YtjmajjfknmjifaaDoor.Oct
