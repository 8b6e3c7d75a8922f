/- The entries that a header leads to. -/
import Derived.Test.YtpbnjobjjnhplaaDoorPGptGqc
import Derived.Test.YtpbnjobjjnhplaaDoorPTakEzc
namespace Go.Proofs.YtpbnjobjjnhplaaDoor.Oct
open Go.RowKit

theorem OwnG.low {w : World} {B B' : Nat} {v : Value} {L : List E4} (h : OwnG w B v L) (hb : B' ≤ B) : OwnG w B' v L := by
  refine ⟨h.1, ?_⟩
  rcases h.2 with h1 | ⟨g, cap, cur, h1, hg, hr⟩
  · exact Or.inl h1
  · exact Or.inr ⟨g, cap, cur, h1, Nat.le_trans hb hg, hr⟩

/-- The cells that are read. -/
structure HdC (u : World) (R : Nat) (h : Hd) : Prop where
  c18 : u.cell? ⟨R, 18, none⟩ = some (.int .i64 h.cnt)
  c19 : u.cell? ⟨R, 19, none⟩ = some (.int .u32 h.sum)
  c20 : u.cell? ⟨R, 20, none⟩ = some (.int .i64 h.own)
  c21 : u.cell? ⟨R, 21, none⟩ = some (.int .i64 h.oth)
  c22 : u.cell? ⟨R, 22, none⟩ = some (.int .i64 h.at_)

theorem hd_cells {u : World} {R : Nat} {h : Hd} (hid : h.id.length = 16) (hk : Blk u R h.cells.toArray 105) : HdC u R h := by
  refine ⟨hk.cell 18 _ ?_, hk.cell 19 _ ?_, hk.cell 20 _ ?_, hk.cell 21 _ ?_, hk.cell 22 _ ?_⟩
  all_goals
    rw [List.getElem?_toArray]
    unfold Hd.cells
    rw [List.getElem?_append_right (by simp), List.getElem?_append_right (by simp [hid])]
    simp [hid]

set_option maxHeartbeats 8000000 in
set_option maxRecDepth 100000 in
theorem slist_any (b off cap : Nat) (d : List Int) (h : Hd) (w : World) (hg : h.good) (hm : d.length % 512 = 0) (hd : d.length ≤ 1000000000) (hcap : d.length ≤ cap) (hb : Byts d) (hl : Lies w (some ⟨b, off, none⟩) d) :
    Calls Tryd.prog 55 #[srcV b off d.length cap ((d.length / 512 : Nat) : Int), .agg h.cells.toArray] w fun e w' => (∃ v, e = .returned (.tuple #[v, .int .i64 (lstG d h)]) ∧ (lstG d h = 0 → OwnG w' w.heap.size v (entsOf (bytD d h) h.cnt.toNat))) ∧ Below w.heap.size w w' := by
  unfold srcV
  obtain ⟨cn, hcn⟩ : ∃ cn : Nat, h.cnt = (cn : Int) := ⟨h.cnt.toNat, by have := hg.cnt; omega⟩
  obtain ⟨aq, haq⟩ : ∃ aq : Nat, h.at_ = (aq : Int) := ⟨h.at_.toNat, by have := hg.at_; omega⟩
  have hc128 := hg.cnt
  have hat := hg.at_
  have hsum := hg.sum
  have hrw : rowsG cn = (((128 * cn + 511) / 512 : Nat) : Int) := by unfold rowsG; omega
  obtain ⟨s, hs⟩ : ∃ s : Int, s = ((d.length / 512 : Nat) : Int) := ⟨_, rfl⟩
  rw [← hs]
  obtain ⟨C, hC⟩ : ∃ C, C = h.cells.toArray := ⟨_, rfl⟩
  have HHc := fun u R (hk : Blk u R C 105) => hide (hd_cells (u := u) (R := R) hg.id (by rw [← hC]; exact hk))
  rw [← hC]
  have HRo := fun u => hide (rowsOf_any cn u (by omega))
  obtain ⟨r, hr⟩ : ∃ r, r = rowsG cn := ⟨_, rfl⟩
  rw [← hr] at HRo hrw
  obtain ⟨l, hl'⟩ : ∃ l, l = bytD d h := ⟨_, rfl⟩
  have HLg := hide (show lstG d h = if h.at_ * 512 + h.cnt * 128 ≤ d.length then (if h.sum = moreC 0 l then 0 else 12) else 4 by rw [hl']; rfl)
  have HCn := hide (show 1 ≤ cn by omega)
  have HEn := hide (show h.cnt.toNat = cn by omega)
  have HLl := fun (h1 : h.at_ * 512 + h.cnt * 128 ≤ d.length) => hide (show l.length = 128 * cn by rw [hl', bytD_len hg h1]; omega)
  have HLb := hide (show Byts l by rw [hl']; exact bytD_byts h hb)
  have HR := fun (h1 : h.at_ * 512 + h.cnt * 128 ≤ d.length) (u : World) (hu : Lies u (some ⟨b, off, none⟩) d) => hide (show Calls Tryd.prog 68 #[srcV b off d.length cap s, .int .i64 h.at_, .int .i64 ((128 * cn : Nat) : Int)] u fun e w' => (∃ v, e = .returned (.tuple #[v, .int .i64 0]) ∧ Own w' u.heap.size v l) ∧ Below u.heap.size u w' by
    have hh := sread_ok b off cap d s h.at_ (512 * h.at_.toNat) (128 * cn) u (by omega) hd hcap hu (by omega) (by omega)
    rw [hl']
    unfold bytD
    rw [show h.cnt.toNat = cn by omega]
    exact hh)
  rw [← hl', HEn.out]
  have q1 : (s - r < h.at_) ↔ ¬ (h.at_ * 512 + h.cnt * 128 ≤ d.length) := by omega
  have e1 : IntKind.i64.wrap (s - r) = s - r := by rw [IntKind.wrap_i64]; omega
  have e2 : IntKind.i64.wrap ((cn : Int) * 128) = ((128 * cn : Nat) : Int) := by rw [IntKind.wrap_i64]; omega
  obtain ⟨k, hk⟩ : ∃ k : Nat, k = 128 * cn := ⟨_, rfl⟩
  rw [← hk] at HLl HR e2
  have HKn := hide hk
  have HDl := fun (u : World) (g c : Nat) (h1 : k ≤ c) (h2 : c ≤ maxLen) (hln : l.length = k) (hu : Lies u (some ⟨g, 0, none⟩) l) => hide (decodeList_any g 0 c cn l u (by rw [hln, hk]) (by omega) (by omega) h2 HLb.out hu)
  rw [← hk] at HDl
  obtain ⟨S, hS⟩ : ∃ S : Int, S = h.sum := ⟨_, rfl⟩
  rw [← hS] at HLg
  have HHc2 : ∀ u R, Blk u R C 105 → Hid (u.cell? ⟨R, 18, none⟩ = some (.int .i64 (cn : Int)) ∧ u.cell? ⟨R, 19, none⟩ = some (.int .u32 S) ∧ u.cell? ⟨R, 22, none⟩ = some (.int .i64 h.at_)) := fun u R hk => by
    have := (HHc u R hk).out
    exact ⟨by rw [← hcn]; exact this.c18, by rw [hS]; exact this.c19, this.c22⟩
  obtain ⟨at', hat'⟩ : ∃ a : Int, a = h.at_ := ⟨_, rfl⟩
  rw [← hat'] at HLg HLl HR q1 HHc2
  obtain ⟨ct, hct⟩ : ∃ c : Int, c = h.cnt := ⟨_, rfl⟩
  rw [← hct] at HLg HLl HR q1
  have HQ := hide q1
  obtain ⟨er, her⟩ : ∃ er, er = lstG d h := ⟨_, rfl⟩
  rw [← her] at HLg ⊢
  obtain ⟨n, hn⟩ : ∃ n, n = d.length := ⟨_, rfl⟩
  rw [← hn] at HR HLg HLl HQ ⊢
  have hsz1 : (w.alloc (.cells #[.iface 41 (.slice (some ⟨b, off, none⟩) n cap), .int .i64 s] 83)).heap.size = w.heap.size + 1 := by simp
  obtain ⟨R, hR⟩ : ∃ R, R = w.heap.size + 1 := ⟨_, rfl⟩
  obtain ⟨w2, hw2⟩ : ∃ w2, w2 = (w.alloc (.cells #[.iface 41 (.slice (some ⟨b, off, none⟩) n cap), .int .i64 s] 83)).alloc (.cells C 105) := ⟨_, rfl⟩
  have hb1 : Below w.heap.size w (w.alloc (.cells #[.iface 41 (.slice (some ⟨b, off, none⟩) n cap), .int .i64 s] 83)) := (Below.refl _ _).alloc (Nat.le_refl _) _
  have hb2 : Below w.heap.size w w2 := by rw [hw2]; exact hb1.alloc hb1.size _
  have hk2 : Blk w2 R C 105 := by rw [hw2, hR, ← hsz1]; exact Blk.new _ _ _
  have hx := Blk.new w #[.iface 41 (.slice (some ⟨b, off, none⟩) n cap), .int .i64 s] 83
  have hb12 : Below (w.alloc (.cells #[.iface 41 (.slice (some ⟨b, off, none⟩) n cap), .int .i64 s] 83)).heap.size (w.alloc (.cells #[.iface 41 (.slice (some ⟨b, off, none⟩) n cap), .int .i64 s] 83)) w2 := by rw [hw2]; exact (Below.refl _ _).alloc (Nat.le_refl _) _
  have hx2 : Blk w2 w.heap.size #[.iface 41 (.slice (some ⟨b, off, none⟩) n cap), .int .i64 s] 83 := hx.below hb12
  obtain ⟨Z, hZ⟩ : ∃ Z, Z = w.heap.size := ⟨_, rfl⟩
  have HRe := hide hR
  have HZe := hide hZ
  have HW2 := hide hw2
  have HB2 := hide hb2
  have HK2 := hide hk2
  have HX2 := hide (show Blk w2 Z #[.iface 41 (.slice (some ⟨b, off, none⟩) n cap), .int .i64 s] 83 by rw [hZ]; exact hx2)
  have HL2 := hide (hl.below hb2)
  have HAt := hide hat'
  have HCt := hide hct
  clear q1 hg hm hd hcap hb hl hcn haq hc128 hat hsum hrw hs hC hr hl' hk hS hat' hct her hn hsz1 hR hw2 hb1 hb2 hk2 hx hb12 hx2 hZ HHc
  go_enter Tryd.func55, Tryd.ntmps55
  go_upto_region 1 with fail
  rw [← HRe.out, ← HW2.out, ← HZe.out]

  have HSw : (show World → Prop from fun u => Blk u Z #[.iface 41 (.slice (some ⟨b, off, none⟩) n cap), .int .i64 s] 83 ∧ Blk u R C 105) w2.drew := ⟨HX2.out.drew, HK2.out.drew⟩
  obtain ⟨B, hB⟩ : ∃ B, B = decide (s - r < at') := ⟨_, rfl⟩

  refine b_region (S := fun u => Blk u Z #[.iface 41 (.slice (some ⟨b, off, none⟩) n cap), .int .i64 s] 83 ∧ Blk u R C 105) (F := (fun _ => true)) (by kernel_rfl) ?_
  refine b_take 0 (some 8) (.pointer (some ⟨R, 22, none⟩)) rfl rfl (by kernel_rfl) (by kernel_rfl) (by kernel_rfl) (by kernel_rfl) (by kernel_rfl) (fun _ _ _ h => h) (by rfl) HSw ?_ ?_
  · intro u hSu
    have hSu := hSu
    obtain ⟨p18, p19, p22⟩ := (HHc2 _ _ hSu.2).out
    go_simp
  try simp only [Act.put, List.setIfInBounds_toArray, List.set_cons_zero, List.set_cons_succ]
  refine b_take 1 (some 9) (.int .i64 at') rfl rfl (by kernel_rfl) (by kernel_rfl) (by kernel_rfl) (by kernel_rfl) (by kernel_rfl) (fun _ _ _ h => h) (by rfl) HSw ?_ ?_
  · intro u hSu
    have hSu := hSu
    obtain ⟨p18, p19, p22⟩ := (HHc2 _ _ hSu.2).out
    go_simp
  try simp only [Act.put, List.setIfInBounds_toArray, List.set_cons_zero, List.set_cons_succ]
  refine b_take 2 (some 10) (.pointer (some ⟨Z, 1, none⟩)) rfl rfl (by kernel_rfl) (by kernel_rfl) (by kernel_rfl) (by kernel_rfl) (by kernel_rfl) (fun _ _ _ h => h) (by rfl) HSw ?_ ?_
  · intro u hSu
    have hSu := hSu
    have y1 := hSu.1.cell 1 _ rfl
    go_simp
  try simp only [Act.put, List.setIfInBounds_toArray, List.set_cons_zero, List.set_cons_succ]
  refine b_take 3 (some 11) (.int .i64 s) rfl rfl (by kernel_rfl) (by kernel_rfl) (by kernel_rfl) (by kernel_rfl) (by kernel_rfl) (fun _ _ _ h => h) (by rfl) HSw ?_ ?_
  · intro u hSu
    have hSu := hSu
    have y1 := hSu.1.cell 1 _ rfl
    go_simp
  try simp only [Act.put, List.setIfInBounds_toArray, List.set_cons_zero, List.set_cons_succ]
  refine b_take 4 (some 12) (.pointer (some ⟨R, 0, none⟩)) rfl rfl (by kernel_rfl) (by kernel_rfl) (by kernel_rfl) (by kernel_rfl) (by kernel_rfl) (fun _ _ _ h => h) (by rfl) HSw ?_ ?_
  · intro u hSu
    have hSu := hSu
    obtain ⟨p18, p19, p22⟩ := (HHc2 _ _ hSu.2).out
    go_simp
  try simp only [Act.put, List.setIfInBounds_toArray, List.set_cons_zero, List.set_cons_succ]
  refine b_take 5 (some 13) (.pointer (some ⟨R, 18, none⟩)) rfl rfl (by kernel_rfl) (by kernel_rfl) (by kernel_rfl) (by kernel_rfl) (by kernel_rfl) (fun _ _ _ h => h) (by rfl) HSw ?_ ?_
  · intro u hSu
    have hSu := hSu
    obtain ⟨p18, p19, p22⟩ := (HHc2 _ _ hSu.2).out
    go_simp
  try simp only [Act.put, List.setIfInBounds_toArray, List.set_cons_zero, List.set_cons_succ]
  refine b_take 6 (some 14) (.int .i64 (cn : Int)) rfl rfl (by kernel_rfl) (by kernel_rfl) (by kernel_rfl) (by kernel_rfl) (by kernel_rfl) (fun _ _ _ h => h) (by rfl) HSw ?_ ?_
  · intro u hSu
    have hSu := hSu
    obtain ⟨p18, p19, p22⟩ := (HHc2 _ _ hSu.2).out
    go_simp
  try simp only [Act.put, List.setIfInBounds_toArray, List.set_cons_zero, List.set_cons_succ]
  refine b_ready (rs := [7]) (by kernel_rfl) (by simp) ?_
  refine AllReadyB.cons (i := 7) rfl (fun K hK => ?_) AllReadyB.nil
  go_simp
  refine (HRo _).out.mono ?_
  rintro e9 w3 ⟨rfl, h3⟩
  rw [h3]
  clear h3 w3
  go_simp
  refine hK.out _ _ (fun _ => HSw) ?_
  clear hK K
  try simp only [Act.put, List.setIfInBounds_toArray, List.set_cons_zero, List.set_cons_succ]
  refine b_take 8 (some 16) (.int .i64 (s - r)) rfl rfl (by kernel_rfl) (by kernel_rfl) (by kernel_rfl) (by kernel_rfl) (by kernel_rfl) (fun _ _ _ h => h) (by rfl) HSw ?_ ?_
  · intro u hSu
    have hSu := hSu
    have e1 := e1
    go_simp
  try simp only [Act.put, List.setIfInBounds_toArray, List.set_cons_zero, List.set_cons_succ]
  refine b_take 9 (some 17) (.bool B) rfl rfl (by kernel_rfl) (by kernel_rfl) (by kernel_rfl) (by kernel_rfl) (by kernel_rfl) (fun _ _ _ h => h) (by rfl) HSw ?_ ?_
  · intro u hSu
    have hSu := hSu
    rw [hB]
    go_simp
  try simp only [Act.put, List.setIfInBounds_toArray, List.set_cons_zero, List.set_cons_succ]
  refine b_done (by kernel_rfl) ?_ _

  have HBB := hide hB
  clear hB HSw
  by_cases hin : at' * 512 + ct * 128 ≤ (n : Int)
  case neg =>
    have HBt := hide (show B = true by rw [HBB.out]; exact decide_eq_true (HQ.out.2 hin))
    have hd := hide (show er = 4 by rw [HLg.out, if_neg hin])
    clear hin
    rw [HBt.out]
    go_wp2_with fail
    go_ret2
    exact ⟨⟨.slice none 0 0, by rw [hd.out]; rfl, fun h => by rw [hd.out] at h; cases h⟩, HB2.out.drew⟩
  have HBt := hide (show B = false by rw [HBB.out]; exact decide_eq_false (fun hh => HQ.out.1 hh hin))
  have HLg2 := hide (show er = if S = (moreC 0 l : Int) then 0 else 12 by rw [HLg.out, if_pos hin])
  have HRd := HR hin _ (HL2.out.below (Below.refl _ _).drew)
  have HLn := HLl hin
  clear hin HLg HR HLl
  rw [HBt.out]
  have hX := HX2.out.drew
  have y0 := hX.cell 0 _ rfl
  have y1 := hX.cell 1 _ rfl
  obtain ⟨p18, p19, p22⟩ := (HHc2 _ _ HK2.out.drew).out
  clear hX
  have HNe := hide (show l ≠ [] by intro h; have h1 := HLn.out; rw [h] at h1; have h2 := HKn.out; have h3 := HCn.out; simp only [List.length_nil] at h1; omega)
  unfold srcV at HRd
  go_upto_region 4 with (go_at_call 68; refine HRd.out.mono ?_; rintro e9 w3 ⟨⟨v3, rfl, ho⟩, h3⟩; obtain ⟨g3, c3, rfl, hl3, hc3, hm3⟩ := own_at ho HNe.out; rw [HLn.out] at hc3 ⊢; have HL3 := hide hl3; have HC3 := hide (And.intro hc3 hm3); have HB3 := hide ((HB2.out.drew).trans (h3.mono HB2.out.drew.size)); have HK3 := hide ((HK2.out.drew).below h3); clear ho h3 hl3 hc3 hm3)

  clear y0 y1 p18 p19 p22
  go_upto_region 6 with fail
  have hb4 : Below w3.heap.size w3 (w3.drew.alloc (.cells #[.slice (some ⟨g3, 0, none⟩) k c3] 31)) := (Below.refl _ _).drew.alloc (Nat.le_refl _) _
  have HS3 : (show World → Prop from fun u => Blk u R C 105 ∧ Below w3.heap.size w3 u) w3.drew := ⟨HK3.out.drew, (Below.refl _ _).drew⟩
  have HS4 : (show World → Prop from fun u => Blk u R C 105 ∧ Below w3.heap.size w3 u) (w3.drew.alloc (.cells #[.slice (some ⟨g3, 0, none⟩) k c3] 31)) := ⟨HK3.out.below hb4, hb4⟩
  have HSum := hide (Sum_one' (some ⟨g3, 0, none⟩) k c3 l w3.drew w3.heap.size rfl HLn.out.symm (by rw [HLn.out]; exact Nat.le_trans HC3.out.1 HC3.out.2) HLb.out ⟨by rw [HLn.out]; exact HC3.out.1, HC3.out.2, (fun e => by cases e), HL3.out.below (Below.refl _ _).drew⟩)
  obtain ⟨m, hm⟩ : ∃ m : Int, m = moreC 0 l := ⟨_, rfl⟩
  rw [← hm] at HLg2 HSum
  clear hb4 hm
  by_cases hsm : S = m
  case neg =>
    have HNq := hide (show (m != S) = true by simpa using fun e => hsm e.symm)
    have hd := hide (show er = 12 by rw [HLg2.out, if_neg hsm])
    clear hsm
    refine b_region (S := fun u => Blk u R C 105 ∧ Below w3.heap.size w3 u) (F := (fun _ => true)) (by kernel_rfl) ?_
    refine b_take 3 (some 35) (.pointer (some ⟨R, 0, none⟩)) rfl rfl (by kernel_rfl) (by kernel_rfl) (by kernel_rfl) (by kernel_rfl) (by kernel_rfl) (fun _ _ _ h => h) (by rfl) HS3 ?_ ?_
    · intro u hSu
      have hSu := hSu
      obtain ⟨p18, p19, p22⟩ := (HHc2 _ _ hSu.1).out
      go_simp
    try simp only [Act.put, List.setIfInBounds_toArray, List.set_cons_zero, List.set_cons_succ]
    refine b_take 4 (some 36) (.pointer (some ⟨R, 19, none⟩)) rfl rfl (by kernel_rfl) (by kernel_rfl) (by kernel_rfl) (by kernel_rfl) (by kernel_rfl) (fun _ _ _ h => h) (by rfl) HS3 ?_ ?_
    · intro u hSu
      have hSu := hSu
      obtain ⟨p18, p19, p22⟩ := (HHc2 _ _ hSu.1).out
      go_simp
    try simp only [Act.put, List.setIfInBounds_toArray, List.set_cons_zero, List.set_cons_succ]
    refine b_take 5 (some 37) (.int .u32 S) rfl rfl (by kernel_rfl) (by kernel_rfl) (by kernel_rfl) (by kernel_rfl) (by kernel_rfl) (fun _ _ _ h => h) (by rfl) HS3 ?_ ?_
    · intro u hSu
      have hSu := hSu
      obtain ⟨p18, p19, p22⟩ := (HHc2 _ _ hSu.1).out
      go_simp
    try simp only [Act.put, List.setIfInBounds_toArray, List.set_cons_zero, List.set_cons_succ]
    refine b_take 0 (some 32) (.slice (some ⟨g3, 0, none⟩) k c3) rfl rfl (by kernel_rfl) (by kernel_rfl) (by kernel_rfl) (by kernel_rfl) (by kernel_rfl) (fun _ _ _ h => h) (by rfl) HS3 ?_ ?_
    · intro u hSu
      have hSu := hSu
      go_simp
    try simp only [Act.put, List.setIfInBounds_toArray, List.set_cons_zero, List.set_cons_succ]
    refine b_ready (rs := [1]) (by kernel_rfl) (by simp) ?_
    refine AllReadyB.cons (i := 1) rfl (fun K hK => ?_) AllReadyB.nil
    go_simp
    refine hK.out _ _ (fun _ => HS4) ?_
    clear hK K
    try simp only [Act.put, List.setIfInBounds_toArray, List.set_cons_zero, List.set_cons_succ]
    refine b_ready (rs := [2]) (by kernel_rfl) (by simp) ?_
    refine AllReadyB.cons (i := 2) rfl (fun K hK => ?_) AllReadyB.nil
    go_simp
    refine HSum.out.mono ?_
    rintro e9 w5 ⟨rfl, h5⟩
    have hb5 : Below w3.heap.size w3 w5 := (Below.refl _ _).drew.trans h5
    have HS5 : (show World → Prop from fun u => Blk u R C 105 ∧ Below w3.heap.size w3 u) w5 := ⟨HK3.out.below hb5, hb5⟩
    clear h5 hb5
    go_simp
    refine hK.out _ _ (fun _ => HS5) ?_
    clear hK K
    try simp only [Act.put, List.setIfInBounds_toArray, List.set_cons_zero, List.set_cons_succ]
    refine b_take 6 (some 38) (.bool true) rfl rfl (by kernel_rfl) (by kernel_rfl) (by kernel_rfl) (by kernel_rfl) (by kernel_rfl) (fun _ _ _ h => h) (by rfl) HS5 ?_ ?_
    · intro u hSu
      have hSu := hSu
      have q := HNq.out
      go_simp
    try simp only [Act.put, List.setIfInBounds_toArray, List.set_cons_zero, List.set_cons_succ]
    refine b_done (by kernel_rfl) ?_ _

    have HB5 := hide (HB3.out.trans (HS5.2.mono HB3.out.size))
    go_wp2_with fail
    go_ret2
    exact ⟨⟨.slice none 0 0, by rw [hd.out]; rfl, fun h => by rw [hd.out] at h; cases h⟩, HB5.out⟩
  case pos =>
    have HNq := hide (show (m != S) = false by rw [hsm]; simp)
    have hd := hide (show er = 0 by rw [HLg2.out, if_pos hsm])
    clear hsm
    refine b_region (S := fun u => Blk u R C 105 ∧ Below w3.heap.size w3 u) (F := (fun _ => true)) (by kernel_rfl) ?_
    refine b_take 3 (some 35) (.pointer (some ⟨R, 0, none⟩)) rfl rfl (by kernel_rfl) (by kernel_rfl) (by kernel_rfl) (by kernel_rfl) (by kernel_rfl) (fun _ _ _ h => h) (by rfl) HS3 ?_ ?_
    · intro u hSu
      have hSu := hSu
      obtain ⟨p18, p19, p22⟩ := (HHc2 _ _ hSu.1).out
      go_simp
    try simp only [Act.put, List.setIfInBounds_toArray, List.set_cons_zero, List.set_cons_succ]
    refine b_take 4 (some 36) (.pointer (some ⟨R, 19, none⟩)) rfl rfl (by kernel_rfl) (by kernel_rfl) (by kernel_rfl) (by kernel_rfl) (by kernel_rfl) (fun _ _ _ h => h) (by rfl) HS3 ?_ ?_
    · intro u hSu
      have hSu := hSu
      obtain ⟨p18, p19, p22⟩ := (HHc2 _ _ hSu.1).out
      go_simp
    try simp only [Act.put, List.setIfInBounds_toArray, List.set_cons_zero, List.set_cons_succ]
    refine b_take 5 (some 37) (.int .u32 S) rfl rfl (by kernel_rfl) (by kernel_rfl) (by kernel_rfl) (by kernel_rfl) (by kernel_rfl) (fun _ _ _ h => h) (by rfl) HS3 ?_ ?_
    · intro u hSu
      have hSu := hSu
      obtain ⟨p18, p19, p22⟩ := (HHc2 _ _ hSu.1).out
      go_simp
    try simp only [Act.put, List.setIfInBounds_toArray, List.set_cons_zero, List.set_cons_succ]
    refine b_take 0 (some 32) (.slice (some ⟨g3, 0, none⟩) k c3) rfl rfl (by kernel_rfl) (by kernel_rfl) (by kernel_rfl) (by kernel_rfl) (by kernel_rfl) (fun _ _ _ h => h) (by rfl) HS3 ?_ ?_
    · intro u hSu
      have hSu := hSu
      go_simp
    try simp only [Act.put, List.setIfInBounds_toArray, List.set_cons_zero, List.set_cons_succ]
    refine b_ready (rs := [1]) (by kernel_rfl) (by simp) ?_
    refine AllReadyB.cons (i := 1) rfl (fun K hK => ?_) AllReadyB.nil
    go_simp
    refine hK.out _ _ (fun _ => HS4) ?_
    clear hK K
    try simp only [Act.put, List.setIfInBounds_toArray, List.set_cons_zero, List.set_cons_succ]
    refine b_ready (rs := [2]) (by kernel_rfl) (by simp) ?_
    refine AllReadyB.cons (i := 2) rfl (fun K hK => ?_) AllReadyB.nil
    go_simp
    refine HSum.out.mono ?_
    rintro e9 w5 ⟨rfl, h5⟩
    have hb5 : Below w3.heap.size w3 w5 := (Below.refl _ _).drew.trans h5
    have HS5 : (show World → Prop from fun u => Blk u R C 105 ∧ Below w3.heap.size w3 u) w5 := ⟨HK3.out.below hb5, hb5⟩
    clear h5 hb5
    go_simp
    refine hK.out _ _ (fun _ => HS5) ?_
    clear hK K
    try simp only [Act.put, List.setIfInBounds_toArray, List.set_cons_zero, List.set_cons_succ]
    refine b_take 6 (some 38) (.bool false) rfl rfl (by kernel_rfl) (by kernel_rfl) (by kernel_rfl) (by kernel_rfl) (by kernel_rfl) (fun _ _ _ h => h) (by rfl) HS5 ?_ ?_
    · intro u hSu
      have hSu := hSu
      have q := HNq.out
      go_simp
    try simp only [Act.put, List.setIfInBounds_toArray, List.set_cons_zero, List.set_cons_succ]
    refine b_done (by kernel_rfl) ?_ _

    have HB5 := hide (HB3.out.trans (HS5.2.mono HB3.out.size))
    have HD5 := HDl w5 g3 c3 HC3.out.1 HC3.out.2 HLn.out (HL3.out.below HS5.2)
    go_wp2_with (go_at_call 71; refine HD5.out.mono ?_; rintro e9 w6 ⟨⟨v6, rfl, ho⟩, h6⟩; have HO6 := hide ho; have HB6 := hide (HB5.out.trans (h6.mono HB5.out.size)); clear ho h6)
    go_ret2
    exact ⟨⟨v6, by rw [hd.out]; rfl, fun _ => OwnG.low HO6.out HB5.out.size⟩, HB6.out⟩
end Go.Proofs.YtpbnjobjjnhplaaDoor.Oct
