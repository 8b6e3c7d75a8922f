/- A table that came in, opened. -/
import Derived.Test.YtpbnjobjjnhplaaDoorPGqj
import Derived.Test.YtpbnjobjjnhplaaDoorPSam
import Derived.Test.YtpbnjobjjnhplaaDoorPOpenPts
import Derived.Lib.SmallJoins
import Derived.Deep.Slices
import Derived.OpenShut
namespace Go.Proofs.YtpbnjobjjnhplaaDoor.Oct
open Go.RowKit

theorem light_any (t : Tb) (a : Option Addr) (n cap : Nat) (hid : t.id.length = 16) (w : World) :
    Calls Tryd.prog 7 #[.agg (t.cells (.slice a n cap)).toArray] w fun e w' => e = .returned (.bool (decide ((n : Int) ≤ 140))) ∧ Below w.heap.size w w' := by
  have y := (Blk.new w (t.cells (.slice a n cap)).toArray 25).cell 19 (.slice a n cap) (by
    rw [List.getElem?_toArray]
    unfold Tb.cells
    rw [List.getElem?_append_right (by simp), List.getElem?_append_right (by simp [hid])]
    simp [hid])
  have HB := hide ((Below.refl w.heap.size w).alloc (Nat.le_refl _) (.cells (t.cells (.slice a n cap)).toArray 25))
  generalize (t.cells (.slice a n cap)).toArray = C at *
  clear hid
  go_enter Tryd.func7, Tryd.ntmps7
  go_wp2_with fail
  go_ret
  exact ⟨rfl, HB.out⟩

set_option maxHeartbeats 8000000 in
set_option maxRecDepth 100000 in
theorem gptChecks_walk (hSS : SortSays) (t : Tb) (a : Option Addr) (cap : Nat) (hid : t.id.length = 16) (hok : ∀ x ∈ t.L, x.ok) (w : World) (hl : LiesEn w a t.L) (hV : VarG w) :
    Calls Tryd.prog 3 #[.agg (t.cells (.slice a t.L.length cap)).toArray] w fun e w' => e = .returned (.bool true) ∧ Below w.heap.size w w' := by
  have HLi := fun u => hide (light_any t a t.L.length cap hid u)
  have HLa := fun u hv => hide (laid_ok hSS u hv)
  obtain ⟨cs, hcs⟩ : ∃ cs, cs = (t.cells (.slice a t.L.length cap)).toArray := ⟨_, rfl⟩
  have hsz : cs.size = 22 := by rw [hcs]; exact tb_size hid
  have HSz := hide hsz
  rw [← hcs] at HLi ⊢
  obtain ⟨R, hR⟩ : ∃ R, R = w.heap.size := ⟨_, rfl⟩
  obtain ⟨w1, hw1⟩ : ∃ w1, w1 = w.alloc (.cells cs 25) := ⟨_, rfl⟩
  have hb1 : Below w.heap.size w w1 := by rw [hw1]; exact (Below.refl _ _).alloc (Nat.le_refl _) _
  have hk1 : Blk w1 R cs 25 := by rw [hw1, hR]; exact Blk.new _ _ _
  have HR := hide hR
  have HW1 := hide hw1
  have HK1 := hide hk1
  have HB1 := hide hb1
  have HL1 := hide (hl.below hb1)
  have HV1 := hide (hV.below hb1)
  by_cases hn : t.L.length ≤ 140
  case neg =>
    have hd := hide (show decide ((t.L.length : Int) ≤ 140) = false by simpa using by omega)
    obtain ⟨B, hB⟩ : ∃ B, B = decide ((t.L.length : Int) ≤ 140) := ⟨_, rfl⟩
    rw [← hB] at HLi hd
    have hBf : B = false := hd.out
    subst hBf
    clear hSS hid hok hl hV hcs hsz hR hw1 hb1 hk1 hn hd hB
    go_enter Tryd.func3, Tryd.ntmps3
    go_upto_region 1 with fail
    rw [← HW1.out, ← HR.out]
    go_wp2_with (first | (refine wpList_isop (.load 25 (.tmp 1)) rfl ?_; refine wpList_exec rfl (exec_ld rfl rfl (loadT HK1.out HSz.out)) ?_) | (go_at_call 7; refine (HLi _).out.mono ?_; rintro e w2 ⟨rfl, hb⟩; have HB2 := hide (HB1.out.trans (hb.mono HB1.out.size)); have HV2 := hide (HV1.out.below hb); clear hb) | (go_at_call 8; refine (HLa _ HV2.out).out.mono ?_; rintro e w3 ⟨rfl, hb⟩; have HB3 := hide (HB2.out.trans (hb.mono HB2.out.size)); clear hb))
    go_ret
    exact ⟨rfl, HB3.out⟩
  have HCk := fun u hu => hide (Check_any hSS t a cap cs hcs hid hok (by omega) u hu)
  have HOf := fun u hu => hide (of_any t a cap cs hcs hid hok (by omega) u hu)
  have HRc := fun u vi b c hu => hide (rchk_any t vi b c hok (by omega) u hu)
  obtain ⟨B, hB⟩ : ∃ B, B = decide ((t.L.length : Int) ≤ 140) := ⟨_, rfl⟩
  rw [← hB] at HLi
  have hBt : B = true := by rw [hB]; simpa using by omega
  subst hBt
  obtain ⟨er, her⟩ : ∃ er, er = t.chk := ⟨_, rfl⟩
  rw [← her] at HCk HRc
  obtain ⟨n, hnn⟩ : ∃ n, n = t.L.length := ⟨_, rfl⟩
  rw [← hnn] at HOf HRc
  clear hSS hid hok hl hV hcs hsz hR hw1 hb1 hk1 hn hB her hnn
  go_enter Tryd.func3, Tryd.ntmps3
  go_upto_region 1 with fail
  rw [← HW1.out, ← HR.out]
  go_upto_region 3 with (first | (refine wpList_isop (.load 25 (.tmp 1)) rfl ?_; refine wpList_exec rfl (exec_ld rfl rfl (loadT HK1.out HSz.out)) ?_) | (go_at_call 7; refine (HLi _).out.mono ?_; rintro e w2 ⟨rfl, hb⟩; have HK2 := hide (HK1.out.below hb); have HB2 := hide (HB1.out.trans (hb.mono HB1.out.size)); have HV2 := hide (HV1.out.below hb); have HL2 := hide (HL1.out.below hb); clear hb))

  have HS0 : (show World → Prop from fun u => Blk u R cs 25 ∧ LiesEn u a t.L ∧ VarG u ∧ Below w.heap.size w u) w2.drew := ⟨HK2.out.drew, HL2.out.below (Below.refl _ _).drew, HV2.out.below (Below.refl _ _).drew, HB2.out.drew⟩
  refine wp_region_held_drew (S := fun u => Blk u R cs 25 ∧ LiesEn u a t.L ∧ VarG u ∧ Below w.heap.size w u) (by kernel_rfl) HS0 (fun _ => ?_)
  refine wpAnyH_ready (rs := [0]) (by kernel_rfl) (by simp) ?_
  refine AllReadyH.cons (i := 0) rfl (fun K hK => ?_) AllReadyH.nil
  go_simp
  refine (HLa _ HS0.2.2.1).out.mono ?_
  rintro e9 y1 ⟨rfl, hbx⟩
  have HSy1 : (show World → Prop from fun u => Blk u R cs 25 ∧ LiesEn u a t.L ∧ VarG u ∧ Below w.heap.size w u) y1 := ⟨HS0.1.below hbx, HS0.2.1.below hbx, HS0.2.2.1.below hbx, HS0.2.2.2.trans (hbx.mono HS0.2.2.2.size)⟩
  clear hbx
  go_simp
  refine hK.out _ _ HSy1 (fun _ => ?_)
  clear hK K
  try simp only [Act.put, List.setIfInBounds_toArray, List.set_cons_zero, List.set_cons_succ]
  refine any_take 1 (some 8) (.bool true) rfl rfl (by kernel_rfl) (by kernel_rfl) (by kernel_rfl) (fun _ _ _ h => h) (by rfl) HSy1 ?_ ?_
  · intro u hSu
    go_simp
  try simp only [Act.put, List.setIfInBounds_toArray, List.set_cons_zero, List.set_cons_succ]
  refine any_take 2 (some 9) (.agg cs) rfl rfl (by kernel_rfl) (by kernel_rfl) (by kernel_rfl) (fun _ _ _ h => h) (by rfl) HSy1 ?_ ?_
  · intro u hSu
    exact exec_ld rfl rfl (loadT hSu.1 HSz.out)
  try simp only [Act.put, List.setIfInBounds_toArray, List.set_cons_zero, List.set_cons_succ]
  refine any_take 4 (some 11) (.agg cs) rfl rfl (by kernel_rfl) (by kernel_rfl) (by kernel_rfl) (fun _ _ _ h => h) (by rfl) HSy1 ?_ ?_
  · intro u hSu
    exact exec_ld rfl rfl (loadT hSu.1 HSz.out)
  try simp only [Act.put, List.setIfInBounds_toArray, List.set_cons_zero, List.set_cons_succ]
  refine wpAnyH_ready (rs := [3]) (by kernel_rfl) (by simp) ?_
  refine AllReadyH.cons (i := 3) rfl (fun K hK => ?_) AllReadyH.nil
  go_simp
  refine (HCk _ HSy1.2.1).out.mono ?_
  rintro e9 y2 ⟨rfl, hbx⟩
  have HSy2 : (show World → Prop from fun u => Blk u R cs 25 ∧ LiesEn u a t.L ∧ VarG u ∧ Below w.heap.size w u) y2 := ⟨HSy1.1.below hbx, HSy1.2.1.below hbx, HSy1.2.2.1.below hbx, HSy1.2.2.2.trans (hbx.mono HSy1.2.2.2.size)⟩
  clear hbx
  go_simp
  refine hK.out _ _ HSy2 (fun _ => ?_)
  clear hK K
  try simp only [Act.put, List.setIfInBounds_toArray, List.set_cons_zero, List.set_cons_succ]
  refine wpAnyH_ready (rs := [5]) (by kernel_rfl) (by simp) ?_
  refine AllReadyH.cons (i := 5) rfl (fun K hK => ?_) AllReadyH.nil
  go_simp
  refine (HOf _ HSy2.2.1).out.mono ?_
  rintro e9 y3 ⟨⟨vi, b, c, rfl, _, hld⟩, hbx⟩
  have HSy3 : (show World → Prop from fun u => Blk u R cs 25 ∧ LiesEn u a t.L ∧ VarG u ∧ Below w.heap.size w u) y3 := ⟨HSy2.1.below hbx, HSy2.2.1.below hbx, HSy2.2.2.1.below hbx, HSy2.2.2.2.trans (hbx.mono HSy2.2.2.2.size)⟩
  clear hbx
  go_simp
  refine hK.out _ _ HSy3 (fun _ => ?_)
  clear hK K
  try simp only [Act.put, List.setIfInBounds_toArray, List.set_cons_zero, List.set_cons_succ]
  refine wpAnyH_ready (rs := [6]) (by kernel_rfl) (by simp) ?_
  refine AllReadyH.cons (i := 6) rfl (fun K hK => ?_) AllReadyH.nil
  go_simp
  refine (HRc _ vi b c hld).out.mono ?_
  rintro e9 y4 ⟨rfl, hbx⟩
  have HSy4 : (show World → Prop from fun u => Blk u R cs 25 ∧ LiesEn u a t.L ∧ VarG u ∧ Below w.heap.size w u) y4 := ⟨HSy3.1.below hbx, HSy3.2.1.below hbx, HSy3.2.2.1.below hbx, HSy3.2.2.2.trans (hbx.mono HSy3.2.2.2.size)⟩
  clear hbx
  go_simp
  refine hK.out _ _ HSy4 (fun _ => ?_)
  clear hK K
  try simp only [Act.put, List.setIfInBounds_toArray, List.set_cons_zero, List.set_cons_succ]
  refine any_take 7 (some 14) (.bool true) rfl rfl (by kernel_rfl) (by kernel_rfl) (by kernel_rfl) (fun _ _ _ h => h) (by rfl) HSy4 ?_ ?_
  · intro u hSu
    go_simp
  try simp only [Act.put, List.setIfInBounds_toArray, List.set_cons_zero, List.set_cons_succ]
  refine any_take 8 (some 15) (.bool true) rfl rfl (by kernel_rfl) (by kernel_rfl) (by kernel_rfl) (fun _ _ _ h => h) (by rfl) HSy4 ?_ ?_
  · intro u hSu
    go_simp
  try simp only [Act.put, List.setIfInBounds_toArray, List.set_cons_zero, List.set_cons_succ]
  refine any_take 9 (some 2) (.bool true) rfl rfl (by kernel_rfl) (by kernel_rfl) (by kernel_rfl) (fun _ _ _ h => h) (by rfl) HSy4 ?_ ?_
  · intro u hSu
    go_simp
  try simp only [Act.put, List.setIfInBounds_toArray, List.set_cons_zero, List.set_cons_succ]
  refine wpAnyH_done (by kernel_rfl) ?_ _

  go_wp2_with fail
  go_ret
  exact ⟨rfl, HSy4.2.2.2⟩
end Go.Proofs.YtpbnjobjjnhplaaDoor.Oct

namespace Go.Proofs.YtpbnjobjjnhplaaDoor.Oct
open Go.RowKit

/-- The bytes that a table has itself. -/
def Tb.held (t : Tb) : List (Int × Int) := [(512, 1024), (t.at_ * 512, (t.at_ + rowsG t.L.length) * 512), (t.beh * 512, (t.beh + rowsG t.L.length) * 512), ((t.sec - 1) * 512, t.sec * 512)]

theorem held_lies {u : World} {g : Nat} {t : Tb} {r : Int} (hr : r = rowsG t.L.length) (h : Blk u g #[.int .i64 512, .int .i64 1024, .int .i64 (t.at_ * 512), .int .i64 ((t.at_ + r) * 512), .int .i64 (t.beh * 512), .int .i64 ((t.beh + r) * 512), .int .i64 ((t.sec - 1) * 512), .int .i64 (t.sec * 512)] 59) : LiesE u (some ⟨g, 0, none⟩) t.held := by
  subst hr
  refine Or.inr ⟨g, 0, rfl, h.lt, fun k hk => ?_⟩
  have hk4 : k < 4 := hk
  match k, hk4 with
  | 0, _ => exact ⟨h.cell 0 _ rfl, h.cell 1 _ rfl⟩
  | 1, _ => exact ⟨h.cell 2 _ rfl, h.cell 3 _ rfl⟩
  | 2, _ => exact ⟨h.cell 4 _ rfl, h.cell 5 _ rfl⟩
  | 3, _ => exact ⟨h.cell 6 _ rfl, h.cell 7 _ rfl⟩

set_option maxHeartbeats 8000000 in
set_option maxRecDepth 100000 in
theorem held_any (t : Tb) (a : Option Addr) (cap : Nat) (cs : Array Value) (hcs : cs = (t.cells (.slice a t.L.length cap)).toArray) (hid : t.id.length = 16) (hch : t.chk = 0) (w : World) :
    Calls Tryd.prog 20 #[.agg cs] w fun e w' => (∃ g, e = .returned (.slice (some ⟨g, 0, none⟩) 4 4) ∧ LiesE w' (some ⟨g, 0, none⟩) t.held) ∧ Below w.heap.size w w' := by
  obtain ⟨hs, hn1, hp, _⟩ := chk_low t hch
  have hrn := rowsG_near t.L.length (by omega)
  have hsz : cs.size = 22 := by rw [hcs]; exact tb_size hid
  have HC := fun u R (h : Blk u R cs 25) => hide (tb_cells (u := u) (R := R) (v := .slice a t.L.length cap) hid (by rw [← hcs]; exact h))
  have HRo := fun u => hide (rows_any t a t.L.length cap cs hcs hid (by omega) u)
  have HSh := fun u => hide (secondHead_any t _ cs hcs hid (by unfold nearG; omega) u)
  obtain ⟨r, hr⟩ : ∃ r, r = rowsG t.L.length := ⟨_, rfl⟩
  rw [← hr] at HRo hrn
  unfold Tb.placed at hp
  rw [← hr] at hp
  have HHr := hide hr
  have sp := fun (f l : Int) (x y : Int) (u : World) (hf : nearG f) (hl : nearG l) (hx : f * 512 = x) (hy : (l + 1) * 512 = y) => hide (show Calls Tryd.prog 42 #[.int .i64 f, .int .i64 l] u fun e w' => e = .returned (.agg #[.int .i64 x, .int .i64 y]) ∧ Below u.heap.size u w' by rw [← hx, ← hy]; exact span_any f l u hf hl)
  have S1 := fun u => sp 1 1 512 1024 u (by unfold nearG; omega) (by unfold nearG; omega) rfl rfl
  have S2 := fun u => sp t.at_ (t.at_ + r - 1) (t.at_ * 512) ((t.at_ + r) * 512) u (by unfold nearG; omega) (by unfold nearG; omega) rfl (by omega)
  have S3 := fun u => sp t.beh (t.beh + r - 1) (t.beh * 512) ((t.beh + r) * 512) u (by unfold nearG; omega) (by unfold nearG; omega) rfl (by omega)
  have S4 := fun u => sp (t.sec - 1) (t.sec - 1) ((t.sec - 1) * 512) (t.sec * 512) u (by unfold nearG; omega) (by unfold nearG; omega) rfl (by omega)
  have e1 : IntKind.i64.wrap (t.at_ + r) = t.at_ + r := by rw [IntKind.wrap_i64]; omega
  have e2 : IntKind.i64.wrap (t.at_ + r - 1) = t.at_ + r - 1 := by rw [IntKind.wrap_i64]; omega
  have e3 : IntKind.i64.wrap (t.beh + r) = t.beh + r := by rw [IntKind.wrap_i64]; omega
  have e4 : IntKind.i64.wrap (t.beh + r - 1) = t.beh + r - 1 := by rw [IntKind.wrap_i64]; omega
  obtain ⟨R, hR⟩ : ∃ R, R = w.heap.size := ⟨_, rfl⟩
  obtain ⟨w1, hw1⟩ : ∃ w1, w1 = w.alloc (.cells cs 25) := ⟨_, rfl⟩
  have hb1 : Below w.heap.size w w1 := by rw [hw1]; exact (Below.refl _ _).alloc (Nat.le_refl _) _
  have hk1 : Blk w1 R cs 25 := by rw [hw1, hR]; exact Blk.new _ _ _
  have HSz := hide hsz
  have HR := hide hR
  have HW1 := hide hw1
  have HK1 := hide hk1
  have HB1 := hide hb1
  clear hcs hid hch hs hn1 hp hrn hsz hr sp hR hw1 hb1 hk1
  go_enter Tryd.func20, Tryd.ntmps20
  go_upto_region 1 with fail
  rw [← HW1.out, ← HR.out]

  have HS0 : (show World → Prop from fun u => Blk u R cs 25 ∧ Below w.heap.size w u) w1.drew := ⟨HK1.out.drew, HB1.out.drew⟩
  refine b_region (S := fun u => Blk u R cs 25 ∧ Below w.heap.size w u) (F := (fun _ => true)) (by kernel_rfl) ?_
  refine b_take 1 (some 4) (.pointer (some ⟨R, 20, none⟩)) rfl rfl (by kernel_rfl) (by kernel_rfl) (by kernel_rfl) (by kernel_rfl) (by kernel_rfl) (fun _ _ _ h => h) (by rfl) HS0 ?_ ?_
  · intro u hSu
    have hSu := hSu
    obtain ⟨c0, c1, c2, c3, c4, c5⟩ := (HC _ _ hSu.1).out
    go_simp
  try simp only [Act.put, List.setIfInBounds_toArray, List.set_cons_zero, List.set_cons_succ]
  refine b_take 2 (some 5) (.int .i64 t.at_) rfl rfl (by kernel_rfl) (by kernel_rfl) (by kernel_rfl) (by kernel_rfl) (by kernel_rfl) (fun _ _ _ h => h) (by rfl) HS0 ?_ ?_
  · intro u hSu
    have hSu := hSu
    obtain ⟨c0, c1, c2, c3, c4, c5⟩ := (HC _ _ hSu.1).out
    go_simp
  try simp only [Act.put, List.setIfInBounds_toArray, List.set_cons_zero, List.set_cons_succ]
  refine b_take 3 (some 6) (.pointer (some ⟨R, 20, none⟩)) rfl rfl (by kernel_rfl) (by kernel_rfl) (by kernel_rfl) (by kernel_rfl) (by kernel_rfl) (fun _ _ _ h => h) (by rfl) HS0 ?_ ?_
  · intro u hSu
    have hSu := hSu
    obtain ⟨c0, c1, c2, c3, c4, c5⟩ := (HC _ _ hSu.1).out
    go_simp
  try simp only [Act.put, List.setIfInBounds_toArray, List.set_cons_zero, List.set_cons_succ]
  refine b_take 4 (some 7) (.int .i64 t.at_) rfl rfl (by kernel_rfl) (by kernel_rfl) (by kernel_rfl) (by kernel_rfl) (by kernel_rfl) (fun _ _ _ h => h) (by rfl) HS0 ?_ ?_
  · intro u hSu
    have hSu := hSu
    obtain ⟨c0, c1, c2, c3, c4, c5⟩ := (HC _ _ hSu.1).out
    go_simp
  try simp only [Act.put, List.setIfInBounds_toArray, List.set_cons_zero, List.set_cons_succ]
  refine b_take 5 (some 8) (.agg cs) rfl rfl (by kernel_rfl) (by kernel_rfl) (by kernel_rfl) (by kernel_rfl) (by kernel_rfl) (fun _ _ _ h => h) (by rfl) HS0 ?_ ?_
  · intro u hSu
    have hSu := hSu
    exact exec_ld rfl rfl (loadT hSu.1 HSz.out)
  try simp only [Act.put, List.setIfInBounds_toArray, List.set_cons_zero, List.set_cons_succ]
  refine b_take 10 (some 13) (.pointer (some ⟨R, 21, none⟩)) rfl rfl (by kernel_rfl) (by kernel_rfl) (by kernel_rfl) (by kernel_rfl) (by kernel_rfl) (fun _ _ _ h => h) (by rfl) HS0 ?_ ?_
  · intro u hSu
    have hSu := hSu
    obtain ⟨c0, c1, c2, c3, c4, c5⟩ := (HC _ _ hSu.1).out
    go_simp
  try simp only [Act.put, List.setIfInBounds_toArray, List.set_cons_zero, List.set_cons_succ]
  refine b_take 11 (some 14) (.int .i64 t.beh) rfl rfl (by kernel_rfl) (by kernel_rfl) (by kernel_rfl) (by kernel_rfl) (by kernel_rfl) (fun _ _ _ h => h) (by rfl) HS0 ?_ ?_
  · intro u hSu
    have hSu := hSu
    obtain ⟨c0, c1, c2, c3, c4, c5⟩ := (HC _ _ hSu.1).out
    go_simp
  try simp only [Act.put, List.setIfInBounds_toArray, List.set_cons_zero, List.set_cons_succ]
  refine b_take 12 (some 15) (.pointer (some ⟨R, 21, none⟩)) rfl rfl (by kernel_rfl) (by kernel_rfl) (by kernel_rfl) (by kernel_rfl) (by kernel_rfl) (fun _ _ _ h => h) (by rfl) HS0 ?_ ?_
  · intro u hSu
    have hSu := hSu
    obtain ⟨c0, c1, c2, c3, c4, c5⟩ := (HC _ _ hSu.1).out
    go_simp
  try simp only [Act.put, List.setIfInBounds_toArray, List.set_cons_zero, List.set_cons_succ]
  refine b_take 13 (some 16) (.int .i64 t.beh) rfl rfl (by kernel_rfl) (by kernel_rfl) (by kernel_rfl) (by kernel_rfl) (by kernel_rfl) (fun _ _ _ h => h) (by rfl) HS0 ?_ ?_
  · intro u hSu
    have hSu := hSu
    obtain ⟨c0, c1, c2, c3, c4, c5⟩ := (HC _ _ hSu.1).out
    go_simp
  try simp only [Act.put, List.setIfInBounds_toArray, List.set_cons_zero, List.set_cons_succ]
  refine b_take 14 (some 17) (.agg cs) rfl rfl (by kernel_rfl) (by kernel_rfl) (by kernel_rfl) (by kernel_rfl) (by kernel_rfl) (fun _ _ _ h => h) (by rfl) HS0 ?_ ?_
  · intro u hSu
    have hSu := hSu
    exact exec_ld rfl rfl (loadT hSu.1 HSz.out)
  try simp only [Act.put, List.setIfInBounds_toArray, List.set_cons_zero, List.set_cons_succ]
  refine b_take 19 (some 22) (.agg cs) rfl rfl (by kernel_rfl) (by kernel_rfl) (by kernel_rfl) (by kernel_rfl) (by kernel_rfl) (fun _ _ _ h => h) (by rfl) HS0 ?_ ?_
  · intro u hSu
    have hSu := hSu
    exact exec_ld rfl rfl (loadT hSu.1 HSz.out)
  try simp only [Act.put, List.setIfInBounds_toArray, List.set_cons_zero, List.set_cons_succ]
  refine b_take 21 (some 24) (.agg cs) rfl rfl (by kernel_rfl) (by kernel_rfl) (by kernel_rfl) (by kernel_rfl) (by kernel_rfl) (fun _ _ _ h => h) (by rfl) HS0 ?_ ?_
  · intro u hSu
    have hSu := hSu
    exact exec_ld rfl rfl (loadT hSu.1 HSz.out)
  try simp only [Act.put, List.setIfInBounds_toArray, List.set_cons_zero, List.set_cons_succ]
  refine b_ready (rs := [0]) (by kernel_rfl) (by simp) ?_
  refine AllReadyB.cons (i := 0) rfl (fun K hK => ?_) AllReadyB.nil
  go_simp
  refine (S1 _).out.mono ?_
  rintro e9 y1 ⟨rfl, hbx⟩
  have HSy1 : (show World → Prop from fun u => Blk u R cs 25 ∧ Below w.heap.size w u) y1 := ⟨HS0.1.below hbx, HS0.2.trans (hbx.mono HS0.2.size)⟩
  clear hbx
  go_simp
  refine hK.out _ _ (fun _ => HSy1) ?_
  clear hK K
  try simp only [Act.put, List.setIfInBounds_toArray, List.set_cons_zero, List.set_cons_succ]
  refine b_ready (rs := [6]) (by kernel_rfl) (by simp) ?_
  refine AllReadyB.cons (i := 6) rfl (fun K hK => ?_) AllReadyB.nil
  go_simp
  refine (HRo _).out.mono ?_
  rintro e9 y2 ⟨rfl, hbx⟩
  have HSy2 : (show World → Prop from fun u => Blk u R cs 25 ∧ Below w.heap.size w u) y2 := ⟨HSy1.1.below hbx, HSy1.2.trans (hbx.mono HSy1.2.size)⟩
  clear hbx
  go_simp
  refine hK.out _ _ (fun _ => HSy2) ?_
  clear hK K
  try simp only [Act.put, List.setIfInBounds_toArray, List.set_cons_zero, List.set_cons_succ]
  refine b_take 7 (some 10) (.int .i64 (t.at_ + r)) rfl rfl (by kernel_rfl) (by kernel_rfl) (by kernel_rfl) (by kernel_rfl) (by kernel_rfl) (fun _ _ _ h => h) (by rfl) HSy2 ?_ ?_
  · intro u hSu
    have hSu := hSu
    have e1 := e1
    go_simp
  try simp only [Act.put, List.setIfInBounds_toArray, List.set_cons_zero, List.set_cons_succ]
  refine b_take 8 (some 11) (.int .i64 (t.at_ + r - 1)) rfl rfl (by kernel_rfl) (by kernel_rfl) (by kernel_rfl) (by kernel_rfl) (by kernel_rfl) (fun _ _ _ h => h) (by rfl) HSy2 ?_ ?_
  · intro u hSu
    have hSu := hSu
    have e2 := e2
    go_simp
  try simp only [Act.put, List.setIfInBounds_toArray, List.set_cons_zero, List.set_cons_succ]
  refine b_ready (rs := [9]) (by kernel_rfl) (by simp) ?_
  refine AllReadyB.cons (i := 9) rfl (fun K hK => ?_) AllReadyB.nil
  go_simp
  refine (S2 _).out.mono ?_
  rintro e9 y3 ⟨rfl, hbx⟩
  have HSy3 : (show World → Prop from fun u => Blk u R cs 25 ∧ Below w.heap.size w u) y3 := ⟨HSy2.1.below hbx, HSy2.2.trans (hbx.mono HSy2.2.size)⟩
  clear hbx
  go_simp
  refine hK.out _ _ (fun _ => HSy3) ?_
  clear hK K
  try simp only [Act.put, List.setIfInBounds_toArray, List.set_cons_zero, List.set_cons_succ]
  refine b_ready (rs := [15]) (by kernel_rfl) (by simp) ?_
  refine AllReadyB.cons (i := 15) rfl (fun K hK => ?_) AllReadyB.nil
  go_simp
  refine (HRo _).out.mono ?_
  rintro e9 y4 ⟨rfl, hbx⟩
  have HSy4 : (show World → Prop from fun u => Blk u R cs 25 ∧ Below w.heap.size w u) y4 := ⟨HSy3.1.below hbx, HSy3.2.trans (hbx.mono HSy3.2.size)⟩
  clear hbx
  go_simp
  refine hK.out _ _ (fun _ => HSy4) ?_
  clear hK K
  try simp only [Act.put, List.setIfInBounds_toArray, List.set_cons_zero, List.set_cons_succ]
  refine b_take 16 (some 19) (.int .i64 (t.beh + r)) rfl rfl (by kernel_rfl) (by kernel_rfl) (by kernel_rfl) (by kernel_rfl) (by kernel_rfl) (fun _ _ _ h => h) (by rfl) HSy4 ?_ ?_
  · intro u hSu
    have hSu := hSu
    have e3 := e3
    go_simp
  try simp only [Act.put, List.setIfInBounds_toArray, List.set_cons_zero, List.set_cons_succ]
  refine b_take 17 (some 20) (.int .i64 (t.beh + r - 1)) rfl rfl (by kernel_rfl) (by kernel_rfl) (by kernel_rfl) (by kernel_rfl) (by kernel_rfl) (fun _ _ _ h => h) (by rfl) HSy4 ?_ ?_
  · intro u hSu
    have hSu := hSu
    have e4 := e4
    go_simp
  try simp only [Act.put, List.setIfInBounds_toArray, List.set_cons_zero, List.set_cons_succ]
  refine b_ready (rs := [18]) (by kernel_rfl) (by simp) ?_
  refine AllReadyB.cons (i := 18) rfl (fun K hK => ?_) AllReadyB.nil
  go_simp
  refine (S3 _).out.mono ?_
  rintro e9 y5 ⟨rfl, hbx⟩
  have HSy5 : (show World → Prop from fun u => Blk u R cs 25 ∧ Below w.heap.size w u) y5 := ⟨HSy4.1.below hbx, HSy4.2.trans (hbx.mono HSy4.2.size)⟩
  clear hbx
  go_simp
  refine hK.out _ _ (fun _ => HSy5) ?_
  clear hK K
  try simp only [Act.put, List.setIfInBounds_toArray, List.set_cons_zero, List.set_cons_succ]
  refine b_ready (rs := [20]) (by kernel_rfl) (by simp) ?_
  refine AllReadyB.cons (i := 20) rfl (fun K hK => ?_) AllReadyB.nil
  go_simp
  refine (HSh _).out.mono ?_
  rintro e9 y6 ⟨rfl, hbx⟩
  have HSy6 : (show World → Prop from fun u => Blk u R cs 25 ∧ Below w.heap.size w u) y6 := ⟨HSy5.1.below hbx, HSy5.2.trans (hbx.mono HSy5.2.size)⟩
  clear hbx
  go_simp
  refine hK.out _ _ (fun _ => HSy6) ?_
  clear hK K
  try simp only [Act.put, List.setIfInBounds_toArray, List.set_cons_zero, List.set_cons_succ]
  refine b_ready (rs := [22]) (by kernel_rfl) (by simp) ?_
  refine AllReadyB.cons (i := 22) rfl (fun K hK => ?_) AllReadyB.nil
  go_simp
  refine (HSh _).out.mono ?_
  rintro e9 y7 ⟨rfl, hbx⟩
  have HSy7 : (show World → Prop from fun u => Blk u R cs 25 ∧ Below w.heap.size w u) y7 := ⟨HSy6.1.below hbx, HSy6.2.trans (hbx.mono HSy6.2.size)⟩
  clear hbx
  go_simp
  refine hK.out _ _ (fun _ => HSy7) ?_
  clear hK K
  try simp only [Act.put, List.setIfInBounds_toArray, List.set_cons_zero, List.set_cons_succ]
  refine b_ready (rs := [23]) (by kernel_rfl) (by simp) ?_
  refine AllReadyB.cons (i := 23) rfl (fun K hK => ?_) AllReadyB.nil
  go_simp
  refine (S4 _).out.mono ?_
  rintro e9 y8 ⟨rfl, hbx⟩
  have HSy8 : (show World → Prop from fun u => Blk u R cs 25 ∧ Below w.heap.size w u) y8 := ⟨HSy7.1.below hbx, HSy7.2.trans (hbx.mono HSy7.2.size)⟩
  clear hbx
  go_simp
  refine hK.out _ _ (fun _ => HSy8) ?_
  clear hK K
  try simp only [Act.put, List.setIfInBounds_toArray, List.set_cons_zero, List.set_cons_succ]
  have hbz : Below y8.heap.size y8 (y8.alloc (.cells #[.int .i64 512, .int .i64 1024, .int .i64 (t.at_ * 512), .int .i64 ((t.at_ + r) * 512), .int .i64 (t.beh * 512), .int .i64 ((t.beh + r) * 512), .int .i64 ((t.sec - 1) * 512), .int .i64 (t.sec * 512)] 59)) := (Below.refl _ _).alloc (Nat.le_refl _) _
  have HSz8 : (show World → Prop from fun u => Blk u R cs 25 ∧ Below w.heap.size w u) (y8.alloc (.cells #[.int .i64 512, .int .i64 1024, .int .i64 (t.at_ * 512), .int .i64 ((t.at_ + r) * 512), .int .i64 (t.beh * 512), .int .i64 ((t.beh + r) * 512), .int .i64 ((t.sec - 1) * 512), .int .i64 (t.sec * 512)] 59)) := ⟨HSy8.1.below hbz, HSy8.2.trans (hbz.mono HSy8.2.size)⟩
  refine b_ready (rs := [24]) (by kernel_rfl) (by simp) ?_
  refine AllReadyB.cons (i := 24) rfl (fun K hK => ?_) AllReadyB.nil
  go_simp
  refine hK.out _ _ (fun _ => HSz8) ?_
  clear hK K
  try simp only [Act.put, List.setIfInBounds_toArray, List.set_cons_zero, List.set_cons_succ]
  refine b_take 25 (some 2) (.slice (some ⟨y8.heap.size, 0, none⟩) 4 4) rfl rfl (by kernel_rfl) (by kernel_rfl) (by kernel_rfl) (by kernel_rfl) (by kernel_rfl) (fun _ _ _ h => h) (by rfl) HSz8 ?_ ?_
  · intro u hSu
    have hSu := hSu
    go_simp
  try simp only [Act.put, List.setIfInBounds_toArray, List.set_cons_zero, List.set_cons_succ]
  refine b_done (by kernel_rfl) ?_ _

  go_wp2_with fail
  go_ret
  exact ⟨⟨_, rfl, held_lies HHr.out (Blk.new _ _ _)⟩, HSz8.2⟩

set_option maxHeartbeats 8000000 in
set_option maxRecDepth 100000 in
theorem rheld_any (t : Tb) (vi : Value) (a : Option Addr) (cap : Nat) (hch : t.chk = 0) (w : World) :
    Calls Tryd.prog 21 #[.agg (t.rc vi (.slice a t.L.length cap))] w fun e w' => (∃ g, e = .returned (.slice (some ⟨g, 0, none⟩) 4 4) ∧ LiesE w' (some ⟨g, 0, none⟩) t.held) ∧ Below w.heap.size w w' := by
  obtain ⟨hs, hn1, hp, _⟩ := chk_low t hch
  have hrn := rowsG_near t.L.length (by omega)
  have HRo := fun u => hide (rrows_any t.L.length u (by omega))
  obtain ⟨r, hr⟩ : ∃ r, r = rowsG t.L.length := ⟨_, rfl⟩
  rw [← hr] at HRo hrn
  unfold Tb.placed at hp
  rw [← hr] at hp
  have HHr := hide hr
  obtain ⟨n, hn⟩ : ∃ n, n = t.L.length := ⟨_, rfl⟩
  rw [← hn] at HRo ⊢
  have e0 : IntKind.i64.wrap (r * 512) = r * 512 := by rw [IntKind.wrap_i64]; omega
  have e1 : IntKind.i64.wrap (t.at_ * 512) = t.at_ * 512 := by rw [IntKind.wrap_i64]; omega
  have e2 : IntKind.i64.wrap (t.at_ * 512 + r * 512) = (t.at_ + r) * 512 := by rw [IntKind.wrap_i64]; omega
  have e3 : IntKind.i64.wrap (t.beh * 512) = t.beh * 512 := by rw [IntKind.wrap_i64]; omega
  have e4 : IntKind.i64.wrap (t.beh * 512 + r * 512) = (t.beh + r) * 512 := by rw [IntKind.wrap_i64]; omega
  have e5 : IntKind.i64.wrap (t.sec * 512) = t.sec * 512 := by rw [IntKind.wrap_i64]; omega
  have e6 : IntKind.i64.wrap (t.sec * 512 - 512) = (t.sec - 1) * 512 := by rw [IntKind.wrap_i64]; omega
  obtain ⟨w1, hw1⟩ : ∃ w1, w1 = w.alloc (.cells (t.rc vi (.slice a n cap)) 34) := ⟨_, rfl⟩
  obtain ⟨R, hR⟩ : ∃ R, R = w.heap.size := ⟨_, rfl⟩
  have hb1 : Below w.heap.size w w1 := by rw [hw1]; exact (Below.refl _ _).alloc (Nat.le_refl _) _
  have hk1 : Blk w1 R (t.rc vi (.slice a n cap)) 34 := by rw [hw1, hR]; exact Blk.new _ _ _
  have HR := hide hR
  have HW1 := hide hw1
  have HB1 := hide hb1
  obtain ⟨q0, q1, q2, q4, q5, q6⟩ := rc_cells hk1
  clear hch hs hn1 hp hrn hr hn hR hw1 hb1 hk1
  go_enter Tryd.func21, Tryd.ntmps21
  go_upto_region 1 with fail
  rw [← HW1.out, ← HR.out]
  go_wp2_with (go_at_call 30; refine (HRo _).out.mono ?_; rintro e9 w2 ⟨rfl, h2⟩; have h2 := h2.symm; subst h2)
  go_ret
  exact ⟨⟨_, rfl, held_lies HHr.out (Blk.new _ _ _)⟩, HB1.out.alloc HB1.out.size _⟩
end Go.Proofs.YtpbnjobjjnhplaaDoor.Oct

namespace Go.Proofs.YtpbnjobjjnhplaaDoor.Oct
open Go.RowKit

theorem run_append_Q {ty : TypeId} (w : World) (B : Nat) (v : Value) (O : List M4) (hown : OwnP 61 w B v O) (b n : Nat) (z : M4) (hc : ∀ j u, (encPm z)[j]? = some u → w.cell? ⟨b, j, none⟩ = some u) (hlen : O.length + 1 ≤ 10000000) (hB : B ≤ w.heap.size) :
    ∃ v' w', (Builtin.append_ #[48, 48] ty #[v, .slice (some ⟨b, 0, none⟩) 1 n]).run Tryd.prog w = .ok v' w' ∧ OwnP 61 w' B v' (O ++ [z]) ∧ w.grownBy w' v.ownBlock := by
  obtain ⟨i, hi, hz0, hz1, hz2⟩ := info_parts infoP
  obtain ⟨v', w', hrun, ho, hg, _, _⟩ := run_append_own_at (P := Tryd.prog) w B 48 ty 61 i (.agg #[.int .i64 0, .int .i64 0, .int .i64 0, .int .i64 0]) 4 32 Tryd.underlying48 hi hz0 hz1 hz2 rfl (by decide) v O.length (O.flatMap encPm) hown ⟨b, 0, none⟩ 1 n (encPm z) rfl
    (fun j u hj => by rw [Go.WideShapes.add_plain, Nat.zero_add]; exact hc j u hj) (by
      intro u hu
      simp [encPm] at hu
      rcases hu with rfl | rfl | rfl | rfl <;> rfl) (by unfold maxLen; omega) (by omega) hB
  refine ⟨v', w', hrun, ?_, hg⟩
  unfold OwnP
  rw [List.flatMap_append, List.length_append]
  simpa using ho

theorem OwnP.lowG {T : Nat} {w : World} {B B' : Nat} {v : Value} {L : List M4} (h : OwnP T w B v L) (hb : B' ≤ B) : OwnP T w B' v L := by
  refine ⟨h.1, ?_⟩
  rcases h.2 with h1 | ⟨g, cap, cur, h1, hg, hr⟩
  · exact Or.inl h1
  · exact Or.inr ⟨g, cap, cur, h1, Nat.le_trans hb hg, hr⟩

theorem part_x (w : World) (c0 c1 c2 c3 : Value) : (part 59 #[c0, c1, c2, c3] 0).run Tryd.prog w = .ok (.agg #[c0, c1]) w := by
  have hagg : (isAgg 59).run Tryd.prog w = .ok true w := by
    unfold isAgg
    rw [Sem.run_bind, run_underlying Tryd.underlying59 w]
    rfl
  have hi : (Tryd.prog.info? 59).map (·.size) = some 2 := by kernel_rfl
  cases hq : Tryd.prog.info? 59 with
  | none => simp [hq] at hi
  | some i =>
    have hs : i.size = 2 := by simpa [hq] using hi
    simp [part, hagg, sizeOf, typeInfo, hq, hs]

theorem eq_i64d (w : World) (d : Nat) (x y : Int) : (Op.equalIn (d + 1) 2 (.int .i64 x) (.int .i64 y)).run Tryd.prog w = .ok (decide (x = y)) w := run_equalIn_int w d 2 .i64 .i64 x y Tryd.underlying2
theorem eq_intd (w : World) (d : Nat) (x y : Int) : (Op.equalIn (d + 1) 3 (.int .i64 x) (.int .i64 y)).run Tryd.prog w = .ok (decide (x = y)) w := run_equalIn_int w d 3 .i64 .i64 x y Tryd.underlying3

theorem eqX_same (w : World) (x1 x2 : Int) : (Op.equalIn 9999 59 (.agg #[.int .i64 x1, .int .i64 x2]) (.agg #[.int .i64 x1, .int .i64 x2])).run Tryd.prog w = .ok (decide True) w := by
  refine (run_equalIn_agg w 9998 59 _ _ (by kernel_rfl) (by kernel_rfl)).trans ?_
  have hf : (Tryd.prog.fieldsOf 59).toList.map (fun f => (f.name, f.type, f.offset)) = [("From", 2, 0), ("To", 2, 1)] := by kernel_rfl
  obtain ⟨fs, hfs⟩ : ∃ fs, fs = (Tryd.prog.fieldsOf 59).toList := ⟨_, rfl⟩
  rw [← hfs] at hf ⊢
  clear hfs
  have hl : fs.length = 2 := by simpa using congrArg List.length hf
  obtain ⟨f, g, rfl⟩ : ∃ f g, fs = [f, g] := by match fs, hl with | [f, g], _ => exact ⟨f, g, rfl⟩
  simp only [List.map_cons, List.map_nil, List.cons.injEq, Prod.mk.injEq, and_true] at hf
  obtain ⟨⟨f1, f2, f3⟩, g1, g2, g3⟩ := hf
  have p0 : (part 2 #[.int .i64 x1, .int .i64 x2] 0).run Tryd.prog w = .ok (.int .i64 x1) w := by go_simp
  have p1 : (part 2 #[.int .i64 x1, .int .i64 x2] 1).run Tryd.prog w = .ok (.int .i64 x2) w := by go_simp
  have h1 := eqFields_step (P := Tryd.prog) (w := w) (d := 9998) (xs := #[.int .i64 x1, .int .i64 x2]) (ys := #[.int .i64 x1, .int .i64 x2]) (f := g) (fs := []) (p := x2 = x2) (q := True) (by rw [g1]; decide) (by rw [g2, g3]; exact p1) (by rw [g2, g3]; exact p1) (by rw [g2]; exact eq_i64d w 9997 x2 x2) (by simp [Op.eqFields])
  have h0 := eqFields_step (P := Tryd.prog) (w := w) (d := 9998) (xs := #[.int .i64 x1, .int .i64 x2]) (ys := #[.int .i64 x1, .int .i64 x2]) (f := f) (fs := [g]) (p := x1 = x1) (by rw [f1]; decide) (by rw [f2, f3]; exact p0) (by rw [f2, f3]; exact p0) (by rw [f2]; exact eq_i64d w 9997 x1 x1) h1
  refine h0.trans ?_
  simp

theorem eqP_same (w : World) (x0 x1 x2 x3 : Int) : (Op.equalIn 10000 61 (.agg #[.int .i64 x0, .int .i64 x1, .int .i64 x2, .int .i64 x3]) (.agg #[.int .i64 x0, .int .i64 x1, .int .i64 x2, .int .i64 x3])).run Tryd.prog w = .ok (decide True) w := by
  refine (run_equalIn_agg w 9999 61 _ _ (by kernel_rfl) (by kernel_rfl)).trans ?_
  have hf : (Tryd.prog.fieldsOf 61).toList.map (fun f => (f.name, f.type, f.offset)) = [("Ext", 59, 0), ("Type", 3, 2), ("Slot", 3, 3)] := by kernel_rfl
  obtain ⟨fs, hfs⟩ : ∃ fs, fs = (Tryd.prog.fieldsOf 61).toList := ⟨_, rfl⟩
  rw [← hfs] at hf ⊢
  clear hfs
  have hl : fs.length = 3 := by simpa using congrArg List.length hf
  obtain ⟨f, g, k, rfl⟩ : ∃ f g k, fs = [f, g, k] := by match fs, hl with | [f, g, k], _ => exact ⟨f, g, k, rfl⟩
  simp only [List.map_cons, List.map_nil, List.cons.injEq, Prod.mk.injEq, and_true] at hf
  obtain ⟨⟨f1, f2, f3⟩, ⟨g1, g2, g3⟩, k1, k2, k3⟩ := hf
  have p2 : (part 3 #[.int .i64 x0, .int .i64 x1, .int .i64 x2, .int .i64 x3] 2).run Tryd.prog w = .ok (.int .i64 x2) w := by go_simp
  have p3 : (part 3 #[.int .i64 x0, .int .i64 x1, .int .i64 x2, .int .i64 x3] 3).run Tryd.prog w = .ok (.int .i64 x3) w := by go_simp
  have h2 := eqFields_step (P := Tryd.prog) (w := w) (d := 9999) (xs := #[.int .i64 x0, .int .i64 x1, .int .i64 x2, .int .i64 x3]) (ys := #[.int .i64 x0, .int .i64 x1, .int .i64 x2, .int .i64 x3]) (f := k) (fs := []) (p := x3 = x3) (q := True) (by rw [k1]; decide) (by rw [k2, k3]; exact p3) (by rw [k2, k3]; exact p3) (by rw [k2]; exact eq_intd w 9998 x3 x3) (by simp [Op.eqFields])
  have h1 := eqFields_step (P := Tryd.prog) (w := w) (d := 9999) (xs := #[.int .i64 x0, .int .i64 x1, .int .i64 x2, .int .i64 x3]) (ys := #[.int .i64 x0, .int .i64 x1, .int .i64 x2, .int .i64 x3]) (f := g) (fs := [k]) (p := x2 = x2) (by rw [g1]; decide) (by rw [g2, g3]; exact p2) (by rw [g2, g3]; exact p2) (by rw [g2]; exact eq_intd w 9998 x2 x2) h2
  have h0 := eqFields_step (P := Tryd.prog) (w := w) (d := 9999) (xs := #[.int .i64 x0, .int .i64 x1, .int .i64 x2, .int .i64 x3]) (ys := #[.int .i64 x0, .int .i64 x1, .int .i64 x2, .int .i64 x3]) (f := f) (fs := [g, k]) (p := True) (by rw [f1]; decide) (by rw [f2, f3]; exact part_x w _ _ _ _) (by rw [f2, f3]; exact part_x w _ _ _ _) (by rw [f2]; exact eqX_same w x0 x1) h1
  refine h0.trans ?_
  simp

theorem neqP_same (w : World) (x0 x1 x2 x3 : Int) : (binOp .neq 61 (.agg #[.int .i64 x0, .int .i64 x1, .int .i64 x2, .int .i64 x3]) (.agg #[.int .i64 x0, .int .i64 x1, .int .i64 x2, .int .i64 x3])).run Tryd.prog w = .ok (.bool false) w := by
  rw [run_neq_struct, eqP_same]
  rfl
theorem guard_P (w : World) (op : BinOp) (p q : Operand) (xs ys : Array Value) : (eqGuard op 61 p q (.agg xs) (.agg ys)).run Tryd.prog w = .ok () w := run_eqGuard_agg w op _ _ _ _ _ (by kernel_rfl)

set_option maxHeartbeats 2000000 in
set_option maxRecDepth 100000 in
theorem sameparts_any (w : World) (a b : Option Addr) (ca cb : Nat) (L : List M4) (hA : LiesP w a L) (hB : LiesP w b L) (hl : L.length ≤ 1000000) :
    Calls Tryd.prog 16 #[.slice a L.length ca, .slice b L.length cb] w fun e w' => e = .returned (.bool true) ∧ Below w.heap.size w w' := by
  obtain ⟨n, hn⟩ : ∃ n, L.length = n := ⟨_, rfl⟩
  have HnA := hide hn
  rw [hn]
  have hnl : n ≤ 1000000 := by omega
  clear hl hn
  go_enter Tryd.func16, Tryd.ntmps16
  go_wp2_with fail
  go_loopw [5] (fun i wr => ∃ k : Nat, k ≤ n ∧ i = .int .i64 k ∧ Below w.heap.size w wr) (fun i _ => n - (intOf i).toNat)
  case atStart => exact ⟨0, by omega, by simp, Below.refl _ _⟩
  case round =>
    obtain ⟨k, hk, rfl, hbel⟩ := hrel
    have HB := hide hbel
    by_cases hlt : k < n
    · rcases hA.below hbel with hnil | ⟨ba, oa, rfl, hba, hca⟩
      · have := HnA.out
        rw [hnil] at this
        simp at this
        omega
      rcases hB.below hbel with hnil | ⟨bb, ob, rfl, hbb, hcb⟩
      · have := HnA.out
        rw [hnil] at this
        simp at this
        omega
      obtain ⟨p0, p1, p2, p3⟩ := hca k (by rw [HnA.out]; exact hlt)
      obtain ⟨q0, q1, q2, q3⟩ := hcb k (by rw [HnA.out]; exact hlt)
      have hk0 : (0 : Int) ≤ (k : Int) := by omega
      have hk1 : (k : Int) < (n : Int) := by omega
      obtain ⟨x, hx⟩ : ∃ x, x = L.getD k zm4 := ⟨_, rfl⟩
      rw [← hx] at p0 p1 p2 p3 q0 q1 q2 q3
      obtain ⟨x0, x1, x2, x3⟩ := x
      dsimp only at p0 p1 p2 p3 q0 q1 q2 q3
      have hgd := fun (u : World) (p q : Operand) => guard_P u .neq p q #[.int .i64 x0, .int .i64 x1, .int .i64 x2, .int .i64 x3] #[.int .i64 x0, .int .i64 x1, .int .i64 x2, .int .i64 x3]
      have hq := fun u : World => neqP_same u x0 x1 x2 x3
      clear hx hca hcb hbel hA hB
      go_wp2_with fail
      go_quiet (fail)
      go_wp2_with fail
      go_roundw
      case rel => exact ⟨k + 1, by omega, by go_num, below_ahead HB.out _⟩
      case measure => simp [intOf]; omega
    · obtain rfl : k = n := by omega
      clear hbel hA hB
      go_wp2_with fail
      go_ret
      exact ⟨rfl, HB.out⟩

set_option maxHeartbeats 8000000 in
set_option maxRecDepth 100000 in
theorem rparts_any (t : Tb) (vi : Value) (a : Option Addr) (cap : Nat) (hok : ∀ x ∈ t.L, x.ok) (hnr : ∀ x ∈ t.L, x.none = false → nearG x.fi ∧ nearG x.la) (hlen : t.L.length ≤ 1000000) (w : World) (hl : LiesD w a t.L) :
    Calls Tryd.prog 18 #[.agg (t.rc vi (.slice a t.L.length cap))] w fun e w' => (∃ v, e = .returned v ∧ OwnP 61 w' w.heap.size v (prtG t.L t.L.length)) ∧ Below w.heap.size w w' := by
  obtain ⟨n, hn⟩ : ∃ n, n = t.L.length := ⟨_, rfl⟩
  have HHn := hide hn
  rw [← hn]
  obtain ⟨w1, hw1⟩ : ∃ w1, w1 = w.alloc (.cells (t.rc vi (.slice a n cap)) 34) := ⟨_, rfl⟩
  obtain ⟨R, hR⟩ : ∃ R, R = w.heap.size := ⟨_, rfl⟩
  have hb1 : Below w.heap.size w w1 := by rw [hw1]; exact (Below.refl _ _).alloc (Nat.le_refl _) _
  have hk1 : Blk w1 R (t.rc vi (.slice a n cap)) 34 := by rw [hw1, hR]; exact Blk.new _ _ _
  have HR := hide hR
  have HW1 := hide hw1
  have HOk := hide hok
  have HNr := hide hnr
  have HL1 := hide (hl.below hb1)
  have HK1 := hide hk1
  have HB1 := hide hb1
  have HRl := hide (show w1.heap.size = R + 1 by rw [hw1, hR]; simp)
  have hln : n ≤ 1000000 := by omega
  obtain ⟨c0, c1, c2, c3, c4, c5⟩ := rc_cells hk1
  clear hok hnr hlen hl hn hw1 hR hb1 hk1
  go_enter Tryd.func18, Tryd.ntmps18
  go_upto_region 1 with fail
  rw [← HW1.out, ← HR.out]
  go_wp2_with fail
  clear c0 c1 c2 c3 c4 c5
  go_loopw [3, 4] (fun v i wr => ∃ k : Nat, k ≤ n ∧ i = .int .i64 (k : Int) ∧ OwnP 61 wr (R + 1) v (prtG t.L k) ∧ Below w1.heap.size w1 wr) (fun _ i _ => n - (intOf i).toNat)
  case atStart => exact ⟨0, by omega, by simp, OwnP.nil _ _ _, Below.refl _ _⟩
  case round =>
    obtain ⟨k, hk, rfl, how, hbr⟩ := hrel
    have HOw := hide how
    have HBr := hide hbr
    obtain ⟨c0, c1, c2, c3, c4, c5⟩ := rc_cells (HK1.out.below hbr)
    clear how hbr
    by_cases hlt : k < n
    case neg =>
      obtain rfl : k = n := by omega
      go_wp2_with fail
      go_ret
      refine ⟨⟨_, rfl, ?_⟩, HB1.out.trans (HBr.out.mono HB1.out.size)⟩
      exact OwnP.lowG HOw.out (by have := HR.out; omega)
    obtain ⟨x, hx⟩ : ∃ x, t.L[k]? = some x := ⟨_, List.getElem?_eq_getElem (by rw [← HHn.out]; exact hlt)⟩
    have hxm : x ∈ t.L := List.mem_of_getElem? hx
    have HXo := hide (HOk.out x hxm)
    have HXn := hide (HNr.out x hxm)
    have HSk := hide (prtG_succ t.L k x hx)
    rcases HL1.out with hnil | ⟨b, off, rfl, hb, hc⟩
    · rw [hnil] at hx; simp at hx
    obtain ⟨v1, v2, q0, q1, q2, q3, ⟨a1, d1, rfl, s1⟩, _⟩ := hc k x hx
    have HS1 := hide (s1.below HBr.out)
    rw [HXo.out.1] at q0
    have HQ := fun u (hu : Below w1.heap.size w1 u) => hide (show u.cell? ⟨R, 4, none⟩ = _ ∧ u.cell? ⟨b, off + k * 4, none⟩ = _ ∧ u.cell? ⟨b, off + k * 4 + 1, none⟩ = _ ∧ u.cell? ⟨b, off + k * 4 + 2, none⟩ = _ from ⟨(HK1.out.below hu).cell 4 _ rfl, (hu.cell (p := ⟨b, _, none⟩) hb).trans q0, (hu.cell (p := ⟨b, _, none⟩) hb).trans q1, (hu.cell (p := ⟨b, _, none⟩) hb).trans q2⟩)
    have hk0 : (0 : Int) ≤ (k : Int) := by omega
    have hk1 : (k : Int) < (n : Int) := by omega
    have hd1 : (32 : Nat) ≤ d1 := by have := s1.le; rw [HXo.out.1] at this; exact this
    have k5 : ¬ (d1 : Int) < 16 := by omega
    obtain ⟨y4, y0, y1, y2⟩ := (HQ _ HBr.out).out
    clear hc hb hx hxm s1 q0 q1 q2 q3
    rcases HS1.out.lies with hnil | ⟨b1, o1, rfl, _, _⟩
    · have := HXo.out.1; rw [hnil] at this; simp at this
    have HZ1 := hide (show Calls Tryd.prog 31 #[.slice (some ⟨b1, o1, none⟩) 16 d1] wr fun e w' => e = .returned (.bool x.none) ∧ w' = wr by
      have h := IsZero_any (some ⟨b1, o1, none⟩) d1 (x.ids.take 16) wr (by rw [List.length_take]; unfold maxLen; omega) (HS1.out.lies.takeG 16)
      have hl : (x.ids.take 16).length = 16 := by rw [List.length_take, HXo.out.1]; omega
      rw [allZ_rep, hl] at h
      exact h)
    obtain ⟨bn, hbn⟩ : ∃ bn, bn = x.none := ⟨_, rfl⟩
    have HBn := hide hbn
    rw [← hbn] at HZ1
    clear hbn
    cases bn
    case true =>
      have HSk2 := hide (show prtG t.L (k + 1) = prtG t.L k by rw [HSk.out, ← HBn.out, if_pos rfl, List.append_nil])
      go_wp2_with (go_at_call 31; refine HZ1.out.mono ?_; rintro e9 w6 ⟨rfl, h6⟩; have h6 := h6.symm; subst h6)
      go_roundw
      case rel => exact ⟨k + 1, by omega, by go_num, by rw [HSk2.out]; exact HOw.out, HBr.out⟩
      case measure => simp [intOf]; omega
    have HSk2 := hide (show prtG t.L (k + 1) = prtG t.L k ++ [partP (x.fi, x.la, k)] by rw [HSk.out, ← HBn.out, if_neg (by decide)])
    have hne := HXn.out HBn.out.symm
    unfold nearG at hne
    have e1 : IntKind.i64.wrap (x.fi * 512) = x.fi * 512 := by rw [IntKind.wrap_i64]; omega
    have e2 : IntKind.i64.wrap (x.la * 512) = x.la * 512 := by rw [IntKind.wrap_i64]; omega
    have e3 : IntKind.i64.wrap (x.la * 512 + 512) = (x.la + 1) * 512 := by rw [IntKind.wrap_i64]; omega
    clear hne
    obtain ⟨fi, hfi⟩ : ∃ fi, fi = x.fi := ⟨_, rfl⟩
    obtain ⟨la, hla⟩ : ∃ la, la = x.la := ⟨_, rfl⟩
    rw [← hfi] at y1 e1 HSk2 HQ
    rw [← hla] at y2 e2 e3 HSk2 HQ
    clear hfi hla HSk HXn
    go_upto_region 6 with (go_at_call 31; refine HZ1.out.mono ?_; rintro e9 w6 ⟨rfl, h6⟩; have h6 := h6.symm; subst h6)
    obtain ⟨wz, hwz⟩ : ∃ wz, wz = wr := ⟨_, rfl⟩
    rw [← hwz] at HOw HBr ⊢
    clear c0 c1 c2 c3 c4 c5 y4 y0 y1 y2
    clear hwz
    have hbX : Below wz.heap.size wz (wz.alloc (.cells #[.int .i64 (fi * 512), .int .i64 ((la + 1) * 512), .int .i64 0, .int .i64 (k : Int)] 61)).drew := ((Below.refl _ _).alloc (Nat.le_refl _) _).drew
    have HO6 := hide (OwnP.below HOw.out hbX)
    have HK6 := hide ((Blk.new wz #[.int .i64 (fi * 512), .int .i64 ((la + 1) * 512), .int .i64 0, .int .i64 (k : Int)] 61).drew)
    obtain ⟨wy, hwy⟩ : ∃ wy, wy = (wz.alloc (.cells #[.int .i64 (fi * 512), .int .i64 ((la + 1) * 512), .int .i64 0, .int .i64 (k : Int)] 61)).drew := ⟨_, rfl⟩
    rw [← hwy] at HO6 HK6 hbX
    have HLn := hide (show (prtG t.L k).length + 1 ≤ 10000000 by have := prtG_len t.L k; omega)
    have HRy := hide (show R + 1 ≤ wy.heap.size by have h1 := hbX.size; have h2 := HBr.out.size; have h3 := HRl.out; omega)
    obtain ⟨v8, w8, hrun, ho8, hg8⟩ := run_append_Q (ty := 48) wy (R + 1) _ (prtG t.L k) HO6.out wz.heap.size 1 (partP (fi, la, k)) (fun j u hj => HK6.out.cell j u (by simpa [encPm, partP] using hj)) HLn.out HRy.out
    have HO8 := hide ho8
    have HBy := hide (show Below w1.heap.size w1 wy from HBr.out.trans (hbX.mono HBr.out.size))
    have HB8 := hide (show Below w1.heap.size w1 w8 from HBy.out.trans (Chg.below w1.heap.size (Chg.of_grown hg8) HBy.out.size (fun i hi e => by have := OwnP.baseG HO6.out i e.symm; have := HRl.out; omega)))

    have HWy := hide hwy
    have HS0 : (show World → Prop from fun u => Below w1.heap.size w1 u) wz.drew := HBr.out.trans ((Below.refl _ _).drew.mono HBr.out.size)
    have HSy : (show World → Prop from fun u => Below w1.heap.size w1 u) wy := HBy.out
    have HS8 : (show World → Prop from fun u => Below w1.heap.size w1 u) w8 := HB8.out
    clear hwy hbX ho8 hg8

    refine b_region (S := fun u => Below w1.heap.size w1 u) (F := (fun _ => true)) (by kernel_rfl) ?_
    refine b_take 0 (some 21) (u3) rfl rfl (by kernel_rfl) (by kernel_rfl) (by kernel_rfl) (by kernel_rfl) (by kernel_rfl) (fun _ _ _ h => h) (by rfl) HS0 ?_ ?_
    · intro u hSu
      have hSu := hSu
      go_simp
    try simp only [Act.put, List.setIfInBounds_toArray, List.set_cons_zero, List.set_cons_succ]
    refine b_take 1 (some 22) (.pointer (some ⟨R, 4, none⟩)) rfl rfl (by kernel_rfl) (by kernel_rfl) (by kernel_rfl) (by kernel_rfl) (by kernel_rfl) (fun _ _ _ h => h) (by rfl) HS0 ?_ ?_
    · intro u hSu
      have hSu := hSu
      go_simp
    try simp only [Act.put, List.setIfInBounds_toArray, List.set_cons_zero, List.set_cons_succ]
    refine b_take 2 (some 23) (.slice (some ⟨b, off, none⟩) n cap) rfl rfl (by kernel_rfl) (by kernel_rfl) (by kernel_rfl) (by kernel_rfl) (by kernel_rfl) (fun _ _ _ h => h) (by rfl) HS0 ?_ ?_
    · intro u hSu
      have hSu := hSu
      obtain ⟨y4, y0, y1, y2⟩ := (HQ _ hSu).out
      go_simp
    try simp only [Act.put, List.setIfInBounds_toArray, List.set_cons_zero, List.set_cons_succ]
    refine b_take 3 (some 24) (.int .i64 (k : Int)) rfl rfl (by kernel_rfl) (by kernel_rfl) (by kernel_rfl) (by kernel_rfl) (by kernel_rfl) (fun _ _ _ h => h) (by rfl) HS0 ?_ ?_
    · intro u hSu
      have hSu := hSu
      go_simp
    try simp only [Act.put, List.setIfInBounds_toArray, List.set_cons_zero, List.set_cons_succ]
    refine b_take 4 (some 25) (.pointer (some ⟨b, off + k * 4, none⟩)) rfl rfl (by kernel_rfl) (by kernel_rfl) (by kernel_rfl) (by kernel_rfl) (by kernel_rfl) (fun _ _ _ h => h) (by rfl) HS0 ?_ ?_
    · intro u hSu
      have hSu := hSu
      go_simp
    try simp only [Act.put, List.setIfInBounds_toArray, List.set_cons_zero, List.set_cons_succ]
    refine b_take 5 (some 26) (.pointer (some ⟨b, off + k * 4 + 1, none⟩)) rfl rfl (by kernel_rfl) (by kernel_rfl) (by kernel_rfl) (by kernel_rfl) (by kernel_rfl) (fun _ _ _ h => h) (by rfl) HS0 ?_ ?_
    · intro u hSu
      have hSu := hSu
      go_simp
    try simp only [Act.put, List.setIfInBounds_toArray, List.set_cons_zero, List.set_cons_succ]
    refine b_take 6 (some 27) (.int .i64 fi) rfl rfl (by kernel_rfl) (by kernel_rfl) (by kernel_rfl) (by kernel_rfl) (by kernel_rfl) (fun _ _ _ h => h) (by rfl) HS0 ?_ ?_
    · intro u hSu
      have hSu := hSu
      obtain ⟨y4, y0, y1, y2⟩ := (HQ _ hSu).out
      go_simp
    try simp only [Act.put, List.setIfInBounds_toArray, List.set_cons_zero, List.set_cons_succ]
    refine b_take 7 (some 28) (.int .i64 (fi * 512)) rfl rfl (by kernel_rfl) (by kernel_rfl) (by kernel_rfl) (by kernel_rfl) (by kernel_rfl) (fun _ _ _ h => h) (by rfl) HS0 ?_ ?_
    · intro u hSu
      have hSu := hSu
      have e1 := e1
      go_simp
    try simp only [Act.put, List.setIfInBounds_toArray, List.set_cons_zero, List.set_cons_succ]
    refine b_take 8 (some 29) (.pointer (some ⟨R, 4, none⟩)) rfl rfl (by kernel_rfl) (by kernel_rfl) (by kernel_rfl) (by kernel_rfl) (by kernel_rfl) (fun _ _ _ h => h) (by rfl) HS0 ?_ ?_
    · intro u hSu
      have hSu := hSu
      go_simp
    try simp only [Act.put, List.setIfInBounds_toArray, List.set_cons_zero, List.set_cons_succ]
    refine b_take 9 (some 30) (.slice (some ⟨b, off, none⟩) n cap) rfl rfl (by kernel_rfl) (by kernel_rfl) (by kernel_rfl) (by kernel_rfl) (by kernel_rfl) (fun _ _ _ h => h) (by rfl) HS0 ?_ ?_
    · intro u hSu
      have hSu := hSu
      obtain ⟨y4, y0, y1, y2⟩ := (HQ _ hSu).out
      go_simp
    try simp only [Act.put, List.setIfInBounds_toArray, List.set_cons_zero, List.set_cons_succ]
    refine b_take 10 (some 31) (.int .i64 (k : Int)) rfl rfl (by kernel_rfl) (by kernel_rfl) (by kernel_rfl) (by kernel_rfl) (by kernel_rfl) (fun _ _ _ h => h) (by rfl) HS0 ?_ ?_
    · intro u hSu
      have hSu := hSu
      go_simp
    try simp only [Act.put, List.setIfInBounds_toArray, List.set_cons_zero, List.set_cons_succ]
    refine b_take 11 (some 32) (.pointer (some ⟨b, off + k * 4, none⟩)) rfl rfl (by kernel_rfl) (by kernel_rfl) (by kernel_rfl) (by kernel_rfl) (by kernel_rfl) (fun _ _ _ h => h) (by rfl) HS0 ?_ ?_
    · intro u hSu
      have hSu := hSu
      go_simp
    try simp only [Act.put, List.setIfInBounds_toArray, List.set_cons_zero, List.set_cons_succ]
    refine b_take 12 (some 33) (.pointer (some ⟨b, off + k * 4 + 2, none⟩)) rfl rfl (by kernel_rfl) (by kernel_rfl) (by kernel_rfl) (by kernel_rfl) (by kernel_rfl) (fun _ _ _ h => h) (by rfl) HS0 ?_ ?_
    · intro u hSu
      have hSu := hSu
      go_simp
    try simp only [Act.put, List.setIfInBounds_toArray, List.set_cons_zero, List.set_cons_succ]
    refine b_take 13 (some 34) (.int .i64 la) rfl rfl (by kernel_rfl) (by kernel_rfl) (by kernel_rfl) (by kernel_rfl) (by kernel_rfl) (fun _ _ _ h => h) (by rfl) HS0 ?_ ?_
    · intro u hSu
      have hSu := hSu
      obtain ⟨y4, y0, y1, y2⟩ := (HQ _ hSu).out
      go_simp
    try simp only [Act.put, List.setIfInBounds_toArray, List.set_cons_zero, List.set_cons_succ]
    refine b_take 14 (some 35) (.int .i64 (la * 512)) rfl rfl (by kernel_rfl) (by kernel_rfl) (by kernel_rfl) (by kernel_rfl) (by kernel_rfl) (fun _ _ _ h => h) (by rfl) HS0 ?_ ?_
    · intro u hSu
      have hSu := hSu
      have e2 := e2
      go_simp
    try simp only [Act.put, List.setIfInBounds_toArray, List.set_cons_zero, List.set_cons_succ]
    refine b_take 15 (some 36) (.int .i64 ((la + 1) * 512)) rfl rfl (by kernel_rfl) (by kernel_rfl) (by kernel_rfl) (by kernel_rfl) (by kernel_rfl) (fun _ _ _ h => h) (by rfl) HS0 ?_ ?_
    · intro u hSu
      have hSu := hSu
      have e3 := e3
      go_simp
    try simp only [Act.put, List.setIfInBounds_toArray, List.set_cons_zero, List.set_cons_succ]
    refine b_take 16 (some 37) (.agg #[.int .i64 (fi * 512), .int .i64 ((la + 1) * 512)]) rfl rfl (by kernel_rfl) (by kernel_rfl) (by kernel_rfl) (by kernel_rfl) (by kernel_rfl) (fun _ _ _ h => h) (by rfl) HS0 ?_ ?_
    · intro u hSu
      have hSu := hSu
      go_simp
    try simp only [Act.put, List.setIfInBounds_toArray, List.set_cons_zero, List.set_cons_succ]
    refine b_take 17 (some 38) (.int .i64 (k : Int)) rfl rfl (by kernel_rfl) (by kernel_rfl) (by kernel_rfl) (by kernel_rfl) (by kernel_rfl) (fun _ _ _ h => h) (by rfl) HS0 ?_ ?_
    · intro u hSu
      have hSu := hSu
      go_simp
    try simp only [Act.put, List.setIfInBounds_toArray, List.set_cons_zero, List.set_cons_succ]
    refine b_take 18 (some 39) (.agg #[.int .i64 (fi * 512), .int .i64 ((la + 1) * 512), .int .i64 0, .int .i64 (k : Int)]) rfl rfl (by kernel_rfl) (by kernel_rfl) (by kernel_rfl) (by kernel_rfl) (by kernel_rfl) (fun _ _ _ h => h) (by rfl) HS0 ?_ ?_
    · intro u hSu
      have hSu := hSu
      go_simp
    try simp only [Act.put, List.setIfInBounds_toArray, List.set_cons_zero, List.set_cons_succ]
    refine b_ready (rs := [19]) (by kernel_rfl) (by simp) ?_
    refine AllReadyB.cons (i := 19) rfl (fun K hK => ?_) AllReadyB.nil
    go_simp
    rw [← HWy.out]
    go_simp
    refine hK.out _ _ (fun _ => HSy) ?_
    clear hK K
    try simp only [Act.put, List.setIfInBounds_toArray, List.set_cons_zero, List.set_cons_succ]
    refine b_val 20 (some 41) v8 w8 (by kernel_rfl) rfl rfl rfl (exec_apG rfl rfl rfl hrun) (fun _ => HS8) ?_
    try simp only [Act.put, List.setIfInBounds_toArray, List.set_cons_zero, List.set_cons_succ]
    refine b_take 21 (some 3) (v8) rfl rfl (by kernel_rfl) (by kernel_rfl) (by kernel_rfl) (by kernel_rfl) (by kernel_rfl) (fun _ _ _ h => h) (by rfl) HS8 ?_ ?_
    · intro u hSu
      have hSu := hSu
      go_simp
    try simp only [Act.put, List.setIfInBounds_toArray, List.set_cons_zero, List.set_cons_succ]
    refine b_done (by kernel_rfl) ?_ _

    go_wp2_with fail
    go_roundw
    case rel => exact ⟨k + 1, by omega, by go_num, by rw [HSk2.out]; exact HO8.out, HB8.out⟩
    case measure => simp [intOf]; omega
end Go.Proofs.YtpbnjobjjnhplaaDoor.Oct

namespace Go.Proofs.YtpbnjobjjnhplaaDoor.Oct
open Go.RowKit

set_option maxHeartbeats 8000000 in
set_option maxRecDepth 100000 in
theorem gptParts_walk (hSS : SortSays) (t : Tb) (a : Option Addr) (cap : Nat) (hid : t.id.length = 16) (hok : ∀ x ∈ t.L, x.ok) (w : World) (hl : LiesEn w a t.L) (hV : VarG w) :
    Calls Tryd.prog 6 #[.agg (t.cells (.slice a t.L.length cap)).toArray] w fun e w' => e = .returned (.bool true) ∧ Below w.heap.size w w' := by
  have HLi := fun u => hide (light_any t a t.L.length cap hid u)
  have HLa := fun u hv => hide (laid_ok hSS u hv)
  obtain ⟨cs, hcs⟩ : ∃ cs, cs = (t.cells (.slice a t.L.length cap)).toArray := ⟨_, rfl⟩
  have hsz : cs.size = 22 := by rw [hcs]; exact tb_size hid
  have HSz := hide hsz
  rw [← hcs] at HLi ⊢
  obtain ⟨R, hR⟩ : ∃ R, R = w.heap.size := ⟨_, rfl⟩
  obtain ⟨w1, hw1⟩ : ∃ w1, w1 = w.alloc (.cells cs 25) := ⟨_, rfl⟩
  have hb1 : Below w.heap.size w w1 := by rw [hw1]; exact (Below.refl _ _).alloc (Nat.le_refl _) _
  have hk1 : Blk w1 R cs 25 := by rw [hw1, hR]; exact Blk.new _ _ _
  have HR := hide hR
  have HW1 := hide hw1
  have HK1 := hide hk1
  have HB1 := hide hb1
  have HL1 := hide (hl.below hb1)
  have HV1 := hide (hV.below hb1)
  by_cases hn : t.L.length ≤ 140
  case neg =>
    have hd := hide (show decide ((t.L.length : Int) ≤ 140) = false by simpa using by omega)
    obtain ⟨B, hB⟩ : ∃ B, B = decide ((t.L.length : Int) ≤ 140) := ⟨_, rfl⟩
    rw [← hB] at HLi hd
    have hBf : B = false := hd.out
    subst hBf
    clear hSS hid hok hl hV hcs hsz hR hw1 hb1 hk1 hn hd hB
    go_enter Tryd.func6, Tryd.ntmps6
    go_upto_region 1 with fail
    rw [← HW1.out, ← HR.out]
    go_wp2_with (first | (refine wpList_isop (.load 25 (.tmp 1)) rfl ?_; first | refine wpList_exec rfl (exec_ld rfl rfl (loadT HK1.out HSz.out)) ?_ | refine wpList_execW (by kernel_rfl) (exec_ld rfl rfl (loadT HK1.out HSz.out)) ?_) | (go_at_call 7; refine (HLi _).out.mono ?_; rintro e w2 ⟨rfl, hb⟩; have HB2 := hide (HB1.out.trans (hb.mono HB1.out.size)); have HV2 := hide (HV1.out.below hb); clear hb) | (go_at_call 8; refine (HLa _ HV2.out).out.mono ?_; rintro e w3 ⟨rfl, hb⟩; have HB3 := hide (HB2.out.trans (hb.mono HB2.out.size)); clear hb))
    go_ret
    exact ⟨rfl, HB3.out⟩
  have HCk := fun u hu => hide (Check_any hSS t a cap cs hcs hid hok (by omega) u hu)
  obtain ⟨B, hB⟩ : ∃ B, B = decide ((t.L.length : Int) ≤ 140) := ⟨_, rfl⟩
  rw [← hB] at HLi
  have hBt : B = true := by rw [hB]; simpa using by omega
  subst hBt
  clear hB
  by_cases hch : t.chk = 0
  case neg =>
    have hne : (t.chk != 0) = true := by simpa using hch
    obtain ⟨er, her⟩ : ∃ er, er = t.chk := ⟨_, rfl⟩
    rw [← her] at HCk hne
    clear hSS hid hok hl hV hcs hsz hR hw1 hb1 hk1 hn hch her
    go_enter Tryd.func6, Tryd.ntmps6
    go_upto_region 1 with fail
    rw [← HW1.out, ← HR.out]
    go_wp2_with (first | (refine wpList_isop (.load 25 (.tmp 1)) rfl ?_; first | refine wpList_exec rfl (exec_ld rfl rfl (loadT HK1.out HSz.out)) ?_ | refine wpList_execW (by kernel_rfl) (exec_ld rfl rfl (loadT HK1.out HSz.out)) ?_) | (refine wpList_isop (.load 25 (.tmp 1)) rfl ?_; first | refine wpList_exec rfl (exec_ld rfl rfl (loadT HK2.out HSz.out)) ?_ | refine wpList_execW (by kernel_rfl) (exec_ld rfl rfl (loadT HK2.out HSz.out)) ?_) | (go_at_call 7; refine (HLi _).out.mono ?_; rintro e w2 ⟨rfl, hb⟩; have HB2 := hide (HB1.out.trans (hb.mono HB1.out.size)); have HK2 := hide (HK1.out.below hb); have HL2 := hide (HL1.out.below hb); have HV2 := hide (HV1.out.below hb); clear hb) | (go_at_call 9; refine (HCk _ HL2.out).out.mono ?_; rintro e w3 ⟨rfl, hb⟩; have HB3 := hide (HB2.out.trans (hb.mono HB2.out.size)); have HV3 := hide (HV2.out.below hb); clear hb) | (go_at_call 8; refine (HLa _ HV3.out).out.mono ?_; rintro e w4 ⟨rfl, hb⟩; have HB4 := hide (HB3.out.trans (hb.mono HB3.out.size)); clear hb))
    go_ret
    exact ⟨rfl, HB4.out⟩
  obtain ⟨hs, hn1, hp, hcl⟩ := chk_low t hch
  have hnr := near_all t hs hn1.2 hp hcl
  have HOf := fun u hu => hide (of_any t a cap cs hcs hid hok (by omega) u hu)
  have HPa := fun u hu => hide (Parts_any t a cap cs hcs hid hok hnr (by omega) u hu)
  have HRp := fun u vi b c hu => hide (rparts_any t vi b c hok hnr (by omega) u hu)
  have HHe := fun u => hide (held_any t a cap cs hcs hid hch u)
  have HRh := fun u vi b c => hide (rheld_any t vi b c hch u)
  have HSa := fun u g g' (h1 : LiesE u (some ⟨g, 0, none⟩) t.held) (h2 : LiesE u (some ⟨g', 0, none⟩) t.held) => hide (show Calls Tryd.prog 19 #[.slice (some ⟨g, 0, none⟩) 4 4, .slice (some ⟨g', 0, none⟩) 4 4] u fun e w' => e = .returned (.bool true) ∧ Below u.heap.size u w' by
    have h := same_any u (some ⟨g, 0, none⟩) (some ⟨g', 0, none⟩) 4 4 t.held t.held h1 h2 (by show 4 ≤ _; omega)
    rw [decide_eq_true rfl] at h
    exact h)
  obtain ⟨PP, hPP⟩ : ∃ P, P = prtG t.L t.L.length := ⟨_, rfl⟩
  have HPl := hide (show PP.length ≤ 1000000 by rw [hPP]; have := prtG_len t.L t.L.length; omega)
  rw [← hPP] at HPa HRp
  have HSp := fun u a b ca cb h1 h2 => hide (sameparts_any u a b ca cb PP h1 h2 HPl.out)
  rw [hch] at HCk
  obtain ⟨n, hnn⟩ : ∃ n, n = t.L.length := ⟨_, rfl⟩
  rw [← hnn] at HOf HRp HRh
  clear hSS hid hok hl hV hcs hsz hR hw1 hb1 hk1 hn hch hs hn1 hp hcl hnr hPP hnn
  go_enter Tryd.func6, Tryd.ntmps6
  go_upto_region 1 with fail
  rw [← HW1.out, ← HR.out]
  go_upto_region 3 with (first | (refine wpList_isop (.load 25 (.tmp 1)) rfl ?_; first | refine wpList_exec rfl (exec_ld rfl rfl (loadT HK1.out HSz.out)) ?_ | refine wpList_execW (by kernel_rfl) (exec_ld rfl rfl (loadT HK1.out HSz.out)) ?_) | (refine wpList_isop (.load 25 (.tmp 1)) rfl ?_; first | refine wpList_exec rfl (exec_ld rfl rfl (loadT HK2.out HSz.out)) ?_ | refine wpList_execW (by kernel_rfl) (exec_ld rfl rfl (loadT HK2.out HSz.out)) ?_) | (go_at_call 7; refine (HLi _).out.mono ?_; rintro e w2 ⟨rfl, hb⟩; have HB2 := hide (HB1.out.trans (hb.mono HB1.out.size)); have HK2 := hide (HK1.out.below hb); have HL2 := hide (HL1.out.below hb); have HV2 := hide (HV1.out.below hb); clear hb) | (go_at_call 9; refine (HCk _ HL2.out).out.mono ?_; rintro e w3 ⟨rfl, hb⟩; have HB3 := hide (HB2.out.trans (hb.mono HB2.out.size)); have HV3 := hide (HV2.out.below hb); have HK3 := hide (HK2.out.below hb); have HL3 := hide (HL2.out.below hb); clear hb))
  go_upto_region 4 with (first | (refine wpList_isop (.load 25 (.tmp 1)) rfl ?_; first | refine wpList_exec rfl (exec_ld rfl rfl (loadT HK3.out HSz.out)) ?_ | refine wpList_execW (by kernel_rfl) (exec_ld rfl rfl (loadT HK3.out HSz.out)) ?_) | (go_at_call 11; refine (HOf _ HL3.out).out.mono ?_; rintro e w4 ⟨⟨vi, b, c, rfl, ⟨ai, ci, rfl, _⟩, hld⟩, hb⟩; have HB4 := hide (HB3.out.trans (hb.mono HB3.out.size)); have HV4 := hide (HV3.out.below hb); have HK4 := hide (HK3.out.below hb); have HL4 := hide (HL3.out.below hb); have HD4 := hide hld; clear hb hld))
  have hb5 : Below w4.heap.size w4 (w4.alloc (.cells (t.rc (.slice ai t.id.length ci) (.slice b n c)) 34)) := (Below.refl _ _).alloc (Nat.le_refl _) _
  have hx5 := Blk.new w4 (t.rc (.slice ai t.id.length ci) (.slice b n c)) 34
  obtain ⟨w5, hw5⟩ : ∃ x, x = w4.alloc (.cells (t.rc (.slice ai t.id.length ci) (.slice b n c)) 34) := ⟨_, rfl⟩
  obtain ⟨X, hX⟩ : ∃ X, X = w4.heap.size := ⟨_, rfl⟩
  rw [← hw5] at hb5 hx5 ⊢
  rw [← hX] at hx5 ⊢
  have HB5 := hide (HB4.out.trans (hb5.mono HB4.out.size))
  have HV5 := hide (HV4.out.below hb5)
  have HK5 := hide (HK4.out.below hb5)
  have HL5 := hide (HL4.out.below hb5)
  have HD5 := hide (HD4.out.below hb5)
  have HX5 := hide hx5
  clear hb5 hx5 hw5 hX

  have HS0 : (show World → Prop from fun u => Blk u R cs 25 ∧ Blk u X (t.rc (.slice ai t.id.length ci) (.slice b n c)) 34 ∧ LiesEn u a t.L ∧ LiesD u b t.L ∧ VarG u ∧ Below w.heap.size w u) w5.drew := ⟨HK5.out.drew, HX5.out.drew, HL5.out.below (Below.refl _ _).drew, HD5.out.below (Below.refl _ _).drew, HV5.out.below (Below.refl _ _).drew, HB5.out.drew⟩
  refine wp_region_held_drew (S := fun u => Blk u R cs 25 ∧ Blk u X (t.rc (.slice ai t.id.length ci) (.slice b n c)) 34 ∧ LiesEn u a t.L ∧ LiesD u b t.L ∧ VarG u ∧ Below w.heap.size w u) (by kernel_rfl) HS0 (fun _ => ?_)
  refine wpAnyH_ready (rs := [0]) (by kernel_rfl) (by simp) ?_
  refine AllReadyH.cons (i := 0) rfl (fun K hK => ?_) AllReadyH.nil
  go_simp
  refine (HLa _ HS0.2.2.2.2.1).out.mono ?_
  rintro e9 y1 ⟨rfl, hbx⟩
  have HSy1 : (show World → Prop from fun u => Blk u R cs 25 ∧ Blk u X (t.rc (.slice ai t.id.length ci) (.slice b n c)) 34 ∧ LiesEn u a t.L ∧ LiesD u b t.L ∧ VarG u ∧ Below w.heap.size w u) y1 := ⟨HS0.1.below hbx, HS0.2.1.below hbx, HS0.2.2.1.below hbx, HS0.2.2.2.1.below hbx, HS0.2.2.2.2.1.below hbx, HS0.2.2.2.2.2.trans (hbx.mono HS0.2.2.2.2.2.size)⟩
  clear hbx
  go_simp
  refine hK.out _ _ HSy1 (fun _ => ?_)
  clear hK K
  try simp only [Act.put, List.setIfInBounds_toArray, List.set_cons_zero, List.set_cons_succ]
  refine any_take 1 (some 16) (.bool true) rfl rfl (by kernel_rfl) (by kernel_rfl) (by kernel_rfl) (fun _ _ _ h => h) (by rfl) HSy1 ?_ ?_
  · intro u hSu
    go_simp
  try simp only [Act.put, List.setIfInBounds_toArray, List.set_cons_zero, List.set_cons_succ]
  refine any_take 2 (some 17) (.agg cs) rfl rfl (by kernel_rfl) (by kernel_rfl) (by kernel_rfl) (fun _ _ _ h => h) (by rfl) HSy1 ?_ ?_
  · intro u hSu
    exact exec_ld rfl rfl (loadT hSu.1 HSz.out)
  try simp only [Act.put, List.setIfInBounds_toArray, List.set_cons_zero, List.set_cons_succ]
  refine any_take 4 (some 19) (.agg (t.rc (.slice ai t.id.length ci) (.slice b n c))) rfl rfl (by kernel_rfl) (by kernel_rfl) (by kernel_rfl) (fun _ _ _ h => h) (by rfl) HSy1 ?_ ?_
  · intro u hSu
    exact exec_ld rfl rfl (loadR hSu.2.1)
  try simp only [Act.put, List.setIfInBounds_toArray, List.set_cons_zero, List.set_cons_succ]
  refine wpAnyH_ready (rs := [3]) (by kernel_rfl) (by simp) ?_
  refine AllReadyH.cons (i := 3) rfl (fun K hK => ?_) AllReadyH.nil
  go_simp
  refine (HPa _ HSy1.2.2.1).out.mono ?_
  rintro e9 y2 ⟨⟨v2, rfl, ho⟩, hbx⟩
  have HSy2 : (show World → Prop from fun u => Blk u R cs 25 ∧ Blk u X (t.rc (.slice ai t.id.length ci) (.slice b n c)) 34 ∧ LiesEn u a t.L ∧ LiesD u b t.L ∧ VarG u ∧ Below w.heap.size w u) y2 := ⟨HSy1.1.below hbx, HSy1.2.1.below hbx, HSy1.2.2.1.below hbx, HSy1.2.2.2.1.below hbx, HSy1.2.2.2.2.1.below hbx, HSy1.2.2.2.2.2.trans (hbx.mono HSy1.2.2.2.2.2.size)⟩
  obtain ⟨a2, c2, rfl, hp2, _⟩ := OwnP.form ho
  clear hbx ho
  go_simp
  refine hK.out _ _ HSy2 (fun _ => ?_)
  clear hK K
  try simp only [Act.put, List.setIfInBounds_toArray, List.set_cons_zero, List.set_cons_succ]
  refine wpAnyH_ready (rs := [5]) (by kernel_rfl) (by simp) ?_
  refine AllReadyH.cons (i := 5) rfl (fun K hK => ?_) AllReadyH.nil
  go_simp
  refine (HRp _ (.slice ai t.id.length ci) b c HSy2.2.2.2.1).out.mono ?_
  rintro e9 y3 ⟨⟨v3, rfl, ho⟩, hbx⟩
  have HSy3 : (show World → Prop from fun u => Blk u R cs 25 ∧ Blk u X (t.rc (.slice ai t.id.length ci) (.slice b n c)) 34 ∧ LiesEn u a t.L ∧ LiesD u b t.L ∧ VarG u ∧ Below w.heap.size w u) y3 := ⟨HSy2.1.below hbx, HSy2.2.1.below hbx, HSy2.2.2.1.below hbx, HSy2.2.2.2.1.below hbx, HSy2.2.2.2.2.1.below hbx, HSy2.2.2.2.2.2.trans (hbx.mono HSy2.2.2.2.2.2.size)⟩
  have hp2 := hp2.below hbx
  obtain ⟨a3, c3, rfl, hp3, _⟩ := OwnP.form ho
  clear hbx ho
  go_simp
  refine hK.out _ _ HSy3 (fun _ => ?_)
  clear hK K
  try simp only [Act.put, List.setIfInBounds_toArray, List.set_cons_zero, List.set_cons_succ]
  refine wpAnyH_ready (rs := [6]) (by kernel_rfl) (by simp) ?_
  refine AllReadyH.cons (i := 6) rfl (fun K hK => ?_) AllReadyH.nil
  go_simp
  refine (HSp _ a2 a3 c2 c3 hp2 hp3).out.mono ?_
  rintro e9 y4 ⟨rfl, hbx⟩
  have HSy4 : (show World → Prop from fun u => Blk u R cs 25 ∧ Blk u X (t.rc (.slice ai t.id.length ci) (.slice b n c)) 34 ∧ LiesEn u a t.L ∧ LiesD u b t.L ∧ VarG u ∧ Below w.heap.size w u) y4 := ⟨HSy3.1.below hbx, HSy3.2.1.below hbx, HSy3.2.2.1.below hbx, HSy3.2.2.2.1.below hbx, HSy3.2.2.2.2.1.below hbx, HSy3.2.2.2.2.2.trans (hbx.mono HSy3.2.2.2.2.2.size)⟩
  clear hbx hp2 hp3
  go_simp
  refine hK.out _ _ HSy4 (fun _ => ?_)
  clear hK K
  try simp only [Act.put, List.setIfInBounds_toArray, List.set_cons_zero, List.set_cons_succ]
  refine any_take 7 (some 22) (.bool true) rfl rfl (by kernel_rfl) (by kernel_rfl) (by kernel_rfl) (fun _ _ _ h => h) (by rfl) HSy4 ?_ ?_
  · intro u hSu
    go_simp
  try simp only [Act.put, List.setIfInBounds_toArray, List.set_cons_zero, List.set_cons_succ]
  refine any_take 8 (some 23) (.bool true) rfl rfl (by kernel_rfl) (by kernel_rfl) (by kernel_rfl) (fun _ _ _ h => h) (by rfl) HSy4 ?_ ?_
  · intro u hSu
    go_simp
  try simp only [Act.put, List.setIfInBounds_toArray, List.set_cons_zero, List.set_cons_succ]
  refine any_take 9 (some 24) (.agg cs) rfl rfl (by kernel_rfl) (by kernel_rfl) (by kernel_rfl) (fun _ _ _ h => h) (by rfl) HSy4 ?_ ?_
  · intro u hSu
    exact exec_ld rfl rfl (loadT hSu.1 HSz.out)
  try simp only [Act.put, List.setIfInBounds_toArray, List.set_cons_zero, List.set_cons_succ]
  refine any_take 11 (some 26) (.agg (t.rc (.slice ai t.id.length ci) (.slice b n c))) rfl rfl (by kernel_rfl) (by kernel_rfl) (by kernel_rfl) (fun _ _ _ h => h) (by rfl) HSy4 ?_ ?_
  · intro u hSu
    exact exec_ld rfl rfl (loadR hSu.2.1)
  try simp only [Act.put, List.setIfInBounds_toArray, List.set_cons_zero, List.set_cons_succ]
  refine wpAnyH_ready (rs := [10]) (by kernel_rfl) (by simp) ?_
  refine AllReadyH.cons (i := 10) rfl (fun K hK => ?_) AllReadyH.nil
  go_simp
  refine (HHe _).out.mono ?_
  rintro e9 y5 ⟨⟨g5, rfl, hg5⟩, hbx⟩
  have HSy5 : (show World → Prop from fun u => Blk u R cs 25 ∧ Blk u X (t.rc (.slice ai t.id.length ci) (.slice b n c)) 34 ∧ LiesEn u a t.L ∧ LiesD u b t.L ∧ VarG u ∧ Below w.heap.size w u) y5 := ⟨HSy4.1.below hbx, HSy4.2.1.below hbx, HSy4.2.2.1.below hbx, HSy4.2.2.2.1.below hbx, HSy4.2.2.2.2.1.below hbx, HSy4.2.2.2.2.2.trans (hbx.mono HSy4.2.2.2.2.2.size)⟩
  clear hbx
  go_simp
  refine hK.out _ _ HSy5 (fun _ => ?_)
  clear hK K
  try simp only [Act.put, List.setIfInBounds_toArray, List.set_cons_zero, List.set_cons_succ]
  refine wpAnyH_ready (rs := [12]) (by kernel_rfl) (by simp) ?_
  refine AllReadyH.cons (i := 12) rfl (fun K hK => ?_) AllReadyH.nil
  go_simp
  refine (HRh _ (.slice ai t.id.length ci) b c).out.mono ?_
  rintro e9 y6 ⟨⟨g6, rfl, hg6⟩, hbx⟩
  have HSy6 : (show World → Prop from fun u => Blk u R cs 25 ∧ Blk u X (t.rc (.slice ai t.id.length ci) (.slice b n c)) 34 ∧ LiesEn u a t.L ∧ LiesD u b t.L ∧ VarG u ∧ Below w.heap.size w u) y6 := ⟨HSy5.1.below hbx, HSy5.2.1.below hbx, HSy5.2.2.1.below hbx, HSy5.2.2.2.1.below hbx, HSy5.2.2.2.2.1.below hbx, HSy5.2.2.2.2.2.trans (hbx.mono HSy5.2.2.2.2.2.size)⟩
  have hg5 := hg5.below hbx
  clear hbx
  go_simp
  refine hK.out _ _ HSy6 (fun _ => ?_)
  clear hK K
  try simp only [Act.put, List.setIfInBounds_toArray, List.set_cons_zero, List.set_cons_succ]
  refine wpAnyH_ready (rs := [13]) (by kernel_rfl) (by simp) ?_
  refine AllReadyH.cons (i := 13) rfl (fun K hK => ?_) AllReadyH.nil
  go_simp
  refine (HSa _ g5 g6 hg5 hg6).out.mono ?_
  rintro e9 y7 ⟨rfl, hbx⟩
  have HSy7 : (show World → Prop from fun u => Blk u R cs 25 ∧ Blk u X (t.rc (.slice ai t.id.length ci) (.slice b n c)) 34 ∧ LiesEn u a t.L ∧ LiesD u b t.L ∧ VarG u ∧ Below w.heap.size w u) y7 := ⟨HSy6.1.below hbx, HSy6.2.1.below hbx, HSy6.2.2.1.below hbx, HSy6.2.2.2.1.below hbx, HSy6.2.2.2.2.1.below hbx, HSy6.2.2.2.2.2.trans (hbx.mono HSy6.2.2.2.2.2.size)⟩
  clear hbx hg5 hg6
  go_simp
  refine hK.out _ _ HSy7 (fun _ => ?_)
  clear hK K
  try simp only [Act.put, List.setIfInBounds_toArray, List.set_cons_zero, List.set_cons_succ]
  refine any_take 14 (some 29) (.bool true) rfl rfl (by kernel_rfl) (by kernel_rfl) (by kernel_rfl) (fun _ _ _ h => h) (by rfl) HSy7 ?_ ?_
  · intro u hSu
    go_simp
  try simp only [Act.put, List.setIfInBounds_toArray, List.set_cons_zero, List.set_cons_succ]
  refine any_take 15 (some 2) (.bool true) rfl rfl (by kernel_rfl) (by kernel_rfl) (by kernel_rfl) (fun _ _ _ h => h) (by rfl) HSy7 ?_ ?_
  · intro u hSu
    go_simp
  try simp only [Act.put, List.setIfInBounds_toArray, List.set_cons_zero, List.set_cons_succ]
  refine wpAnyH_done (by kernel_rfl) ?_ _

  go_wp2_with fail
  go_ret
  exact ⟨rfl, HSy7.2.2.2.2.2⟩
end Go.Proofs.YtpbnjobjjnhplaaDoor.Oct

namespace Go.Proofs.YtpbnjobjjnhplaaDoor.Oct
open Go.RowKit Go.Deep Go.ChangeShapes Go.WideShapes Go.ChangeAt

theorem split_at {α : Type} (l : List α) (a n : Nat) : l.drop a = (l.drop a).take n ++ l.drop (a + n) := by
  rw [← List.drop_drop, List.take_append_drop]

theorem cellsG2 : Tryd.prog.cellsOf 2 = 1 := by kernel_rfl
theorem cellsG5 : Tryd.prog.cellsOf 5 = 1 := by kernel_rfl
theorem cellsG16 : Tryd.prog.cellsOf 22 = 16 := by kernel_rfl
theorem cellsG32 : Tryd.prog.cellsOf 63 = 32 := by kernel_rfl
theorem cellsG80 : Tryd.prog.cellsOf 64 = 80 := by kernel_rfl
theorem cellsGL : Tryd.prog.cellsOf 23 = 1 := by kernel_rfl
theorem cellsGE : Tryd.prog.cellsOf 66 = 114 := by kernel_rfl
theorem cellsGT : Tryd.prog.cellsOf 25 = 22 := by kernel_rfl

/-- An array of bytes. -/
theorem open_arr {H : Type} {enc : TypeId × Value → H} {W : World} {base : Nat} {spare : Nat → Bool} {held : Bool} {fuel : Nat} {cs : List Value} {x : DataW H × List MemPlace} (t : TypeId) (n : Nat) (ht : Tryd.prog.underlying t = some (.array n 5)) (hc : Tryd.prog.cellsOf t = n)
    (h : DataW.trod enc Tryd.prog W base spare held fuel t cs = some x) : ∃ l : List Int, l.length = n ∧ Byts l ∧ cs = l.map (Value.int .u8) := by
  obtain ⟨xs, m, _, _, hlen, hn, hel⟩ := DataW.trod_array ht h
  rw [hc] at hlen
  haveI : Inhabited Int := ⟨0⟩
  obtain ⟨q, hq⟩ := choose_lt (α := Int) (p := fun i o => cs[i]? = some (.int .u8 o) ∧ 0 ≤ o ∧ o < 256) (n := n) (fun i hi => by
    have h1 := hel i hi
    rw [cellsG5, List.getElem?_eq_getElem (by omega)] at h1
    obtain ⟨k, hk, _, hw⟩ := DataW.trod_int Tryd.underlying5 h1
    refine ⟨k, ?_, ?_⟩
    · have h2 : ((cs.drop (i * 1)).take 1)[0]? = some (.int .u8 k) := by rw [hk]; rfl
      rw [List.getElem?_take, if_pos (by omega), List.getElem?_drop] at h2
      simpa using h2
    · have := bounds_u8 hw
      omega)
  refine ⟨(List.range n).map q, by simp, fun k => ?_, ?_⟩
  · by_cases hk : k < n
    · have := (hq k hk).2
      simpa [hk] using this
    · simp [hk]
  · refine List.ext_getElem? fun i => ?_
    by_cases hi : i < n
    · rw [(hq i hi).1]
      simp [hi]
    · rw [List.getElem?_eq_none (by omega), List.getElem?_eq_none (by simp; omega)]

/-- Its numbers are of 64 bits, its bytes are bytes. -/
structure E4.fit (x : E4) : Prop where
  ok : x.ok
  ids : Byts x.ids
  rest : Byts x.rest
  fi : -9223372036854775808 ≤ x.fi ∧ x.fi ≤ 9223372036854775807
  la : -9223372036854775808 ≤ x.la ∧ x.la ≤ 9223372036854775807

set_option maxRecDepth 100000 in
theorem open_ent {H : Type} {enc : TypeId × Value → H} {W : World} {base : Nat} {spare : Nat → Bool} {held : Bool} {fuel : Nat} {cs : List Value} {x : DataW H × List MemPlace}
    (h : DataW.trod enc Tryd.prog W base spare held fuel 66 cs = some x) : ∃ y : E4, y.fit ∧ cs = y.cells := by
  obtain ⟨xs, n, _, _, hlen, hxl, hall⟩ := DataW.trod_struct Tryd.underlying66 h
  rw [cellsGE] at hlen
  match xs, hxl with
  | [y0, y1, y2, y3], _ =>
    have h0 : DataW.trod enc Tryd.prog W base spare held n 63 ((cs.drop 0).take (Tryd.prog.cellsOf 63)) = some y0 := hall 0 _ rfl
    have h1 : DataW.trod enc Tryd.prog W base spare held n 2 ((cs.drop 32).take (Tryd.prog.cellsOf 2)) = some y1 := hall 1 _ rfl
    have h2 : DataW.trod enc Tryd.prog W base spare held n 2 ((cs.drop 33).take (Tryd.prog.cellsOf 2)) = some y2 := hall 2 _ rfl
    have h3 : DataW.trod enc Tryd.prog W base spare held n 64 ((cs.drop 34).take (Tryd.prog.cellsOf 64)) = some y3 := hall 3 _ rfl
    rw [cellsG32] at h0
    rw [cellsG2] at h1 h2
    rw [cellsG80] at h3
    obtain ⟨l0, p0, b0, e0⟩ := open_arr _ 32 Tryd.underlying63 cellsG32 h0
    obtain ⟨k1, e1, _, w1⟩ := DataW.trod_int Tryd.underlying2 h1
    obtain ⟨k2, e2, _, w2⟩ := DataW.trod_int Tryd.underlying2 h2
    obtain ⟨l3, p3, b3, e3⟩ := open_arr _ 80 Tryd.underlying64 cellsG80 h3
    refine ⟨⟨l0, k1, k2, l3⟩, ⟨⟨p0, p3⟩, b0, b3, bounds_i64 w1, bounds_i64 w2⟩, ?_⟩
    have hd : cs.drop 114 = [] := List.drop_of_length_le (by omega)
    have e : cs = (cs.drop 0).take 32 ++ ((cs.drop 32).take 1 ++ ((cs.drop 33).take 1 ++ ((cs.drop 34).take 80 ++ cs.drop 114))) := by
      rw [← split_at cs 34 80, ← split_at cs 33 1, ← split_at cs 32 1, ← split_at cs 0 32]
      rfl
    rw [e, e0, e1, e2, e3, hd]
    unfold E4.cells
    simp

/-- A table that came in. -/
structure Tb.fit (t : Tb) : Prop where
  id : t.id.length = 16
  bi : Byts t.id
  ents : ∀ x ∈ t.L, x.fit
  len : t.L.length ≤ maxLen

theorem Tb.fit.ok {t : Tb} (h : t.fit) : ∀ x ∈ t.L, x.ok := fun x hx => (h.ents x hx).ok

set_option maxRecDepth 100000 in
theorem open_gtab {H : Type} {enc : TypeId × Value → H} {W : World} {base : Nat} {v : Value} {d : DataW H} {p : List MemPlace}
    (hv : Value.okWide Tryd.prog W .any base 25 v) (h : DataW.Trod enc Tryd.prog W 0 (fun _ => true) true 25 v d p) :
    ∃ (t : Tb) (a : Option Addr) (cap : Nat), v = .agg (t.cells (.slice a t.L.length cap)).toArray ∧ t.fit ∧ LiesEn W a t.L := by
  obtain ⟨ca, rfl, hsz⟩ := okWide_struct Tryd.underlying25 hv
  obtain ⟨fuel, hf⟩ := h
  obtain ⟨xs, n, _, _, hlen, hxl, hall⟩ := DataW.trod_struct Tryd.underlying25 hf
  obtain ⟨cs, hcs⟩ : ∃ cs : List Value, cs = ca.toList := ⟨_, rfl⟩
  have hval : (Value.agg ca).cells.toList = cs := by rw [hcs]; rfl
  rw [hval] at hlen hall
  rw [cellsGT] at hlen
  match xs, hxl with
  | [y0, y1, y2, y3, y4, y5, y6], _ =>
    have h0 : DataW.trod enc Tryd.prog W 0 (fun _ => true) true n 2 ((cs.drop 0).take (Tryd.prog.cellsOf 2)) = some y0 := hall 0 _ rfl
    have h1 : DataW.trod enc Tryd.prog W 0 (fun _ => true) true n 2 ((cs.drop 1).take (Tryd.prog.cellsOf 2)) = some y1 := hall 1 _ rfl
    have h2 : DataW.trod enc Tryd.prog W 0 (fun _ => true) true n 2 ((cs.drop 2).take (Tryd.prog.cellsOf 2)) = some y2 := hall 2 _ rfl
    have h3 : DataW.trod enc Tryd.prog W 0 (fun _ => true) true n 22 ((cs.drop 3).take (Tryd.prog.cellsOf 22)) = some y3 := hall 3 _ rfl
    have h4 : DataW.trod enc Tryd.prog W 0 (fun _ => true) true n 23 ((cs.drop 19).take (Tryd.prog.cellsOf 23)) = some y4 := hall 4 _ rfl
    have h5 : DataW.trod enc Tryd.prog W 0 (fun _ => true) true n 2 ((cs.drop 20).take (Tryd.prog.cellsOf 2)) = some y5 := hall 5 _ rfl
    have h6 : DataW.trod enc Tryd.prog W 0 (fun _ => true) true n 2 ((cs.drop 21).take (Tryd.prog.cellsOf 2)) = some y6 := hall 6 _ rfl
    rw [cellsG2] at h0 h1 h2 h5 h6
    rw [cellsG16] at h3
    rw [cellsGL] at h4
    obtain ⟨k0, e0, _, w0⟩ := DataW.trod_int Tryd.underlying2 h0
    obtain ⟨k1, e1, _, w1⟩ := DataW.trod_int Tryd.underlying2 h1
    obtain ⟨k2, e2, _, w2⟩ := DataW.trod_int Tryd.underlying2 h2
    obtain ⟨l3, p3, b3, e3⟩ := open_arr _ 16 Tryd.underlying22 cellsG16 h3
    obtain ⟨k5, e5, _, w5⟩ := DataW.trod_int Tryd.underlying2 h5
    obtain ⟨k6, e6, _, w6⟩ := DataW.trod_int Tryd.underlying2 h6
    have hd : cs.drop 22 = [] := List.drop_of_length_le (by omega)
    have e : cs = (cs.drop 0).take 1 ++ ((cs.drop 1).take 1 ++ ((cs.drop 2).take 1 ++ ((cs.drop 3).take 16 ++ ((cs.drop 19).take 1 ++ ((cs.drop 20).take 1 ++ ((cs.drop 21).take 1 ++ cs.drop 22)))))) := by
      rw [← split_at cs 21 1, ← split_at cs 20 1, ← split_at cs 19 1, ← split_at cs 3 16, ← split_at cs 2 1, ← split_at cs 1 1, ← split_at cs 0 1]
      rfl
    have hfin : ∀ (L : List E4) (a : Option Addr) (cap : Nat), (cs.drop 19).take 1 = [.slice a L.length cap] → (∀ x ∈ L, x.fit) → L.length ≤ maxLen → LiesEn W a L → ∃ (t : Tb) (a : Option Addr) (cap : Nat), Value.agg ca = .agg (t.cells (.slice a t.L.length cap)).toArray ∧ t.fit ∧ LiesEn W a t.L := by
      intro L a cap e4 hL hln hli
      refine ⟨⟨k0, k1, k2, l3, L, k5, k6⟩, a, cap, ?_, ⟨p3, b3, hL, hln⟩, hli⟩
      congr 1
      apply Array.ext'
      rw [← hcs, e, e0, e1, e2, e3, e4, e5, e6, hd]
      unfold Tb.cells
      simp
    rcases open_slice Tryd.underlying23 h4 with ⟨e4, _⟩ | ⟨a, len, cap, m, nn, D, Pl, e4, _, hl, hm, hmm, _, hx⟩
    · exact hfin [] none 0 e4 (fun x hx => by cases hx) (by simp) (Or.inl rfl)
    · simp only [if_true] at hmm
      rw [cellsGE] at hx
      by_cases hz : len = 0
      · subst hz
        exact hfin [] (some a) cap e4 (fun x hx => by cases hx) (by simp) (Or.inl rfl)
      haveI : Inhabited E4 := ⟨E4.z⟩
      have hs : a.spot = none := by
        obtain ⟨cs', g1, g2⟩ := hx 0 (by omega)
        obtain ⟨_, hlen', hcell⟩ := World.cells?_some g1
        have q0 := hcell 0 (by omega)
        obtain ⟨y, hy, ey⟩ := open_ent g2
        rw [ey, List.getElem?_eq_getElem (by rw [E4.cells_len hy.ok]; omega)] at q0
        obtain ⟨b, off, spot⟩ := a
        simpa [Addr.add] using World.cell?_spot q0
      obtain ⟨b, off, spot⟩ := a
      simp only at hs
      subst hs
      obtain ⟨q, hq⟩ := choose_lt (α := E4) (p := fun i o => o.fit ∧ ∀ j v, o.cells[j]? = some v → W.cell? ⟨b, off + i * 114 + j, none⟩ = some v) (n := m) (fun i hi => by
        obtain ⟨cs', g1, g2⟩ := hx i hi
        obtain ⟨_, hlen', hcell⟩ := World.cells?_some g1
        obtain ⟨y, hy, rfl⟩ := open_ent g2
        refine ⟨y, hy, fun j v hj => ?_⟩
        have hj2 : j < y.cells.length := (List.getElem?_eq_some_iff.1 hj).1
        have q0 := hcell j (by omega)
        rw [add_plain, add_plain] at q0
        rw [q0, ← hj])
      obtain ⟨L, hL⟩ : ∃ L, L = (List.range len).map q := ⟨_, rfl⟩
      have hlen2 : L.length = len := by rw [hL]; simp
      refine hfin L (some ⟨b, off, none⟩) cap (by rw [hlen2]; exact e4) (fun x hx => ?_) (by omega) (Or.inr ⟨b, off, rfl, ?_, fun k x hk j u hj => ?_⟩)
      · rw [hL] at hx
        obtain ⟨k, hk, rfl⟩ := List.mem_map.1 hx
        exact (hq k (by have := List.mem_range.1 hk; omega)).1
      · have h9 := hq 0 (by omega)
        have : (q 0).cells[0]? = some ((q 0).cells[0]'(by rw [E4.cells_len h9.1.ok]; omega)) := List.getElem?_eq_getElem _
        exact lt_of_cell (h9.2 0 _ this)
      · have hk2 : k < len := by rw [← hlen2]; exact (List.getElem?_eq_some_iff.1 hk).1
        have : q k = x := by
          rw [hL] at hk
          simpa [hk2] using hk
        rw [← this] at hj
        exact (hq k (by omega)).2 j u hj
end Go.Proofs.YtpbnjobjjnhplaaDoor.Oct
