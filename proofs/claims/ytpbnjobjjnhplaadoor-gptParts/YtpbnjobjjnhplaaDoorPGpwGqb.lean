/- A disk with a table, as the document lays it. -/
import Derived.Test.YtpbnjobjjnhplaaDoorPGpvGpm
import Derived.Test.YtpbnjobjjnhplaaDoorPGqa
import Derived.Test.YtpbnjobjjnhplaaDoorPTakEzc
namespace Go.Proofs.YtpbnjobjjnhplaaDoor.Oct
open Go.RowKit

set_option maxHeartbeats 1000000 in
theorem pad_any (a : Option Addr) (cap : Nat) (l : List Int) (w : World) (hlen : l.length ≤ 1000000) (hl : Lies w a l) :
    Calls Tryd.prog 45 #[.slice a l.length cap, .int .i64 512] w fun e w' => ∃ v, e = .returned v ∧ Own w' w.heap.size v (padG l) ∧ Below w.heap.size w w' := by
  have HL := hide hl
  clear hl
  have e0 : wrap64 ((l.length : Int).tmod 512) = ((l.length % 512 : Nat) : Int) := by
    rw [Int.tmod_eq_emod_of_nonneg (by omega)]
    unfold wrap64
    omega
  have e1 : ((l.length : Int).tmod 512) = ((l.length % 512 : Nat) : Int) := by
    rw [Int.tmod_eq_emod_of_nonneg (by omega)]
    omega
  by_cases h2 : l.length % 512 = 0
  · have HE : Hid (padG l = l) := by show _ = _; simp [padG, h2]
    have hb : (((l.length % 512 : Nat) : Int) == 0) = true := by simp [h2]
    have hb2 : ((l.length : Int) % 512 == 0) = true := by have : (l.length : Int) % 512 = 0 := by omega
                                                          rw [this]; rfl
    have H2 := hide h2
    clear h2
    go_enter Tryd.func45, Tryd.ntmps45
    go_wp2_with (at_builtin; refine wpList_append_bytes rfl _ _ 31 rfl Tryd.underlying31 info5 w.heap.size _ [] rfl (Own.nil _ _) _ _ _ l rfl rfl (by exact HL.out) (by simp; omega) (by exact Nat.le_refl _) ?_; intro v1 w1 ho1 hg1; have HB1 := hide (Own.behind (Own.nil _ _) (Below.refl _ _) hg1 (Nat.le_refl _)); clear hg1)
    go_ret
    exact ⟨_, rfl, by rw [HE.out]; exact ho1, HB1.out⟩
  · obtain ⟨n, hn⟩ : ∃ n : Nat, n = (512 - l.length % 512) % 512 := ⟨_, rfl⟩
    have hb : (((l.length % 512 : Nat) : Int) == 0) = false := by simp; omega
    have hb2 : ((l.length : Int) % 512 == 0) = false := by have : ¬ (l.length : Int) % 512 = 0 := by omega
                                                           simpa using this
    have hn1 : (512 : Int) - (l.length : Int) % 512 = (n : Int) := by omega
    have hn2 : n ≤ 512 := by omega
    have HE : Hid (padG l = l ++ List.replicate n 0) := by show _ = _; rw [padG, hn]
    clear h2 hn
    go_enter Tryd.func45, Tryd.ntmps45
    go_wp2_with (first
      | (go_at_call 23; refine (Zeros_any n _ (by omega)).mono ?_; rintro e w2 ⟨v2, rfl, ho2, hb2⟩; have HO2 := hide (ho1.below hb2); have HB2 := hide (HB1.out.trans (hb2.mono HB1.out.size)); obtain ⟨a2, cap2, rfl, hsl2, _⟩ := ho2.sl; have HSL2 := hide hsl2; clear hb2 ho2 hsl2)
      | (at_builtin; refine wpList_append_bytes rfl _ _ 31 rfl Tryd.underlying31 info5 w.heap.size _ [] rfl (Own.nil _ _) _ _ _ l rfl rfl (by exact HL.out) (by simp; omega) (by exact Nat.le_refl _) ?_; intro v1 w1 ho1 hg1; have HB1 := hide (Own.behind (Own.nil _ _) (Below.refl _ _) hg1 (Nat.le_refl _)); clear hg1)
      | (at_builtin; refine wpList_append_bytes rfl _ _ 31 rfl Tryd.underlying31 info5 w.heap.size _ ([] ++ l) rfl HO2.out _ _ _ (List.replicate n 0) rfl (by simp) (by exact HSL2.out.lies) (by simp; omega) (by exact HB2.out.size) ?_; intro v3 w3 ho3 hg3; have HB3 := hide (Own.behind HO2.out HB2.out hg3 HB2.out.size); clear hg3))
    go_ret
    exact ⟨_, rfl, by rw [HE.out]; exact ho3, HB3.out⟩
end Go.Proofs.YtpbnjobjjnhplaaDoor.Oct

namespace Go.Proofs.YtpbnjobjjnhplaaDoor.Oct
open Go.RowKit

theorem loadR {u : World} {R : Nat} {t : Tb} {vi v : Value} (h : Blk u R (t.rc vi v) 34) : (Instr.loadAt 34 (.pointer (some ⟨R, 0, none⟩))).run Tryd.prog u = .ok (.agg (t.rc vi v)) u := by
  have := run_loadVar_row (P := Tryd.prog) u R 34 34 (t.rc vi v) (0, 0) _ h Tryd.underlying34 rfl (by kernel_rfl)
  simp [Instr.loadAt, Instr.sureAddr, this]

/-- An own row, as a slice; what it holds stays told. -/
theorem own_sl {w : World} {B : Nat} {v : Value} {l : List Int} (h : Own w B v l) : ∃ a c, v = .slice a l.length c ∧ Sl w a c l := by
  obtain ⟨a, c, h1, h2, _⟩ := h.sl
  exact ⟨a, c, h1, h2⟩

set_option maxHeartbeats 16000000 in
set_option maxRecDepth 100000 in
theorem laid_any (t : Tb) (d : List Int) (vi : Value) (a : Option Addr) (cap : Nat) (a0 : Option Addr) (c0 : Nat) (hid : t.id.length = 16) (hbi : Byts t.id) (hok : ∀ x ∈ t.L, x.ok) (hbL : Byts (bytL t.L)) (hch : t.chk = 0) (hd : (d.length : Int) = 512 * t.sec) (hdl : d.length ≤ 1000000)
    (w : World) (hsd : Sl w a0 c0 d) (hvi : SlG w vi t.id) (hl : LiesD w a t.L) :
    Calls Tryd.prog 22 #[.slice a0 d.length c0, .agg (t.rc vi (.slice a t.L.length cap))] w fun q w' => (∃ v, q = .returned v ∧ Own w' w.heap.size v (laidG d t)) ∧ Below w.heap.size w w' := by
  have hlow := chk_ents t hch
  obtain ⟨hs, hn1, hp, _⟩ := chk_low t hch
  have hbl := bytL_len t.L hok
  have hr : rowsG t.L.length = (((128 * t.L.length + 511) / 512 : Nat) : Int) := by unfold rowsG; omega
  have hpl := padG_len (bytL t.L)
  rw [hbl] at hpl
  obtain ⟨r, hr'⟩ : ∃ r, r = (128 * t.L.length + 511) / 512 := ⟨_, rfl⟩
  rw [← hr'] at hr hpl
  unfold Tb.placed at hp
  rw [hr] at hp
  have HRb := fun u hlu => hide (rbytes_any t.L a cap hok hlow (by omega) u hlu)
  have HH1 := hide (headL_len (t.headE false) (by show t.id.length = 16; exact hid))
  have HH2 := hide (headL_len (t.headE true) (by show t.id.length = 16; exact hid))
  obtain ⟨pA, hA⟩ : ∃ p, p = 512 * t.at_.toNat := ⟨_, rfl⟩
  obtain ⟨pZ, hZ⟩ : ∃ p, p = 512 * t.beh.toNat := ⟨_, rfl⟩
  obtain ⟨pS, hS⟩ : ∃ p, p = 512 * t.sec.toNat - 512 := ⟨_, rfl⟩
  have e1 : IntKind.i64.wrap (t.at_ * 512) = (pA : Int) := by rw [IntKind.wrap_i64]; omega
  have e2 : IntKind.i64.wrap (t.beh * 512) = (pZ : Int) := by rw [IntKind.wrap_i64]; omega
  have e3 : IntKind.i64.wrap (t.sec * 512) = t.sec * 512 := by rw [IntKind.wrap_i64]; omega
  have e4 : IntKind.i64.wrap (t.sec * 512 - 512) = (pS : Int) := by rw [IntKind.wrap_i64]; omega
  obtain ⟨b, hb⟩ : ∃ b, b = padG (bytL t.L) := ⟨_, rfl⟩
  rw [← hb] at hpl
  have HPd := fun u (a : Option Addr) (c : Nat) (hu : Lies u a (bytL t.L)) => hide (show Calls Tryd.prog 45 #[.slice a (bytL t.L).length c, .int .i64 512] u fun e w' => ∃ v, e = .returned v ∧ Own w' u.heap.size v b ∧ Below u.heap.size u w' by
    rw [hb]
    exact pad_any a c (bytL t.L) u (by omega) hu)
  have HLd := hide (show laidG d t = over (over (over (over d pA b) 512 (headL (t.headE false))) pZ b) pS (headL (t.headE true)) by rw [hA, hZ, hS, hb]; rfl)
  have g1 : pA + b.length ≤ d.length := by omega
  have g2 : pZ + b.length ≤ d.length := by omega
  have g3 : pS + 512 = d.length := by omega
  have HG := hide (And.intro g1 (And.intro g2 (And.intro g3 hdl)))
  have HGb := hide (show b.length ≤ 1000000 by omega)
  have HG5 := hide (show 1024 ≤ d.length by omega)
  obtain ⟨l1, hl1⟩ : ∃ l, l = over d pA b := ⟨_, rfl⟩
  have hn1' : l1.length = d.length := by rw [hl1, over_length g1]
  obtain ⟨l2, hl2⟩ : ∃ l, l = over l1 512 (headL (t.headE false)) := ⟨_, rfl⟩
  have hn2' : l2.length = d.length := by rw [hl2, over_length (by rw [HH1.out]; have := HG5.out; omega)]; exact hn1'
  obtain ⟨l3, hl3⟩ : ∃ l, l = over l2 pZ b := ⟨_, rfl⟩
  have hn3' : l3.length = d.length := by rw [hl3, over_length (by omega)]; exact hn2'
  rw [← hl1, ← hl2, ← hl3] at HLd
  have HLe := hide (And.intro hn1' (And.intro hn2' hn3'))
  have HL1' := hide hl1
  have HL2' := hide hl2
  have HL3' := hide hl3
  obtain ⟨n, hn⟩ : ∃ n, n = t.L.length := ⟨_, rfl⟩
  rw [← hn] at HRb ⊢
  obtain ⟨ai, ci, rfl, hsi⟩ := hvi
  rw [hid]
  obtain ⟨wq, hwq⟩ : ∃ wq, wq = w.alloc (.cells (t.rc (.slice ai 16 ci) (.slice a n cap)) 34) := ⟨_, rfl⟩
  obtain ⟨R, hR⟩ : ∃ R, R = w.heap.size := ⟨_, rfl⟩
  have hb1 : Below w.heap.size w wq := by rw [hwq]; exact (Below.refl _ _).alloc (Nat.le_refl _) _
  have hk1 : Blk wq R (t.rc (.slice ai 16 ci) (.slice a n cap)) 34 := by rw [hwq, hR]; exact Blk.new _ _ _
  have HRh1 := fun e u (hvu : SlG u (.slice ai 16 ci) t.id) hlu => hide (rhead_any t e (.slice ai 16 ci) a cap hid hbi hok hbL hch u hvu hlu)
  rw [← hn] at HRh1
  have HKq := hide hk1
  have HLq := hide (hl.below hb1)
  have HIq := hide (show SlG wq (.slice ai 16 ci) t.id from ⟨ai, ci, by rw [hid], hsi.below hb1⟩)
  have HSq := hide (hsd.below hb1)
  have HBq := hide hb1
  have HWq := hide hwq
  have HHR := hide hR
  have HBz := hide (Below.refl wq.heap.size wq)
  obtain ⟨N, hN⟩ : ∃ N, N = d.length := ⟨_, rfl⟩
  rw [← hN] at hn1' hn2' hn3' ⊢
  have HNd := hide hN
  obtain ⟨q0, q1, q2, q4, q5, q6⟩ := rc_cells hk1
  clear hlow hr hp hs hn1 hn hsi hl hid hbi hok hbL hch hb1 hk1 hwq hR hbl hpl hr' hA hZ hS hb g1 g2 g3 hl1 hl2 hl3 hd hdl hsd hN hn1' hn2' hn3'
  go_enter Tryd.func22, Tryd.ntmps22
  go_upto_region 1 with fail
  rw [← HHR.out, ← HWq.out]
  go_upto_region 2 with (first | (go_at_call 46; refine (HRb _ HLq.out).out.mono ?_; rintro e w1 ⟨⟨v1, rfl, ho⟩, hb⟩; have HB1 := hide hb; obtain ⟨a1, c1, rfl, hs1, _⟩ := ho.form; have HS1 := hide hs1; clear ho hb hs1) | (go_at_call 45; refine (HPd _ _ _ HS1.out).out.mono ?_; rintro e w2 ⟨v2, rfl, ho, hb⟩; have HB2 := hide (HB1.out.trans (hb.mono HB1.out.size)); obtain ⟨a2, c2, rfl, hs2⟩ := own_sl ho; have HS2 := hide hs2; clear ho hb hs2))
  have HSd := hide (HSq.out.below HB2.out)
  clear q0 q1 q2 q4 q5 q6
  obtain ⟨q0, q1, q2, q4, q5, q6⟩ := rc_cells (HKq.out.below HB2.out)
  have HW2 := hide (show Calls Tryd.prog 34 #[.slice a0 N c0, .int .i64 (pA : Int), .slice a2 b.length c2] w2 fun e w' => ∃ v, e = .returned v ∧ Own w' w2.heap.size v l1 ∧ Below w2.heap.size w2 w' by
    rw [HL1'.out, HNd.out]
    exact With_any _ _ d _ _ b pA _ HG.out.2.2.2 HGb.out HG.out.1 HSd.out HS2.out)
  go_upto_region 3 with (go_at_call 34; refine HW2.out.mono ?_; rintro e w3 ⟨v3, rfl, ho, hb⟩; have HB3 := hide (HB2.out.trans (hb.mono HB2.out.size)); have HSb3 := hide (HS2.out.below hb); obtain ⟨a3, c3, rfl, hs3⟩ := own_sl ho; rw [HLe.out.1, ← HNd.out]; have HS3 := hide hs3; clear ho hb hs3)
  clear q0 q1 q2 q4 q5 q6
  have HKx := hide (HKq.out.below HB3.out)
  have HLx := hide (HLq.out.below HB3.out)
  have HIx := hide (HIq.out.below HB3.out)
  go_upto_region 4 with (first | (refine wpList_isop (.load 34 (.tmp 3)) rfl ?_; refine wpList_exec rfl (exec_ld rfl rfl (loadR HKx.out)) ?_) | (go_at_call 47; refine (HRh1 false _ HIx.out HLx.out).out.mono ?_; rintro e w4 ⟨⟨v4, rfl, ho⟩, hb⟩; have HB4 := hide (HB3.out.trans (hb.mono HB3.out.size)); have HSa4 := hide (HS3.out.below hb); have HSb4 := hide (HSb3.out.below hb); obtain ⟨a4, c4, rfl, hs4⟩ := own_sl ho; have HS4 := hide hs4; rw [HH1.out]; have HW4 := hide (show Calls Tryd.prog 34 #[.slice a3 N c3, .int .i64 512, .slice a4 512 c4] w4 fun e w' => ∃ v, e = .returned v ∧ Own w' w4.heap.size v l2 ∧ Below w4.heap.size w4 w' from by have h := With_any a3 c3 l1 a4 c4 (headL (t.headE false)) 512 w4 (by rw [HLe.out.1]; exact HG.out.2.2.2) (by rw [HH1.out]; omega) (by rw [HH1.out, HLe.out.1]; have := HG5.out; omega) HSa4.out HS4.out; rw [HLe.out.1, ← HNd.out, HH1.out, ← HL2'.out] at h; exact h); clear ho hb hs4) | (go_at_call 34; refine HW4.out.mono ?_; rintro e w5 ⟨v5, rfl, ho, hb⟩; have HB5 := hide (HB4.out.trans (hb.mono HB4.out.size)); have HSb5 := hide (HSb4.out.below hb); obtain ⟨a5, c5, rfl, hs5⟩ := own_sl ho; rw [HLe.out.2.1, ← HNd.out]; have HS5 := hide hs5; clear ho hb hs5))
  obtain ⟨q0, q1, q2, q4, q5, q6⟩ := rc_cells (HKq.out.below HB5.out)
  have HW5 := hide (show Calls Tryd.prog 34 #[.slice a5 N c5, .int .i64 (pZ : Int), .slice a2 b.length c2] w5 fun e w' => ∃ v, e = .returned v ∧ Own w' w5.heap.size v l3 ∧ Below w5.heap.size w5 w' by
    have h := With_any a5 c5 l2 a2 c2 b pZ w5 (by rw [HLe.out.2.1]; exact HG.out.2.2.2) HGb.out (by rw [HLe.out.2.1]; exact HG.out.2.1) HS5.out HSb5.out
    rw [HLe.out.2.1, ← HNd.out, ← HL3'.out] at h
    exact h)
  go_upto_region 5 with (go_at_call 34; refine HW5.out.mono ?_; rintro e w6 ⟨v6, rfl, ho, hb⟩; have HB6 := hide (HB5.out.trans (hb.mono HB5.out.size)); obtain ⟨a6, c6, rfl, hs6⟩ := own_sl ho; rw [HLe.out.2.2, ← HNd.out]; have HS6 := hide hs6; clear ho hb hs6)
  clear q0 q1 q2 q4 q5 q6

  have HK6 := hide (HKq.out.below HB6.out)
  have HL6 := hide (HLq.out.below HB6.out)
  have HI6 := hide (HIq.out.below HB6.out)
  have HSw : (show World → Prop from fun u => Blk u R (t.rc (.slice ai 16 ci) (.slice a n cap)) 34 ∧ Below w6.heap.size w6 u) w6.drew := ⟨HK6.out.drew, (Below.refl _ _).drew⟩

  refine b_region (S := fun u => Blk u R (t.rc (.slice ai 16 ci) (.slice a n cap)) 34 ∧ Below w6.heap.size w6 u) (F := (fun _ => true)) (by kernel_rfl) ?_
  refine b_take 0 (some 26) (.slice a6 N c6) rfl rfl (by kernel_rfl) (by kernel_rfl) (by kernel_rfl) (by kernel_rfl) (by kernel_rfl) (fun _ _ _ h => h) (by rfl) HSw ?_ ?_
  · intro u hSu
    have hSu := hSu
    go_simp
  try simp only [Act.put, List.setIfInBounds_toArray, List.set_cons_zero, List.set_cons_succ]
  refine b_take 1 (some 27) (.pointer (some ⟨R, 0, none⟩)) rfl rfl (by kernel_rfl) (by kernel_rfl) (by kernel_rfl) (by kernel_rfl) (by kernel_rfl) (fun _ _ _ h => h) (by rfl) HSw ?_ ?_
  · intro u hSu
    have hSu := hSu
    obtain ⟨q0, q1, q2, q4, q5, q6⟩ := rc_cells hSu.1
    go_simp
  try simp only [Act.put, List.setIfInBounds_toArray, List.set_cons_zero, List.set_cons_succ]
  refine b_take 2 (some 28) (.int .i64 t.sec) rfl rfl (by kernel_rfl) (by kernel_rfl) (by kernel_rfl) (by kernel_rfl) (by kernel_rfl) (fun _ _ _ h => h) (by rfl) HSw ?_ ?_
  · intro u hSu
    have hSu := hSu
    obtain ⟨q0, q1, q2, q4, q5, q6⟩ := rc_cells hSu.1
    go_simp
  try simp only [Act.put, List.setIfInBounds_toArray, List.set_cons_zero, List.set_cons_succ]
  refine b_take 3 (some 29) (.int .i64 (t.sec * 512)) rfl rfl (by kernel_rfl) (by kernel_rfl) (by kernel_rfl) (by kernel_rfl) (by kernel_rfl) (fun _ _ _ h => h) (by rfl) HSw ?_ ?_
  · intro u hSu
    have hSu := hSu
    have e3 := e3
    go_simp
  try simp only [Act.put, List.setIfInBounds_toArray, List.set_cons_zero, List.set_cons_succ]
  refine b_take 4 (some 30) (.int .i64 (pS : Int)) rfl rfl (by kernel_rfl) (by kernel_rfl) (by kernel_rfl) (by kernel_rfl) (by kernel_rfl) (fun _ _ _ h => h) (by rfl) HSw ?_ ?_
  · intro u hSu
    have hSu := hSu
    have e4 := e4
    go_simp
  try simp only [Act.put, List.setIfInBounds_toArray, List.set_cons_zero, List.set_cons_succ]
  refine b_take 5 (some 31) (.agg (t.rc (.slice ai 16 ci) (.slice a n cap))) rfl rfl (by kernel_rfl) (by kernel_rfl) (by kernel_rfl) (by kernel_rfl) (by kernel_rfl) (fun _ _ _ h => h) (by rfl) HSw ?_ ?_
  · intro u hSu
    have hSu := hSu
    exact exec_ld rfl rfl (loadR hSu.1)
  try simp only [Act.put, List.setIfInBounds_toArray, List.set_cons_zero, List.set_cons_succ]
  refine b_ready (rs := [6]) (by kernel_rfl) (by simp) ?_
  refine AllReadyB.cons (i := 6) rfl (fun K hK => ?_) AllReadyB.nil
  go_simp
  refine (HRh1 true _ (HI6.out.below HSw.2) (HL6.out.below HSw.2)).out.mono ?_
  rintro e9 w7 ⟨⟨v7, rfl, ho⟩, h7⟩
  obtain ⟨a7, c7, rfl, hs7⟩ := own_sl ho
  rw [HH2.out]
  have HS7 := hide hs7
  have HSx : (show World → Prop from fun u => Blk u R (t.rc (.slice ai 16 ci) (.slice a n cap)) 34 ∧ Below w6.heap.size w6 u) w7 := ⟨HSw.1.below h7, HSw.2.trans (h7.mono HSw.2.size)⟩
  have HW7 := hide (show Calls Tryd.prog 34 #[.slice a6 N c6, .int .i64 (pS : Int), .slice a7 512 c7] w7 fun e w' => ∃ v, e = .returned v ∧ Own w' w7.heap.size v (laidG d t) ∧ Below w7.heap.size w7 w' by
    have h := With_any a6 c6 l3 a7 c7 (headL (t.headE true)) pS w7 (by rw [HLe.out.2.2]; exact HG.out.2.2.2) (by rw [HH2.out]; omega) (by rw [HLe.out.2.2, HH2.out]; have := HG.out.2.2.1; omega) (HS6.out.below HSx.2) HS7.out
    rw [HLe.out.2.2, ← HNd.out, HH2.out, ← HLd.out] at h
    exact h)
  clear ho h7 hs7
  go_simp
  refine hK.out _ _ (fun _ => HSx) ?_
  clear hK K
  try simp only [Act.put, List.setIfInBounds_toArray, List.set_cons_zero, List.set_cons_succ]
  refine b_ready (rs := [7]) (by kernel_rfl) (by simp) ?_
  refine AllReadyB.cons (i := 7) rfl (fun K hK => ?_) AllReadyB.nil
  go_simp
  refine HW7.out.mono ?_
  rintro e9 w8 ⟨v8, rfl, ho, h8⟩
  have HO8 := hide ho
  have HSy : (show World → Prop from fun u => Blk u R (t.rc (.slice ai 16 ci) (.slice a n cap)) 34 ∧ Below w6.heap.size w6 u) w8 := ⟨HSx.1.below h8, HSx.2.trans (h8.mono HSx.2.size)⟩
  have HZ8 := hide HSx.2.size
  clear ho h8
  go_simp
  refine hK.out _ _ (fun _ => HSy) ?_
  clear hK K
  try simp only [Act.put, List.setIfInBounds_toArray, List.set_cons_zero, List.set_cons_succ]
  refine b_take 8 (some 4) (v8) rfl rfl (by kernel_rfl) (by kernel_rfl) (by kernel_rfl) (by kernel_rfl) (by kernel_rfl) (fun _ _ _ h => h) (by rfl) HSy ?_ ?_
  · intro u hSu
    have hSu := hSu
    go_simp
  try simp only [Act.put, List.setIfInBounds_toArray, List.set_cons_zero, List.set_cons_succ]
  refine b_done (by kernel_rfl) ?_ _

  have HBy := hide (HB6.out.trans (HSy.2.mono HB6.out.size))
  go_wp2_with fail
  go_ret
  exact ⟨⟨_, rfl, HO8.out.mono (Nat.le_trans HBq.out.size (Nat.le_trans HB6.out.size HZ8.out))⟩, HBq.out.trans (HBy.out.mono HBq.out.size)⟩
end Go.Proofs.YtpbnjobjjnhplaaDoor.Oct
