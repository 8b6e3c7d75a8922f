/- A table that came in, opened. -/
import Derived.Test.YtpbnjobjjnhplaaDoorPGqj
import Derived.Test.YtpbnjobjjnhplaaDoorPOpenPts
import Derived.Lib.SmallJoins
import Derived.Deep.Slices
import Derived.OpenShut
namespace Go.Proofs.YtpbnjobjjnhplaaDoor.Oct
open Go.RowKit

theorem light_any (t : Tb) (a : Option Addr) (n cap : Nat) (hid : t.id.length = 16) (w : World) :
    Calls Tryd.prog 7 #[.agg (t.cells (.slice a n cap)).toArray] w fun e w' => e = .returned (.bool (decide ((n : Int) ≤ 140))) ∧ Below w.heap.size w w' := by
  have y := (Blk.new w (t.cells (.slice a n cap)).toArray 25).cell 19 (.slice a n cap) (by
    rw [List.getElem?_toArray]
    unfold Tb.cells
    rw [List.getElem?_append_right (by simp), List.getElem?_append_right (by simp [hid])]
    simp [hid])
  have HB := hide ((Below.refl w.heap.size w).alloc (Nat.le_refl _) (.cells (t.cells (.slice a n cap)).toArray 25))
  generalize (t.cells (.slice a n cap)).toArray = C at *
  clear hid
  go_enter Tryd.func7, Tryd.ntmps7
  go_wp2_with fail
  go_ret
  exact ⟨rfl, HB.out⟩

set_option maxHeartbeats 8000000 in
set_option maxRecDepth 100000 in
theorem gptChecks_walk (hSS : SortSays) (t : Tb) (a : Option Addr) (cap : Nat) (hid : t.id.length = 16) (hok : ∀ x ∈ t.L, x.ok) (w : World) (hl : LiesEn w a t.L) (hV : VarG w) :
    Calls Tryd.prog 3 #[.agg (t.cells (.slice a t.L.length cap)).toArray] w fun e w' => e = .returned (.bool true) ∧ Below w.heap.size w w' := by
  have HLi := fun u => hide (light_any t a t.L.length cap hid u)
  have HLa := fun u hv => hide (laid_ok hSS u hv)
  obtain ⟨cs, hcs⟩ : ∃ cs, cs = (t.cells (.slice a t.L.length cap)).toArray := ⟨_, rfl⟩
  have hsz : cs.size = 22 := by rw [hcs]; exact tb_size hid
  have HSz := hide hsz
  rw [← hcs] at HLi ⊢
  obtain ⟨R, hR⟩ : ∃ R, R = w.heap.size := ⟨_, rfl⟩
  obtain ⟨w1, hw1⟩ : ∃ w1, w1 = w.alloc (.cells cs 25) := ⟨_, rfl⟩
  have hb1 : Below w.heap.size w w1 := by rw [hw1]; exact (Below.refl _ _).alloc (Nat.le_refl _) _
  have hk1 : Blk w1 R cs 25 := by rw [hw1, hR]; exact Blk.new _ _ _
  have HR := hide hR
  have HW1 := hide hw1
  have HK1 := hide hk1
  have HB1 := hide hb1
  have HL1 := hide (hl.below hb1)
  have HV1 := hide (hV.below hb1)
  by_cases hn : t.L.length ≤ 140
  case neg =>
    have hd := hide (show decide ((t.L.length : Int) ≤ 140) = false by simpa using by omega)
    obtain ⟨B, hB⟩ : ∃ B, B = decide ((t.L.length : Int) ≤ 140) := ⟨_, rfl⟩
    rw [← hB] at HLi hd
    have hBf : B = false := hd.out
    subst hBf
    clear hSS hid hok hl hV hcs hsz hR hw1 hb1 hk1 hn hd hB
    go_enter Tryd.func3, Tryd.ntmps3
    go_upto_region 1 with fail
    rw [← HW1.out, ← HR.out]
    go_wp2_with (first | (refine wpList_isop (.load 25 (.tmp 1)) rfl ?_; refine wpList_exec rfl (exec_ld rfl rfl (loadT HK1.out HSz.out)) ?_) | (go_at_call 7; refine (HLi _).out.mono ?_; rintro e w2 ⟨rfl, hb⟩; have HB2 := hide (HB1.out.trans (hb.mono HB1.out.size)); have HV2 := hide (HV1.out.below hb); clear hb) | (go_at_call 8; refine (HLa _ HV2.out).out.mono ?_; rintro e w3 ⟨rfl, hb⟩; have HB3 := hide (HB2.out.trans (hb.mono HB2.out.size)); clear hb))
    go_ret
    exact ⟨rfl, HB3.out⟩
  have HCk := fun u hu => hide (Check_any hSS t a cap cs hcs hid hok (by omega) u hu)
  have HOf := fun u hu => hide (of_any t a cap cs hcs hid hok (by omega) u hu)
  have HRc := fun u vi b c hu => hide (rchk_any t vi b c hok (by omega) u hu)
  obtain ⟨B, hB⟩ : ∃ B, B = decide ((t.L.length : Int) ≤ 140) := ⟨_, rfl⟩
  rw [← hB] at HLi
  have hBt : B = true := by rw [hB]; simpa using by omega
  subst hBt
  obtain ⟨er, her⟩ : ∃ er, er = t.chk := ⟨_, rfl⟩
  rw [← her] at HCk HRc
  obtain ⟨n, hnn⟩ : ∃ n, n = t.L.length := ⟨_, rfl⟩
  rw [← hnn] at HOf HRc
  clear hSS hid hok hl hV hcs hsz hR hw1 hb1 hk1 hn hB her hnn
  go_enter Tryd.func3, Tryd.ntmps3
  go_upto_region 1 with fail
  rw [← HW1.out, ← HR.out]
  go_upto_region 3 with (first | (refine wpList_isop (.load 25 (.tmp 1)) rfl ?_; refine wpList_exec rfl (exec_ld rfl rfl (loadT HK1.out HSz.out)) ?_) | (go_at_call 7; refine (HLi _).out.mono ?_; rintro e w2 ⟨rfl, hb⟩; have HK2 := hide (HK1.out.below hb); have HB2 := hide (HB1.out.trans (hb.mono HB1.out.size)); have HV2 := hide (HV1.out.below hb); have HL2 := hide (HL1.out.below hb); clear hb))

  have HS0 : (show World → Prop from fun u => Blk u R cs 25 ∧ LiesEn u a t.L ∧ VarG u ∧ Below w.heap.size w u) w2.drew := ⟨HK2.out.drew, HL2.out.below (Below.refl _ _).drew, HV2.out.below (Below.refl _ _).drew, HB2.out.drew⟩
  refine wp_region_held_drew (S := fun u => Blk u R cs 25 ∧ LiesEn u a t.L ∧ VarG u ∧ Below w.heap.size w u) (by kernel_rfl) HS0 (fun _ => ?_)
  refine wpAnyH_ready (rs := [0]) (by kernel_rfl) (by simp) ?_
  refine AllReadyH.cons (i := 0) rfl (fun K hK => ?_) AllReadyH.nil
  go_simp
  refine (HLa _ HS0.2.2.1).out.mono ?_
  rintro e9 y1 ⟨rfl, hbx⟩
  have HSy1 : (show World → Prop from fun u => Blk u R cs 25 ∧ LiesEn u a t.L ∧ VarG u ∧ Below w.heap.size w u) y1 := ⟨HS0.1.below hbx, HS0.2.1.below hbx, HS0.2.2.1.below hbx, HS0.2.2.2.trans (hbx.mono HS0.2.2.2.size)⟩
  clear hbx
  go_simp
  refine hK.out _ _ HSy1 (fun _ => ?_)
  clear hK K
  try simp only [Act.put, List.setIfInBounds_toArray, List.set_cons_zero, List.set_cons_succ]
  refine any_take 1 (some 8) (.bool true) rfl rfl (by kernel_rfl) (by kernel_rfl) (by kernel_rfl) (fun _ _ _ h => h) (by rfl) HSy1 ?_ ?_
  · intro u hSu
    go_simp
  try simp only [Act.put, List.setIfInBounds_toArray, List.set_cons_zero, List.set_cons_succ]
  refine any_take 2 (some 9) (.agg cs) rfl rfl (by kernel_rfl) (by kernel_rfl) (by kernel_rfl) (fun _ _ _ h => h) (by rfl) HSy1 ?_ ?_
  · intro u hSu
    exact exec_ld rfl rfl (loadT hSu.1 HSz.out)
  try simp only [Act.put, List.setIfInBounds_toArray, List.set_cons_zero, List.set_cons_succ]
  refine any_take 4 (some 11) (.agg cs) rfl rfl (by kernel_rfl) (by kernel_rfl) (by kernel_rfl) (fun _ _ _ h => h) (by rfl) HSy1 ?_ ?_
  · intro u hSu
    exact exec_ld rfl rfl (loadT hSu.1 HSz.out)
  try simp only [Act.put, List.setIfInBounds_toArray, List.set_cons_zero, List.set_cons_succ]
  refine wpAnyH_ready (rs := [3]) (by kernel_rfl) (by simp) ?_
  refine AllReadyH.cons (i := 3) rfl (fun K hK => ?_) AllReadyH.nil
  go_simp
  refine (HCk _ HSy1.2.1).out.mono ?_
  rintro e9 y2 ⟨rfl, hbx⟩
  have HSy2 : (show World → Prop from fun u => Blk u R cs 25 ∧ LiesEn u a t.L ∧ VarG u ∧ Below w.heap.size w u) y2 := ⟨HSy1.1.below hbx, HSy1.2.1.below hbx, HSy1.2.2.1.below hbx, HSy1.2.2.2.trans (hbx.mono HSy1.2.2.2.size)⟩
  clear hbx
  go_simp
  refine hK.out _ _ HSy2 (fun _ => ?_)
  clear hK K
  try simp only [Act.put, List.setIfInBounds_toArray, List.set_cons_zero, List.set_cons_succ]
  refine wpAnyH_ready (rs := [5]) (by kernel_rfl) (by simp) ?_
  refine AllReadyH.cons (i := 5) rfl (fun K hK => ?_) AllReadyH.nil
  go_simp
  refine (HOf _ HSy2.2.1).out.mono ?_
  rintro e9 y3 ⟨⟨vi, b, c, rfl, _, hld⟩, hbx⟩
  have HSy3 : (show World → Prop from fun u => Blk u R cs 25 ∧ LiesEn u a t.L ∧ VarG u ∧ Below w.heap.size w u) y3 := ⟨HSy2.1.below hbx, HSy2.2.1.below hbx, HSy2.2.2.1.below hbx, HSy2.2.2.2.trans (hbx.mono HSy2.2.2.2.size)⟩
  clear hbx
  go_simp
  refine hK.out _ _ HSy3 (fun _ => ?_)
  clear hK K
  try simp only [Act.put, List.setIfInBounds_toArray, List.set_cons_zero, List.set_cons_succ]
  refine wpAnyH_ready (rs := [6]) (by kernel_rfl) (by simp) ?_
  refine AllReadyH.cons (i := 6) rfl (fun K hK => ?_) AllReadyH.nil
  go_simp
  refine (HRc _ vi b c hld).out.mono ?_
  rintro e9 y4 ⟨rfl, hbx⟩
  have HSy4 : (show World → Prop from fun u => Blk u R cs 25 ∧ LiesEn u a t.L ∧ VarG u ∧ Below w.heap.size w u) y4 := ⟨HSy3.1.below hbx, HSy3.2.1.below hbx, HSy3.2.2.1.below hbx, HSy3.2.2.2.trans (hbx.mono HSy3.2.2.2.size)⟩
  clear hbx
  go_simp
  refine hK.out _ _ HSy4 (fun _ => ?_)
  clear hK K
  try simp only [Act.put, List.setIfInBounds_toArray, List.set_cons_zero, List.set_cons_succ]
  refine any_take 7 (some 14) (.bool true) rfl rfl (by kernel_rfl) (by kernel_rfl) (by kernel_rfl) (fun _ _ _ h => h) (by rfl) HSy4 ?_ ?_
  · intro u hSu
    go_simp
  try simp only [Act.put, List.setIfInBounds_toArray, List.set_cons_zero, List.set_cons_succ]
  refine any_take 8 (some 15) (.bool true) rfl rfl (by kernel_rfl) (by kernel_rfl) (by kernel_rfl) (fun _ _ _ h => h) (by rfl) HSy4 ?_ ?_
  · intro u hSu
    go_simp
  try simp only [Act.put, List.setIfInBounds_toArray, List.set_cons_zero, List.set_cons_succ]
  refine any_take 9 (some 2) (.bool true) rfl rfl (by kernel_rfl) (by kernel_rfl) (by kernel_rfl) (fun _ _ _ h => h) (by rfl) HSy4 ?_ ?_
  · intro u hSu
    go_simp
  try simp only [Act.put, List.setIfInBounds_toArray, List.set_cons_zero, List.set_cons_succ]
  refine wpAnyH_done (by kernel_rfl) ?_ _

  go_wp2_with fail
  go_ret
  exact ⟨rfl, HSy4.2.2.2⟩
end Go.Proofs.YtpbnjobjjnhplaaDoor.Oct

namespace Go.Proofs.YtpbnjobjjnhplaaDoor.Oct
open Go.RowKit Go.Deep Go.ChangeShapes Go.WideShapes Go.ChangeAt

theorem split_at {α : Type} (l : List α) (a n : Nat) : l.drop a = (l.drop a).take n ++ l.drop (a + n) := by
  rw [← List.drop_drop, List.take_append_drop]

theorem cellsG2 : Tryd.prog.cellsOf 2 = 1 := by kernel_rfl
theorem cellsG5 : Tryd.prog.cellsOf 5 = 1 := by kernel_rfl
theorem cellsG16 : Tryd.prog.cellsOf 22 = 16 := by kernel_rfl
theorem cellsG32 : Tryd.prog.cellsOf 63 = 32 := by kernel_rfl
theorem cellsG80 : Tryd.prog.cellsOf 64 = 80 := by kernel_rfl
theorem cellsGL : Tryd.prog.cellsOf 23 = 1 := by kernel_rfl
theorem cellsGE : Tryd.prog.cellsOf 66 = 114 := by kernel_rfl
theorem cellsGT : Tryd.prog.cellsOf 25 = 22 := by kernel_rfl

/-- An array of bytes. -/
theorem open_arr {H : Type} {enc : TypeId × Value → H} {W : World} {base : Nat} {spare : Nat → Bool} {held : Bool} {fuel : Nat} {cs : List Value} {x : DataW H × List MemPlace} (t : TypeId) (n : Nat) (ht : Tryd.prog.underlying t = some (.array n 5)) (hc : Tryd.prog.cellsOf t = n)
    (h : DataW.trod enc Tryd.prog W base spare held fuel t cs = some x) : ∃ l : List Int, l.length = n ∧ Byts l ∧ cs = l.map (Value.int .u8) := by
  obtain ⟨xs, m, _, _, hlen, hn, hel⟩ := DataW.trod_array ht h
  rw [hc] at hlen
  haveI : Inhabited Int := ⟨0⟩
  obtain ⟨q, hq⟩ := choose_lt (α := Int) (p := fun i o => cs[i]? = some (.int .u8 o) ∧ 0 ≤ o ∧ o < 256) (n := n) (fun i hi => by
    have h1 := hel i hi
    rw [cellsG5, List.getElem?_eq_getElem (by omega)] at h1
    obtain ⟨k, hk, _, hw⟩ := DataW.trod_int Tryd.underlying5 h1
    refine ⟨k, ?_, ?_⟩
    · have h2 : ((cs.drop (i * 1)).take 1)[0]? = some (.int .u8 k) := by rw [hk]; rfl
      rw [List.getElem?_take, if_pos (by omega), List.getElem?_drop] at h2
      simpa using h2
    · have := bounds_u8 hw
      omega)
  refine ⟨(List.range n).map q, by simp, fun k => ?_, ?_⟩
  · by_cases hk : k < n
    · have := (hq k hk).2
      simpa [hk] using this
    · simp [hk]
  · refine List.ext_getElem? fun i => ?_
    by_cases hi : i < n
    · rw [(hq i hi).1]
      simp [hi]
    · rw [List.getElem?_eq_none (by omega), List.getElem?_eq_none (by simp; omega)]

/-- Its numbers are of 64 bits, its bytes are bytes. -/
structure E4.fit (x : E4) : Prop where
  ok : x.ok
  ids : Byts x.ids
  rest : Byts x.rest
  fi : -9223372036854775808 ≤ x.fi ∧ x.fi ≤ 9223372036854775807
  la : -9223372036854775808 ≤ x.la ∧ x.la ≤ 9223372036854775807

set_option maxRecDepth 100000 in
theorem open_ent {H : Type} {enc : TypeId × Value → H} {W : World} {base : Nat} {spare : Nat → Bool} {held : Bool} {fuel : Nat} {cs : List Value} {x : DataW H × List MemPlace}
    (h : DataW.trod enc Tryd.prog W base spare held fuel 66 cs = some x) : ∃ y : E4, y.fit ∧ cs = y.cells := by
  obtain ⟨xs, n, _, _, hlen, hxl, hall⟩ := DataW.trod_struct Tryd.underlying66 h
  rw [cellsGE] at hlen
  match xs, hxl with
  | [y0, y1, y2, y3], _ =>
    have h0 : DataW.trod enc Tryd.prog W base spare held n 63 ((cs.drop 0).take (Tryd.prog.cellsOf 63)) = some y0 := hall 0 _ rfl
    have h1 : DataW.trod enc Tryd.prog W base spare held n 2 ((cs.drop 32).take (Tryd.prog.cellsOf 2)) = some y1 := hall 1 _ rfl
    have h2 : DataW.trod enc Tryd.prog W base spare held n 2 ((cs.drop 33).take (Tryd.prog.cellsOf 2)) = some y2 := hall 2 _ rfl
    have h3 : DataW.trod enc Tryd.prog W base spare held n 64 ((cs.drop 34).take (Tryd.prog.cellsOf 64)) = some y3 := hall 3 _ rfl
    rw [cellsG32] at h0
    rw [cellsG2] at h1 h2
    rw [cellsG80] at h3
    obtain ⟨l0, p0, b0, e0⟩ := open_arr _ 32 Tryd.underlying63 cellsG32 h0
    obtain ⟨k1, e1, _, w1⟩ := DataW.trod_int Tryd.underlying2 h1
    obtain ⟨k2, e2, _, w2⟩ := DataW.trod_int Tryd.underlying2 h2
    obtain ⟨l3, p3, b3, e3⟩ := open_arr _ 80 Tryd.underlying64 cellsG80 h3
    refine ⟨⟨l0, k1, k2, l3⟩, ⟨⟨p0, p3⟩, b0, b3, bounds_i64 w1, bounds_i64 w2⟩, ?_⟩
    have hd : cs.drop 114 = [] := List.drop_of_length_le (by omega)
    have e : cs = (cs.drop 0).take 32 ++ ((cs.drop 32).take 1 ++ ((cs.drop 33).take 1 ++ ((cs.drop 34).take 80 ++ cs.drop 114))) := by
      rw [← split_at cs 34 80, ← split_at cs 33 1, ← split_at cs 32 1, ← split_at cs 0 32]
      rfl
    rw [e, e0, e1, e2, e3, hd]
    unfold E4.cells
    simp

/-- A table that came in. -/
structure Tb.fit (t : Tb) : Prop where
  id : t.id.length = 16
  bi : Byts t.id
  ents : ∀ x ∈ t.L, x.fit
  len : t.L.length ≤ maxLen

theorem Tb.fit.ok {t : Tb} (h : t.fit) : ∀ x ∈ t.L, x.ok := fun x hx => (h.ents x hx).ok

set_option maxRecDepth 100000 in
theorem open_gtab {H : Type} {enc : TypeId × Value → H} {W : World} {base : Nat} {v : Value} {d : DataW H} {p : List MemPlace}
    (hv : Value.okWide Tryd.prog W .any base 25 v) (h : DataW.Trod enc Tryd.prog W 0 (fun _ => true) true 25 v d p) :
    ∃ (t : Tb) (a : Option Addr) (cap : Nat), v = .agg (t.cells (.slice a t.L.length cap)).toArray ∧ t.fit ∧ LiesEn W a t.L := by
  obtain ⟨ca, rfl, hsz⟩ := okWide_struct Tryd.underlying25 hv
  obtain ⟨fuel, hf⟩ := h
  obtain ⟨xs, n, _, _, hlen, hxl, hall⟩ := DataW.trod_struct Tryd.underlying25 hf
  obtain ⟨cs, hcs⟩ : ∃ cs : List Value, cs = ca.toList := ⟨_, rfl⟩
  have hval : (Value.agg ca).cells.toList = cs := by rw [hcs]; rfl
  rw [hval] at hlen hall
  rw [cellsGT] at hlen
  match xs, hxl with
  | [y0, y1, y2, y3, y4, y5, y6], _ =>
    have h0 : DataW.trod enc Tryd.prog W 0 (fun _ => true) true n 2 ((cs.drop 0).take (Tryd.prog.cellsOf 2)) = some y0 := hall 0 _ rfl
    have h1 : DataW.trod enc Tryd.prog W 0 (fun _ => true) true n 2 ((cs.drop 1).take (Tryd.prog.cellsOf 2)) = some y1 := hall 1 _ rfl
    have h2 : DataW.trod enc Tryd.prog W 0 (fun _ => true) true n 2 ((cs.drop 2).take (Tryd.prog.cellsOf 2)) = some y2 := hall 2 _ rfl
    have h3 : DataW.trod enc Tryd.prog W 0 (fun _ => true) true n 22 ((cs.drop 3).take (Tryd.prog.cellsOf 22)) = some y3 := hall 3 _ rfl
    have h4 : DataW.trod enc Tryd.prog W 0 (fun _ => true) true n 23 ((cs.drop 19).take (Tryd.prog.cellsOf 23)) = some y4 := hall 4 _ rfl
    have h5 : DataW.trod enc Tryd.prog W 0 (fun _ => true) true n 2 ((cs.drop 20).take (Tryd.prog.cellsOf 2)) = some y5 := hall 5 _ rfl
    have h6 : DataW.trod enc Tryd.prog W 0 (fun _ => true) true n 2 ((cs.drop 21).take (Tryd.prog.cellsOf 2)) = some y6 := hall 6 _ rfl
    rw [cellsG2] at h0 h1 h2 h5 h6
    rw [cellsG16] at h3
    rw [cellsGL] at h4
    obtain ⟨k0, e0, _, w0⟩ := DataW.trod_int Tryd.underlying2 h0
    obtain ⟨k1, e1, _, w1⟩ := DataW.trod_int Tryd.underlying2 h1
    obtain ⟨k2, e2, _, w2⟩ := DataW.trod_int Tryd.underlying2 h2
    obtain ⟨l3, p3, b3, e3⟩ := open_arr _ 16 Tryd.underlying22 cellsG16 h3
    obtain ⟨k5, e5, _, w5⟩ := DataW.trod_int Tryd.underlying2 h5
    obtain ⟨k6, e6, _, w6⟩ := DataW.trod_int Tryd.underlying2 h6
    have hd : cs.drop 22 = [] := List.drop_of_length_le (by omega)
    have e : cs = (cs.drop 0).take 1 ++ ((cs.drop 1).take 1 ++ ((cs.drop 2).take 1 ++ ((cs.drop 3).take 16 ++ ((cs.drop 19).take 1 ++ ((cs.drop 20).take 1 ++ ((cs.drop 21).take 1 ++ cs.drop 22)))))) := by
      rw [← split_at cs 21 1, ← split_at cs 20 1, ← split_at cs 19 1, ← split_at cs 3 16, ← split_at cs 2 1, ← split_at cs 1 1, ← split_at cs 0 1]
      rfl
    have hfin : ∀ (L : List E4) (a : Option Addr) (cap : Nat), (cs.drop 19).take 1 = [.slice a L.length cap] → (∀ x ∈ L, x.fit) → L.length ≤ maxLen → LiesEn W a L → ∃ (t : Tb) (a : Option Addr) (cap : Nat), Value.agg ca = .agg (t.cells (.slice a t.L.length cap)).toArray ∧ t.fit ∧ LiesEn W a t.L := by
      intro L a cap e4 hL hln hli
      refine ⟨⟨k0, k1, k2, l3, L, k5, k6⟩, a, cap, ?_, ⟨p3, b3, hL, hln⟩, hli⟩
      congr 1
      apply Array.ext'
      rw [← hcs, e, e0, e1, e2, e3, e4, e5, e6, hd]
      unfold Tb.cells
      simp
    rcases open_slice Tryd.underlying23 h4 with ⟨e4, _⟩ | ⟨a, len, cap, m, nn, D, Pl, e4, _, hl, hm, hmm, _, hx⟩
    · exact hfin [] none 0 e4 (fun x hx => by cases hx) (by simp) (Or.inl rfl)
    · simp only [if_true] at hmm
      rw [cellsGE] at hx
      by_cases hz : len = 0
      · subst hz
        exact hfin [] (some a) cap e4 (fun x hx => by cases hx) (by simp) (Or.inl rfl)
      haveI : Inhabited E4 := ⟨E4.z⟩
      have hs : a.spot = none := by
        obtain ⟨cs', g1, g2⟩ := hx 0 (by omega)
        obtain ⟨_, hlen', hcell⟩ := World.cells?_some g1
        have q0 := hcell 0 (by omega)
        obtain ⟨y, hy, ey⟩ := open_ent g2
        rw [ey, List.getElem?_eq_getElem (by rw [E4.cells_len hy.ok]; omega)] at q0
        obtain ⟨b, off, spot⟩ := a
        simpa [Addr.add] using World.cell?_spot q0
      obtain ⟨b, off, spot⟩ := a
      simp only at hs
      subst hs
      obtain ⟨q, hq⟩ := choose_lt (α := E4) (p := fun i o => o.fit ∧ ∀ j v, o.cells[j]? = some v → W.cell? ⟨b, off + i * 114 + j, none⟩ = some v) (n := m) (fun i hi => by
        obtain ⟨cs', g1, g2⟩ := hx i hi
        obtain ⟨_, hlen', hcell⟩ := World.cells?_some g1
        obtain ⟨y, hy, rfl⟩ := open_ent g2
        refine ⟨y, hy, fun j v hj => ?_⟩
        have hj2 : j < y.cells.length := (List.getElem?_eq_some_iff.1 hj).1
        have q0 := hcell j (by omega)
        rw [add_plain, add_plain] at q0
        rw [q0, ← hj])
      obtain ⟨L, hL⟩ : ∃ L, L = (List.range len).map q := ⟨_, rfl⟩
      have hlen2 : L.length = len := by rw [hL]; simp
      refine hfin L (some ⟨b, off, none⟩) cap (by rw [hlen2]; exact e4) (fun x hx => ?_) (by omega) (Or.inr ⟨b, off, rfl, ?_, fun k x hk j u hj => ?_⟩)
      · rw [hL] at hx
        obtain ⟨k, hk, rfl⟩ := List.mem_map.1 hx
        exact (hq k (by have := List.mem_range.1 hk; omega)).1
      · have h9 := hq 0 (by omega)
        have : (q 0).cells[0]? = some ((q 0).cells[0]'(by rw [E4.cells_len h9.1.ok]; omega)) := List.getElem?_eq_getElem _
        exact lt_of_cell (h9.2 0 _ this)
      · have hk2 : k < len := by rw [← hlen2]; exact (List.getElem?_eq_some_iff.1 hk).1
        have : q k = x := by
          rw [hL] at hk
          simpa [hk2] using hk
        rw [← this] at hj
        exact (hq k (by omega)).2 j u hj
end Go.Proofs.YtpbnjobjjnhplaaDoor.Oct
