/- The program's Check. -/
import Derived.Test.YtpbnjobjjnhplaaDoorPGpi
import Derived.Test.YtpbnjobjjnhplaaDoorPApr
namespace Go.Proofs.YtpbnjobjjnhplaaDoor.Oct
open Go.RowKit

instance (p q : Int × Int) : Decidable (Off p q) := by unfold Off; infer_instance

/-- Its partitions' bytes. -/
def Tb.plc (t : Tb) : List (Int × Int) := plcG (prtG t.L t.L.length) (prtG t.L t.L.length).length

/-- What Check says. -/
def Tb.chk (t : Tb) : Int :=
  if 6 ≤ t.sec ∧ t.sec ≤ 32768 ∧ 1 ≤ t.L.length ∧ t.L.length ≤ 128 then
    if t.placed then
      if t.chkL t.L = 0 then
        if (prtG t.L t.L.length).length ≤ 32 then
          if t.plc.Pairwise Off then 0 else 14
        else 3
      else t.chkL t.L
    else 4
  else 11

theorem chkL_snoc (t : Tb) (x : E4) : ∀ (L : List E4), t.chkL L = 0 → t.chkL (L ++ [x]) = t.chkE x
  | [], _ => by
    simp only [List.nil_append, Tb.chkL]
    split
    · rename_i h; rw [h]
    · rfl
  | y :: L, h => by
    unfold Tb.chkL at h
    by_cases hy : t.chkE y = 0
    · rw [if_pos hy] at h
      simp only [List.cons_append, Tb.chkL]
      rw [if_pos hy]
      exact chkL_snoc t x L h
    · rw [if_neg hy] at h
      exact absurd h hy

theorem chkL_app (t : Tb) : ∀ (L M : List E4), t.chkL L ≠ 0 → t.chkL (L ++ M) = t.chkL L
  | [], _, h => absurd rfl h
  | y :: L, M, h => by
    unfold Tb.chkL at h
    simp only [List.cons_append, Tb.chkL]
    by_cases hy : t.chkE y = 0
    · rw [if_pos hy] at h ⊢
      rw [if_pos hy]
      exact chkL_app t L M h
    · rw [if_neg hy, if_neg hy]

theorem chkL_take (t : Tb) (L : List E4) (k : Nat) (x : E4) (hx : L[k]? = some x) (h0 : t.chkL (L.take k) = 0) : t.chkL (L.take (k + 1)) = t.chkE x ∧ (t.chkE x ≠ 0 → t.chkL L = t.chkE x) := by
  have h1 : t.chkL (L.take (k + 1)) = t.chkE x := by
    rw [List.take_add_one, hx, Option.toList_some]
    exact chkL_snoc t x _ h0
  refine ⟨h1, fun hne => ?_⟩
  have h2 := chkL_app t (L.take (k + 1)) (L.drop (k + 1)) (by rw [h1]; exact hne)
  rw [List.take_append_drop] at h2
  exact h2.trans h1

theorem chkL_all (t : Tb) : ∀ (L : List E4), t.chkL L = 0 → ∀ x ∈ L, t.chkE x = 0
  | [], _, x, hx => by simp at hx
  | y :: L, h, x, hx => by
    unfold Tb.chkL at h
    by_cases hy : t.chkE y = 0
    · rw [if_pos hy] at h
      rcases List.mem_cons.1 hx with rfl | hx
      · exact hy
      · exact chkL_all t L h x hx
    · rw [if_neg hy] at h
      exact absurd h hy

/-- Where a table's parts stand as they must, and no entry is wrong, its partitions' numbers are near. -/
theorem near_all (t : Tb) (hs : 6 ≤ t.sec ∧ t.sec ≤ 32768) (hn : t.L.length ≤ 128) (hp : t.placed) (h : t.chkL t.L = 0) : ∀ x ∈ t.L, x.none = false → nearG x.fi ∧ nearG x.la := by
  intro x hx hxn
  have h1 := chkL_all t t.L h x hx
  unfold Tb.chkE at h1
  rw [if_neg (by rw [hxn]; decide)] at h1
  split at h1
  · rename_i h2
    have hr := rowsG_near t.L.length (by omega)
    unfold Tb.placed at hp
    unfold nearG
    omega
  · exact absurd h1 (by decide)

set_option maxHeartbeats 16000000 in
set_option maxRecDepth 100000 in
theorem Check_any (hSS : SortSays) (t : Tb) (a : Option Addr) (cap : Nat) (cs : Array Value) (hcs : cs = (t.cells (.slice a t.L.length cap)).toArray) (hid : t.id.length = 16) (hok : ∀ x ∈ t.L, x.ok) (hlen : t.L.length ≤ 1000000) (w : World) (hl : LiesEn w a t.L) :
    Calls Tryd.prog 9 #[.agg cs] w fun e w' => e = .returned (.int .i64 t.chk) ∧ Below w.heap.size w w' := by
  obtain ⟨n, hn⟩ : ∃ n, n = t.L.length := ⟨_, rfl⟩
  obtain ⟨w1, hw1⟩ : ∃ w1, w1 = w.alloc (.cells cs 25) := ⟨_, rfl⟩
  obtain ⟨R, hR⟩ : ∃ R, R = w.heap.size := ⟨_, rfl⟩
  have hb1 : Below w.heap.size w w1 := by rw [hw1]; exact (Below.refl _ _).alloc (Nat.le_refl _) _
  have hk1 : Blk w1 R cs 25 := by rw [hw1, hR]; exact Blk.new _ _ _
  have hsz : cs.size = 22 := by rw [hcs]; exact t.cells_len _ hid
  have hCC := fun u (h : Blk u R cs 25) => tb_cells (v := .slice a n cap) hid (by rw [hn, ← hcs]; exact h)
  have HC := fun u (h : Blk u R cs 25) => hide (hCC u h)
  have HPl := fun u hs => hide (placed_any t a cap cs hcs hid hlen hs u)
  have HCe := fun u x hx => hide (checkEntry_any t _ cs hcs hid x x.cells.toArray rfl (hok x hx) u)
  have HPa := fun u hnr hlu => hide (Parts_any t a cap cs hcs hid hok hnr hlen u hlu)
  have HPc := fun u L a c hll hlu => hide (places_any L a c hll u hlu)
  have HAp := fun u a c L h hll => hide (apart_any hSS u a c L h hll)
  have HK1 := hide hk1
  have HL1 := hide (hl.below hb1)
  have HB1 := hide hb1
  have HSz := hide hsz
  have HW1 := hide hw1
  have HHR := hide hR
  have HHn := hide hn
  have HOk := hide hok
  have hln : n ≤ 1000000 := by omega
  obtain ⟨c0, c1, c2, c3, c4, c5⟩ := hCC _ hk1
  clear hcs hid hok hlen hl hw1 hR hb1 hk1 hsz hCC hn hSS
  go_enter Tryd.func9, Tryd.ntmps9
  go_upto_region 1 with fail
  rw [← HHR.out, ← HW1.out]
  go_wp2_with fail
  refine (within1 6 32768 t.sec _ _ _ ((Blk.new w1 _ _).cell 0 _ rfl)).mono ?_
  rintro e9 w2 ⟨rfl, h2⟩
  have hb2 : Below w1.heap.size w1 w2 := by rw [h2]; exact (Below.refl _ _).alloc (Nat.le_refl _) _
  have HK2 := hide (HK1.out.below hb2)
  have HL2 := hide (HL1.out.below hb2)
  have HB2 := hide (HB1.out.trans (hb2.mono HB1.out.size))
  clear hb2 h2 c0 c1 c2 c3 c4 c5 HK1 HL1 HB1 HW1
  by_cases q1 : 6 ≤ t.sec ∧ t.sec ≤ 32768
  case neg =>
    rw [decide_eq_false q1]
    have hd := hide (show t.chk = 11 by unfold Tb.chk; rw [if_neg (by omega)])
    clear q1
    go_wp2_with fail
    go_ret
    exact ⟨by rw [hd.out]; rfl, HB2.out⟩
  rw [decide_eq_true q1]
  obtain ⟨c0, c1, c2, c3, c4, c5⟩ := (HC _ HK2.out).out
  have HQ1 := hide q1
  clear q1
  go_wp2_with fail
  refine (within1 1 128 (n : Int) _ _ _ ((Blk.new w2 _ _).cell 0 _ rfl)).mono ?_
  rintro e9 w3 ⟨rfl, h3⟩
  have hb3 : Below w2.heap.size w2 w3 := by rw [h3]; exact (Below.refl _ _).alloc (Nat.le_refl _) _
  have HK3 := hide (HK2.out.below hb3)
  have HL3 := hide (HL2.out.below hb3)
  have HB3 := hide (HB2.out.trans (hb3.mono HB2.out.size))
  clear hb3 h3 c0 c1 c2 c3 c4 c5 HK2 HL2 HB2
  by_cases q2 : (1 : Int) ≤ (n : Int) ∧ (n : Int) ≤ 128
  case neg =>
    rw [decide_eq_false q2]
    have hd := hide (show t.chk = 11 by unfold Tb.chk; rw [if_neg (by have := HHn.out; omega)])
    clear q2
    go_wp2_with fail
    go_ret
    exact ⟨by rw [hd.out]; rfl, HB3.out⟩
  rw [decide_eq_true q2]
  have HQ2 := hide q2
  have HD0 := hide (show t.chk = if t.placed then if t.chkL t.L = 0 then if (prtG t.L t.L.length).length ≤ 32 then if t.plc.Pairwise Off then 0 else 14 else 3 else t.chkL t.L else 4 by
    unfold Tb.chk; rw [if_pos (by have := HHn.out; have := HQ1.out; omega)])
  clear q2
  have HKx := HK3
  go_wp2_with (first | (refine wpList_isop (.load 25 (.tmp 1)) rfl ?_; refine wpList_exec rfl (exec_ld rfl rfl (loadT HKx.out HSz.out)) ?_))
  refine (HPl _ (by have := HQ1.out; unfold nearG; omega)).out.mono ?_
  rintro e9 w4 ⟨rfl, h4⟩
  have HK4 := hide (HK3.out.below h4)
  have HL4 := hide (HL3.out.below h4)
  have HB4 := hide (HB3.out.trans (h4.mono HB3.out.size))
  clear h4 HK3 HL3 HB3 HKx HPl
  by_cases q3 : t.placed
  case neg =>
    rw [decide_eq_false q3]
    have hd := hide (show t.chk = 4 by rw [HD0.out, if_neg q3])
    clear q3
    go_wp2_with fail
    go_ret
    exact ⟨by rw [hd.out]; rfl, HB4.out⟩
  rw [decide_eq_true q3]
  have HQ3 := hide q3
  have HD1 := hide (HD0.out.trans (if_pos q3))
  clear q3 HD0
  obtain ⟨c0, c1, c2, c3, c4, c5⟩ := (HC _ HK4.out).out
  go_wp2_with fail
  clear c0 c1 c2 c3 c4 c5
  go_loopw [26] (fun i wr => ∃ k : Nat, k ≤ n ∧ i = .int .i64 (k : Int) ∧ t.chkL (t.L.take k) = 0 ∧ Blk wr R cs 25 ∧ LiesEn wr a t.L ∧ Below w.heap.size w wr) (fun i _ => n - (intOf i).toNat)
  case atStart => exact ⟨0, by omega, by simp, rfl, HK4.out, HL4.out, HB4.out⟩
  case round =>
    obtain ⟨k, hk, rfl, hck, hkr, hlr, hbr⟩ := hrel
    have HCk := hide hck
    have HKr := hide hkr
    have HLr := hide hlr
    have HBr := hide hbr
    clear hck hkr hlr hbr HK4 HL4 HB4
    by_cases hlt : k < n
    case pos =>
      obtain ⟨x, hx⟩ : ∃ x, t.L[k]? = some x := ⟨_, List.getElem?_eq_getElem (by rw [← HHn.out]; exact hlt)⟩
      have hxm : x ∈ t.L := List.mem_of_getElem? hx
      have HXo := hide (HOk.out x hxm)
      have HCx := fun u => HCe u x hxm
      have HTk := hide (chkL_take t t.L k x hx HCk.out)
      obtain ⟨xs, hxs⟩ : ∃ xs, xs = x.cells.toArray := ⟨_, rfl⟩
      rw [← hxs] at HCx
      have HXs := hide hxs
      have HSx := hide (show xs.size = 114 by rw [hxs]; exact E4.cells_len HXo.out)
      have HOn := hide (show xs.all (·.oneCell') = true by rw [hxs]; exact one_ent)
      rcases HLr.out with hnil | ⟨b, off, rfl, hb, hc⟩
      · rw [hnil] at hx; simp at hx
      have HXc := hide (hc k x hx)
      have hk0 : (0 : Int) ≤ (k : Int) := by omega
      have hk1 : (k : Int) < (n : Int) := by omega
      clear hc hb hx hxm hxs
      go_upto_region 8 with (first | (refine wpList_isop (.load 66 (.tmp 28)) rfl ?_; refine wpList_exec rfl (exec_ld rfl rfl (load_ent HXo.out HXs.out HXc.out)) ?_) | (refine wpList_isop (.store 66 (.tmp 4) (.tmp 29)) rfl ?_; refine wpList_store_row rfl 66 (.tmp 4) (.tmp 29) rfl wr.heap.size xs rfl rfl 66 _ (Blk.new _ _ _) (by rw [HSx.out]; kernel_rfl) (by rw [HSx.out]; kernel_rfl) HOn.out ?_))
      obtain ⟨X, hX⟩ : ∃ X, X = wr.heap.size := ⟨_, rfl⟩
      obtain ⟨w5, hw5⟩ : ∃ w5, w5 = (wr.alloc (.cells Tryd.zeroCells66 66)).setRow wr.heap.size xs := ⟨_, rfl⟩
      have hb5 : Below wr.heap.size wr w5 := by rw [hw5]; exact setrow_belowG ((Below.refl _ _).alloc (Nat.le_refl _) _) (Nat.le_refl _)
      have hk5 : Blk w5 X xs 66 := by rw [hw5, hX]; exact setRow_blk (Blk.new _ _ _) _
      rw [← hw5, ← hX]
      have HKx := hide (HKr.out.below hb5)
      have HB5 := hide (HBr.out.trans (hb5.mono HBr.out.size))
      have HL5 := hide (HLr.out.below hb5)
      have HK5 := hide hk5
      clear hw5 hX hb5 hk5 HKr HLr HBr HXc
      go_wp2_with (first | (refine wpList_isop (.load 25 (.tmp 1)) rfl ?_; refine wpList_exec rfl (exec_ld rfl rfl (loadT HKx.out HSz.out)) ?_) | (refine wpList_isop (.load 66 (.tmp 4)) rfl ?_; refine wpList_exec rfl (exec_ld rfl rfl (loadE HK5.out HSx.out)) ?_))
      refine (HCx _).out.mono ?_
      rintro e9 w6 ⟨rfl, h6⟩
      have HK6 := hide (HKx.out.below h6)
      have HB6 := hide (HB5.out.trans (h6.mono HB5.out.size))
      have HL6 := hide (HL5.out.below h6)
      clear h6 HKx HB5 HL5 HK5
      by_cases he : t.chkE x = 0
      · rw [he]
        have HT2 := hide (HTk.out.1.trans he)
        clear he
        go_wp2_with fail
        go_roundw
        case rel => exact ⟨k + 1, by omega, by go_num, HT2.out, HK6.out, HL6.out, HB6.out⟩
        case measure => simp [intOf]; omega
      · have hd := hide (show t.chk = t.chkE x by rw [HD1.out, HTk.out.2 he, if_neg he])
        obtain ⟨c, hc⟩ : ∃ c, c = t.chkE x := ⟨_, rfl⟩
        rw [← hc] at he hd ⊢
        have hcne : (c != 0) = true := by simpa using he
        clear hc he
        go_wp2_with fail
        go_ret
        exact ⟨by rw [hd.out]; rfl, HB6.out⟩
    case neg =>
      obtain rfl : k = n := by omega
      have hcl : t.chkL t.L = 0 := by have := HCk.out; rwa [HHn.out, List.take_length] at this
      have HD2 := hide (HD1.out.trans (if_pos hcl))
      have hnr := near_all t HQ1.out (by have := HHn.out; have := HQ2.out; omega) HQ3.out hcl
      have HNr := hide hnr
      have HKx := HKr
      clear hcl hnr hlt
      go_wp2_with (first | (refine wpList_isop (.load 25 (.tmp 1)) rfl ?_; refine wpList_exec rfl (exec_ld rfl rfl (loadT HKx.out HSz.out)) ?_))
      refine (HPa _ HNr.out HLr.out).out.mono ?_
      rintro e9 w5 ⟨⟨v5, rfl, ho5⟩, h5⟩
      have HB5 := hide (HBr.out.trans (h5.mono HBr.out.size))
      obtain ⟨a5, c5, rfl, hl5, _, _, _⟩ := OwnP.form ho5
      obtain ⟨PP, hPP⟩ : ∃ PP, PP = prtG t.L t.L.length := ⟨_, rfl⟩
      rw [← hPP] at hl5 ho5 ⊢
      have hPl : PP.length ≤ 128 := by rw [hPP]; have := prtG_len t.L t.L.length; have := HHn.out; have := HQ2.out; omega
      have HPP := hide hPP
      have HL5 := hide hl5
      clear ho5 h5 hl5 hPP
      by_cases q4 : PP.length ≤ 32
      case neg =>
        have hd := hide (show t.chk = 3 by rw [HD2.out, if_neg (by rw [← HPP.out]; exact q4)])
        have hgt : (PP.length : Int) > 32 := by omega
        clear q4
        go_wp2_with fail
        go_ret
        exact ⟨by rw [hd.out]; rfl, HB5.out⟩
      have HD3 := hide (HD2.out.trans (if_pos (by rw [← HPP.out]; exact q4)))
      have hgt : ¬ (PP.length : Int) > 32 := by omega
      have HGt := hide hgt
      clear q4
      go_wp2_with fail
      refine (HPc _ PP a5 c5 (by omega) HL5.out).out.mono ?_
      rintro e9 w6 ⟨⟨v6, rfl, ho6⟩, h6⟩
      have HB6 := hide (HB5.out.trans (h6.mono HB5.out.size))
      obtain ⟨a6, c6, rfl, hl6, _, _, _⟩ := OwnE.form ho6
      obtain ⟨EE, hEE⟩ : ∃ EE, EE = plcG PP PP.length := ⟨_, rfl⟩
      rw [← hEE] at hl6 ho6 ⊢
      have hEl : EE.length ≤ 1000000 := by rw [hEE]; have := plcG_len PP PP.length; omega
      have HPE := hide (show t.plc = EE by unfold Tb.plc; rw [← HPP.out, hEE])
      have HL6 := hide hl6
      clear ho6 h6 hl6 hEE HB5 HL5
      go_wp2_with fail
      refine (HAp _ a6 c6 EE HL6.out hEl).out.mono ?_
      rintro e9 w7 ⟨b7, rfl, hi7, h7⟩
      have HB7 := hide (HB6.out.trans (h7.mono HB6.out.size))
      clear h7 HB6 HL6
      rw [HPE.out] at HD3
      cases b7
      · have hd := hide (show t.chk = 14 by rw [HD3.out, if_neg (fun h => absurd (hi7.2 h) (by decide))])
        clear hi7
        go_wp2_with fail
        go_ret
        exact ⟨by rw [hd.out]; rfl, HB7.out⟩
      · have hd := hide (show t.chk = 0 by rw [HD3.out, if_pos (hi7.1 rfl)])
        clear hi7
        go_wp2_with fail
        go_ret
        exact ⟨by rw [hd.out]; rfl, HB7.out⟩
end Go.Proofs.YtpbnjobjjnhplaaDoor.Oct
