/- PartsFinds: the first path of a name is found; no disk has no map. -/
import Derived.Test.YtjpdfchdgphdoaaGreatDoorPQfb
import Derived.Test.YtjpdfchdgphdoaaGreatDoorPQfc
import Derived.Test.YtjpdfchdgphdoaaGreatDoorPQph
import Derived.Test.YtjpdfchdgphdoaaGreatDoorPSrt
import Derived.Test.YtjpdfchdgphdoaaGreatDoorRows
import Derived.Test.YtjpdfchdgphdoaaGreatDoorCards
import Derived.Test.YtjpdfchdgphdoaaGreatDoorTie
import Derived.LaidMore
import Derived.ChangeMaps5
import Derived.Stop.Joined
import Derived.SevenTiedAt
namespace Go.Proofs.YtjpdfchdgphdoaaGreatDoor.Oct
open Go.RowKit Go.WideShapes Go.ChangeShapes Go.ChangeAt

theorem eqS_refl (s : ByteArray) : (s.toList == s.toList) = true := by simp

set_option maxHeartbeats 16000000 in
set_option maxRecDepth 100000 in
theorem finds_walk (a : Option Addr) (cap : Nat) (L : List PT) (name : ByteArray) (w : World) (hL : LiesT w a L) (hw : ∀ r ∈ L, (PT.L r).length * 16 ≤ 140737488351232) :
    Calls Tryz.prog 5 #[.slice a L.length cap, .string name] w fun e w' => e = .returned (.bool true) ∧ Below w.heap.size w w' := by
  have HMp := fun u => hide (mapped_any sort_says u)
  by_cases hbig : (50 : Int) < (L.length : Int)
  · clear hL hw
    go_enter Tryz.func5, Tryz.ntmps5
    go_wp2_with fail
    refine (HMp _).out.mono ?_
    rintro e9 w1 ⟨rfl, hb1⟩
    have HB1 := hide hb1
    clear hb1
    go_wp2_with fail
    go_ret
    exact ⟨rfl, HB1.out⟩
  have HF := hide (find_any w a cap L name hL (by omega) hw)
  have HL := hide hL
  have HWe := hide hw
  obtain ⟨n, hn⟩ : ∃ n, n = L.length := ⟨_, rfl⟩
  rw [← hn] at HF hbig ⊢
  have HN := hide (show n ≤ L.length ∧ L.length ≤ n by omega)
  clear hL hw hn
  go_enter Tryz.func5, Tryz.ntmps5
  go_wp2_with fail
  refine HF.out.mono ?_
  rintro e9 w1 ⟨h1, hb1⟩
  have HB1 := hide hb1
  clear hb1 HF
  rcases h1 with ⟨k, v, hk, rfl, ⟨av, cv, rfl, hlv, _⟩, hh, hno⟩ | ⟨rfl, hno⟩
  · as_aux_lemma =>
    have HNo := hide hno
    have HK := hide hk
    have HH := hide hh
    have HLv := hide hlv
    obtain ⟨r, hr⟩ : ∃ r, r = L.getD k PT.nil := ⟨_, rfl⟩
    rw [← hr] at HH HLv ⊢
    have HR := hide hr
    have hmem : r ∈ L := by rw [hr, List.getD_eq_getElem?_getD, List.getElem?_eq_getElem hk]; exact List.getElem_mem _
    have HWl := hide (HWe.out r hmem)
    clear hk hh hno hlv hr hmem
    obtain ⟨rs, rk, rz, ra, rc, rL⟩ := r
    dsimp only at HH HLv HWl ⊢
    obtain ⟨m, hm⟩ : ∃ m, m = rL.length := ⟨_, rfl⟩
    rw [← hm]
    have HMl := hide hm
    clear hm
    have HPn := fun u => hide (pparse_nil u)
    have HWn := fun u => hide (window_nil u)
    have HCn := fun u => hide (content_nil u)
    have H1c : Hid (zeroM.all (·.oneCell') = true) := hide (by simp [zeroM, Value.oneCell'])
    have H1i : Hid ((Tryz.prog.info? 63).map (·.size) = some zeroM.size) := hide (by kernel_rfl)
    obtain ⟨w2, hw2⟩ : ∃ w2, w2 = w1.alloc (.cells #[.string rs, .int .i64 rk, .int .i64 rz, .slice av m cv] 42) := ⟨_, rfl⟩
    have hb2 : Below w1.heap.size w1 w2 := by rw [hw2]; exact (Below.refl _ _).alloc (Nat.le_refl _) _
    have hk2 : Blk w2 w1.heap.size #[.string rs, .int .i64 rk, .int .i64 rz, .slice av m cv] 42 := by rw [hw2]; exact Blk.new _ _ _
    have HB2 := hide (HB1.out.trans (hb2.mono HB1.out.size))
    have HK2 := hide hk2
    have HW2 := hide hw2
    have HS12 := hide hb2
    clear hb2 hk2 hw2
    go_wp2_with fail
    rw [← HW2.out]
    refine (HPn _).out.mono ?_
    rintro e9 w3 ⟨rfl, hb3⟩
    have HK3 := hide (HK2.out.below hb3)
    have HB3 := hide (HB2.out.trans (hb3.mono HB2.out.size))
    have HS13 := hide (HS12.out.trans (hb3.mono HS12.out.size))
    obtain ⟨w4, hw4⟩ : ∃ w4, w4 = (w3.alloc (.cells #[.int .i64 0, .slice none 0 0, .slice none 0 0, .slice none 0 0, .slice none 0 0, .slice none 0 0, .int .i64 0, .int .i64 0, .bool false, .int .i64 0, .int .i64 0, .int .i64 0, .int .u8 0, .int .u8 0, .int .u8 0, .int .u8 0, .int .u8 0, .int .u8 0, .int .u8 0, .int .u8 0, .int .u8 0, .int .u8 0, .int .u8 0, .int .u8 0, .int .u8 0, .int .u8 0, .int .u8 0, .int .u8 0, .slice none 0 0, .int .i64 0, .int .i64 0] 63)).setRow w3.heap.size zeroM := ⟨_, rfl⟩
    have HZ3 : Hid (Blk (w3.alloc (.cells #[.int .i64 0, .slice none 0 0, .slice none 0 0, .slice none 0 0, .slice none 0 0, .slice none 0 0, .int .i64 0, .int .i64 0, .bool false, .int .i64 0, .int .i64 0, .int .i64 0, .int .u8 0, .int .u8 0, .int .u8 0, .int .u8 0, .int .u8 0, .int .u8 0, .int .u8 0, .int .u8 0, .int .u8 0, .int .u8 0, .int .u8 0, .int .u8 0, .int .u8 0, .int .u8 0, .int .u8 0, .int .u8 0, .slice none 0 0, .int .i64 0, .int .i64 0] 63)) w3.heap.size zeroM 63) := hide (Blk.new _ _ _)
    have hb4 : Below w3.heap.size w3 w4 := by
      rw [hw4]
      exact ((Below.refl w3.heap.size w3).alloc (Nat.le_refl _) _).trans (Chg.below w3.heap.size (X := fun i => i = w3.heap.size) ⟨rfl, rfl, rfl, by simp, fun k _ hk => setRow_other _ _ k _ hk⟩ (by simp) (fun i hi => by omega))
    have HK4 := hide (HK3.out.below hb4)
    have HB4 := hide (HB3.out.trans (hb4.mono HB3.out.size))
    have HS14 := hide (HS13.out.trans (hb4.mono HS13.out.size))
    have HW4 := hide hw4
    clear hb3 hb4 hw4 HK2 HB2 HW2 HS12 HK3 HB3 HS13 HPn
    go_wp2_with (refine wpList_at (.store 63 (.tmp 7) (.tmp 26)) rfl ?_; refine wpList_store_row rfl 63 (.tmp 7) (.tmp 26) rfl w3.heap.size zeroM rfl rfl 63 zeroM HZ3.out H1i.out rfl H1c.out ?_)
    rw [← HW4.out]
    refine (HWn _).out.mono ?_
    rintro e9 w5 ⟨rfl, hb5⟩
    have HK5 := hide (HK4.out.below hb5)
    have HB5 := hide (HB4.out.trans (hb5.mono HB4.out.size))
    have HS15 := hide (HS14.out.trans (hb5.mono HS14.out.size))
    clear hb5 HK4 HB4 HS14 HW4 HZ3 H1c H1i HWn
    go_wp2_with fail
    refine (HCn _).out.mono ?_
    rintro e9 w6 ⟨rfl, hb6⟩
    have HK6 := hide (HK5.out.below hb6)
    have HB6 := hide (HB5.out.trans (hb6.mono HB5.out.size))
    have HS16 := hide (HS15.out.trans (hb6.mono HS15.out.size))
    clear hb6 HK5 HB5 HS15 HCn
    go_wp2_with fail
    refine (HMp _).out.mono ?_
    rintro e9 w7 ⟨rfl, hb7⟩
    have HK7 := hide (HK6.out.below hb7)
    have HB7 := hide (HB6.out.trans (hb7.mono HB6.out.size))
    have HS17 := hide (HS16.out.trans (hb7.mono HS16.out.size))
    clear hb7 HK6 HB6 HS16 HMp
    go_wp2_with fail
    go_loopw [13] (fun i wr => ∃ j : Nat, j ≤ k ∧ i = .int .i64 (j : Int) ∧ wr = w7) (fun i _ => k - (intOf i).toNat)
    case atStart => exact ⟨0, by omega, rfl, rfl⟩
    case round =>
      obtain ⟨j, hj, rfl, hwr⟩ := hrel
      have hwr2 := hwr.symm
      clear hwr
      subst hwr2
      by_cases hlt : j < k
      · rcases HL.out.below HB7.out with hE | ⟨b, off, rfl, hblt, hc⟩
        · exfalso; have := HK.out; rw [hE] at this; simp at this
        obtain ⟨⟨q0, _, _, _⟩, _⟩ := hc j (by have := HK.out; omega)
        have hq := HNo.out j hlt
        unfold eqS at hq
        clear hc
        generalize L.getD j PT.nil = r at *
        have hj0 : (0 : Int) ≤ (j : Int) := by omega
        have hj1 : (j : Int) < (n : Int) := by have := HN.out; have := HK.out; omega
        have hj2 : ¬ (n : Int) ≤ (j : Int) := by omega
        have HLt := hide hlt
        clear hlt
        go_wp2_with fail
        go_roundw
        case rel => exact ⟨j + 1, by have := HLt.out; omega, by go_num, trivial⟩
        case measure => have := HLt.out; simp [intOf]; omega
      · obtain rfl : j = k := by omega
        rcases HL.out.below HB7.out with hE | ⟨b, off, rfl, hblt, hc⟩
        · exfalso; have := HK.out; rw [hE] at this; simp at this
        obtain ⟨⟨q0, q1, q2, q3⟩, q4⟩ := hc j HK.out
        rw [← HR.out] at q0 q1 q2 q3 q4
        dsimp only at q0 q1 q2 q3 q4
        rw [← HMl.out] at q3
        have hq := HH.out
        unfold eqS at hq
        have hblt2 : w1.heap.size < w7.heap.size := HK7.out.lt
        have HSm := hide (same_any w7.drew av ra cv rc rL rL ((HLv.out.below HS17.out).below (Below.refl _ _).drew) (q4.below (Below.refl _ _).drew) (by have := HWl.out; omega))
        rw [decide_eq_true rfl, ← HMl.out] at HSm
        have y0 : w7.drew.cell? ⟨w1.heap.size, 0, none⟩ = some (.string rs) := HK7.out.cell 0 _ rfl
        have y1 : w7.drew.cell? ⟨w1.heap.size, 1, none⟩ = some (.int .i64 rk) := HK7.out.cell 1 _ rfl
        have y2 : w7.drew.cell? ⟨w1.heap.size, 2, none⟩ = some (.int .i64 rz) := HK7.out.cell 2 _ rfl
        have y3 : w7.drew.cell? ⟨w1.heap.size, 3, none⟩ = some (.slice av m cv) := HK7.out.cell 3 _ rfl
        have u1 : w7.drew.cell? ⟨b, off + j * 4 + 1, none⟩ = some (.int .i64 rk) := q1
        have u2 : w7.drew.cell? ⟨b, off + j * 4 + 2, none⟩ = some (.int .i64 rz) := q2
        have u3 : w7.drew.cell? ⟨b, off + j * 4 + 3, none⟩ = some (.slice ra m rc) := q3
        have HXb : Hid (∀ u, Below w7.drew.heap.size w7.drew u → u.cell? ⟨w1.heap.size, 0, none⟩ = some (.string rs) ∧ u.cell? ⟨w1.heap.size, 1, none⟩ = some (.int .i64 rk) ∧ u.cell? ⟨w1.heap.size, 2, none⟩ = some (.int .i64 rz) ∧ u.cell? ⟨w1.heap.size, 3, none⟩ = some (.slice av m cv) ∧ u.cell? ⟨b, off + j * 4 + 1, none⟩ = some (.int .i64 rk) ∧ u.cell? ⟨b, off + j * 4 + 2, none⟩ = some (.int .i64 rz) ∧ u.cell? ⟨b, off + j * 4 + 3, none⟩ = some (.slice ra m rc)) := hide (fun u hu => ⟨(hu.cell (p := ⟨w1.heap.size, 0, none⟩) hblt2).trans y0, (hu.cell (p := ⟨w1.heap.size, 1, none⟩) hblt2).trans y1, (hu.cell (p := ⟨w1.heap.size, 2, none⟩) hblt2).trans y2, (hu.cell (p := ⟨w1.heap.size, 3, none⟩) hblt2).trans y3, (hu.cell (p := ⟨b, off + j * 4 + 1, none⟩) hblt).trans u1, (hu.cell (p := ⟨b, off + j * 4 + 2, none⟩) hblt).trans u2, (hu.cell (p := ⟨b, off + j * 4 + 3, none⟩) hblt).trans u3⟩)
        have hj0 : (0 : Int) ≤ (j : Int) := by omega
        have hj1 : (j : Int) < (n : Int) := by have := HN.out; have := HK.out; omega
        have hj2 : ¬ (n : Int) ≤ (j : Int) := by omega
        clear hc q1 q2 q3 q4 hlt hj
        go_wp2_with fail
        go_region_held3 (fun u => u.cell? ⟨w1.heap.size, 0, none⟩ = some (.string rs) ∧ u.cell? ⟨w1.heap.size, 1, none⟩ = some (.int .i64 rk) ∧ u.cell? ⟨w1.heap.size, 2, none⟩ = some (.int .i64 rz) ∧ u.cell? ⟨w1.heap.size, 3, none⟩ = some (.slice av m cv) ∧ u.cell? ⟨b, off + j * 4 + 1, none⟩ = some (.int .i64 rk) ∧ u.cell? ⟨b, off + j * 4 + 2, none⟩ = some (.int .i64 rz) ∧ u.cell? ⟨b, off + j * 4 + 3, none⟩ = some (.slice ra m rc)) (first | go_keep | exact ⟨y0, y1, y2, y3, u1, u2, u3⟩ | exact HX9.out) (first | (go_at_call 15; refine HSm.out.mono ?_; rintro e9 w9 ⟨rfl, hb9⟩; have HX9 := hide (HXb.out w9 hb9); have HB9 := hide hb9; clear hb9))
        go_wp2_with fail
        go_ret
        exact ⟨rfl, HB7.out.trans (((Below.refl _ _).drew.trans HB9.out).mono HB7.out.size)⟩
  · as_aux_lemma =>
    have HNo := hide hno
    clear hno
    have HPn := fun u => hide (pparse_nil u)
    have HWn := fun u => hide (window_nil u)
    have HCn := fun u => hide (content_nil u)
    have H1c : Hid (zeroM.all (·.oneCell') = true) := hide (by simp [zeroM, Value.oneCell'])
    have H1i : Hid ((Tryz.prog.info? 63).map (·.size) = some zeroM.size) := hide (by kernel_rfl)
    obtain ⟨w2, hw2⟩ : ∃ w2, w2 = w1.alloc (.cells #[.string ⟨#[]⟩, .int .i64 0, .int .i64 0, .slice none 0 0] 42) := ⟨_, rfl⟩
    have hb2 : Below w1.heap.size w1 w2 := by rw [hw2]; exact (Below.refl _ _).alloc (Nat.le_refl _) _
    have hk2 : Blk w2 w1.heap.size #[.string ⟨#[]⟩, .int .i64 0, .int .i64 0, .slice none 0 0] 42 := by rw [hw2]; exact Blk.new _ _ _
    have HB2 := hide (HB1.out.trans (hb2.mono HB1.out.size))
    have HK2 := hide hk2
    have HW2 := hide hw2
    have HS12 := hide hb2
    clear hb2 hk2 hw2
    go_wp2_with fail
    rw [← HW2.out]
    refine (HPn _).out.mono ?_
    rintro e9 w3 ⟨rfl, hb3⟩
    have HK3 := hide (HK2.out.below hb3)
    have HB3 := hide (HB2.out.trans (hb3.mono HB2.out.size))
    have HS13 := hide (HS12.out.trans (hb3.mono HS12.out.size))
    obtain ⟨w4, hw4⟩ : ∃ w4, w4 = (w3.alloc (.cells #[.int .i64 0, .slice none 0 0, .slice none 0 0, .slice none 0 0, .slice none 0 0, .slice none 0 0, .int .i64 0, .int .i64 0, .bool false, .int .i64 0, .int .i64 0, .int .i64 0, .int .u8 0, .int .u8 0, .int .u8 0, .int .u8 0, .int .u8 0, .int .u8 0, .int .u8 0, .int .u8 0, .int .u8 0, .int .u8 0, .int .u8 0, .int .u8 0, .int .u8 0, .int .u8 0, .int .u8 0, .int .u8 0, .slice none 0 0, .int .i64 0, .int .i64 0] 63)).setRow w3.heap.size zeroM := ⟨_, rfl⟩
    have HZ3 : Hid (Blk (w3.alloc (.cells #[.int .i64 0, .slice none 0 0, .slice none 0 0, .slice none 0 0, .slice none 0 0, .slice none 0 0, .int .i64 0, .int .i64 0, .bool false, .int .i64 0, .int .i64 0, .int .i64 0, .int .u8 0, .int .u8 0, .int .u8 0, .int .u8 0, .int .u8 0, .int .u8 0, .int .u8 0, .int .u8 0, .int .u8 0, .int .u8 0, .int .u8 0, .int .u8 0, .int .u8 0, .int .u8 0, .int .u8 0, .int .u8 0, .slice none 0 0, .int .i64 0, .int .i64 0] 63)) w3.heap.size zeroM 63) := hide (Blk.new _ _ _)
    have hb4 : Below w3.heap.size w3 w4 := by
      rw [hw4]
      exact ((Below.refl w3.heap.size w3).alloc (Nat.le_refl _) _).trans (Chg.below w3.heap.size (X := fun i => i = w3.heap.size) ⟨rfl, rfl, rfl, by simp, fun k _ hk => setRow_other _ _ k _ hk⟩ (by simp) (fun i hi => by omega))
    have HK4 := hide (HK3.out.below hb4)
    have HB4 := hide (HB3.out.trans (hb4.mono HB3.out.size))
    have HS14 := hide (HS13.out.trans (hb4.mono HS13.out.size))
    have HW4 := hide hw4
    clear hb3 hb4 hw4 HK2 HB2 HW2 HS12 HK3 HB3 HS13 HPn
    go_wp2_with (refine wpList_at (.store 63 (.tmp 7) (.tmp 26)) rfl ?_; refine wpList_store_row rfl 63 (.tmp 7) (.tmp 26) rfl w3.heap.size zeroM rfl rfl 63 zeroM HZ3.out H1i.out rfl H1c.out ?_)
    rw [← HW4.out]
    refine (HWn _).out.mono ?_
    rintro e9 w5 ⟨rfl, hb5⟩
    have HK5 := hide (HK4.out.below hb5)
    have HB5 := hide (HB4.out.trans (hb5.mono HB4.out.size))
    have HS15 := hide (HS14.out.trans (hb5.mono HS14.out.size))
    clear hb5 HK4 HB4 HS14 HW4 HZ3 H1c H1i HWn
    go_wp2_with fail
    refine (HCn _).out.mono ?_
    rintro e9 w6 ⟨rfl, hb6⟩
    have HK6 := hide (HK5.out.below hb6)
    have HB6 := hide (HB5.out.trans (hb6.mono HB5.out.size))
    have HS16 := hide (HS15.out.trans (hb6.mono HS15.out.size))
    clear hb6 HK5 HB5 HS15 HCn
    go_wp2_with fail
    refine (HMp _).out.mono ?_
    rintro e9 w7 ⟨rfl, hb7⟩
    have HK7 := hide (HK6.out.below hb7)
    have HB7 := hide (HB6.out.trans (hb7.mono HB6.out.size))
    have HS17 := hide (HS16.out.trans (hb7.mono HS16.out.size))
    clear hb7 HK6 HB6 HS16 HMp
    go_wp2_with fail
    have z0 : w7.cell? ⟨w1.heap.size, 0, none⟩ = some (.string ⟨#[]⟩) := HK7.out.cell 0 _ rfl
    have z2 : w7.cell? ⟨w1.heap.size, 2, none⟩ = some (.int .i64 0) := HK7.out.cell 2 _ rfl
    go_loopw [13] (fun i wr => ∃ j : Nat, j ≤ n ∧ i = .int .i64 (j : Int) ∧ wr = w7) (fun i _ => n - (intOf i).toNat)
    case atStart => exact ⟨0, by omega, rfl, rfl⟩
    case round =>
      obtain ⟨j, hj, rfl, hwr⟩ := hrel
      have hwr2 := hwr.symm
      clear hwr
      subst hwr2
      by_cases hlt : j < n
      · rcases HL.out.below HB7.out with hE | ⟨b, off, rfl, hblt, hc⟩
        · exfalso; have := HN.out; rw [hE] at this; simp at this; omega
        obtain ⟨⟨q0, _, _, _⟩, _⟩ := hc j (by have := HN.out; omega)
        have hq := HNo.out j (by have := HN.out; omega)
        unfold eqS at hq
        clear hc
        generalize L.getD j PT.nil = r at *
        have hj0 : (0 : Int) ≤ (j : Int) := by omega
        have hj1 : (j : Int) < (n : Int) := by have := HN.out; omega
        have hj2 : ¬ (n : Int) ≤ (j : Int) := by omega
        have HLt := hide hlt
        clear hlt
        go_wp2_with fail
        go_roundw
        case rel => exact ⟨j + 1, by have := HLt.out; omega, by go_num, trivial⟩
        case measure => have := HLt.out; simp [intOf]; omega
      · obtain rfl : j = n := by omega
        go_wp2_with fail
        go_ret
        exact ⟨rfl, HB7.out⟩

set_option maxRecDepth 100000 in
theorem partsFinds_door (os : Os) (args : Array Value) : laidMetH Tryz.prog Rows.partsFindsRow.laid ((World.doorLaid Tryz.prog 400 os).forCall (fun _ _ => 0) ⟨#[], args, []⟩).memory :=
  laidMetH_of_parts3 (fuel := 8) (laidMet_of_run' 8 (by kernel_rfl) (by kernel_rfl)) (by kernel_rfl) (by kernel_rfl)

set_option maxRecDepth 100000 in
theorem partsFinds_lifted (os : Os) (started : os.Started) (H : Type) (enc : TypeId × Value → H) :
    ReturnsInHanded {} Tryz.checked os 5 .any (fun w args => (Rows.partsFindsSpec.pre enc Tryz.prog Tryz.f5 [] false w args ∧ laidMetH Tryz.prog Rows.partsFindsRow.laid w) ∧ sizedMet enc Tryz.prog Tryz.f5 (OpenSpec.ofChange Rows.partsFindsSpec) false w args) (Rows.partsFindsSpec.post enc Tryz.prog Tryz.f5 false true false false) := by
  refine returnsInHanded_of_change_and (C := Tryz.checked) (X := (fun w _ => laidMetH Tryz.prog Rows.partsFindsRow.laid w)) (fun _ _ _ hh h => h.of_heap hh) own started (by kernel_rfl) Tryz.func5
    (ChangeSpec.witness_shaped (enc := enc) (C := Tryz.checked) (os := os) (X := (fun w _ => laidMetH Tryz.prog Rows.partsFindsRow.laid w)) false (World.doorLaid Tryz.prog 400 os) #[.slice none 0 0, .string ⟨#[]⟩] 8 rfl (World.shaped_of_RefB (by kernel_rfl) (by kernel_rfl)) (by kernel_rfl) (by kernel_rfl) (by kernel_rfl) (partsFinds_door os _)) ?_
  intro W base args ds gs before hval0 hW _ hsz0 hL _
  have hval : ∀ (j : Nat) t v, Tryz.f5.params[j]? = some t → args[j]? = some v → Value.okWide Tryz.prog W .any base t v := hval0
  have hW' := hW
  obtain ⟨p, q, hA0, hV, rfl, hfz, hnd⟩ := hW
  have hA : DataW.TrodAll enc Tryz.prog W 0 (fun _ => true) true Tryz.f5.params.toList args.toList ds p := hA0
  rw [Tryz.params5] at hA hval
  obtain ⟨v0, vs0, d0, ds0, p0, q0, hargs0, rfl, rfl, h0, r0⟩ := trodAll_cons hA
  obtain ⟨v1, vs1, d1, ds1, p1, q1, hargs1, rfl, rfl, h1, r1⟩ := trodAll_cons r0
  obtain ⟨rfl, rfl, rfl⟩ := trodAll_nil r1
  subst hargs1
  obtain rfl : args = #[v0, v1] := by cases args; simp_all
  obtain ⟨rfl, rfl⟩ := trodVars_none hV
  simp only [List.append_nil] at hW'
  have hlt0 : ∀ x ∈ p0, x.block < W.heap.size := fun x hx => by simpa using hW'.lt x (by simp [hx])
  have hz0 : ∀ n ∈ d0.weights Tryz.prog 39, n ≤ 140737488351232 := fun n hn => of_decide_eq_true (List.all_eq_true.1 hsz0 n (DataW.weights_mem_each (j := 0) (t := 39) (d := d0) rfl rfl n hn))
  obtain ⟨a0, cap0, l0, rfl, hn0, hm0, hr0, hl0⟩ := open_paths (hval 0 39 v0 rfl rfl) h0 hz0
  obtain ⟨s1, rfl, rfl, rfl, w1⟩ := Go.ChangeMaps.open_string Tryz.underlying9 (hval 1 9 v1 rfl rfl) h1
  clear hA0
  refine (finds_walk a0 cap0 l0 s1 W hl0 hm0).mono fun e W' ⟨he, hb⟩ => ?_
  subst he
  refine ⟨_, rfl, _, _, _, [], (p0 ++ ([] ++ [])), [], hW', ?_, ?_, rfl, hb.frame _, fun h => by cases h⟩
  · exact trodAll_cons_mk (shut_bool Tryz.underlying4 _) trodAll_mk0
  · exact trodAll_cons_mk (Below.trod laidOut (by kernel_rfl) (of_decide_eq_true (by kernel_rfl)) h0 hb hlt0) (trodAll_cons_mk (Go.ChangeMaps.shut_string Tryz.underlying9 w1) (trodAll_mk0))

theorem partsFinds_row : Rows.PartsFindsSaid :=
  OpenClaim.holds_of_wide 5 Tryz.f5 rfl rfl rfl rfl rfl rfl rfl ⟨rfl, rfl, rfl, rfl, rfl⟩ rfl rfl rfl rfl rfl (by kernel_rfl) Tryz.func5 (by kernel_rfl)
    (of_decide_eq_true (by kernel_rfl)) (by unfold Func.isWrapper; first | (rw [if_pos (by decide +kernel)]; kernel_rfl) | (rw [if_neg (by decide +kernel)]; exact ⟨rfl, rfl⟩))
    (fun os started H enc _ => partsFinds_lifted os started H enc)

theorem partsFinds_holds : Rows.PartsFindsCardSaid :=
  Claim7.holds_tied_plain_at .later [] [.data] true (true, "48e7b214f82d0273228bd0e752cb202f1f173523018546ed7ae1f9d8f284b3ee") false
    partsFinds_row (fun _ h => by cases h) (by kernel_rfl) (fun _ h => by cases h) partsFinds_row_tie rfl ⟨rfl, rfl⟩ (by kernel_rfl) rfl
    (fun f fn hf hfn => by
      obtain rfl : f = 5 := Option.some.inj ((show Tryz.prog.funcNamed "fettle/fettlelaw15.PartsFinds" = some 5 by kernel_rfl).symm.trans hf) |>.symm
      obtain rfl : fn = Tryz.f5 := (Option.some.inj (Tryz.func5.symm.trans hfn)).symm
      exact ⟨by kernel_rfl, fun j t ht => by
        rw [Tryz.params5] at ht
        have hm : t ∈ [39, 9] := by simpa using Array.mem_of_getElem? ht
        have hall : ([39, 9].all fun u => !Tryz.prog.wantsStandIn u) = true := by kernel_rfl
        exact (show Tryz.prog.wantsStandIn t = false by simpa using List.all_eq_true.1 hall t hm)⟩)
    (by kernel_rfl)
end Go.Proofs.YtjpdfchdgphdoaaGreatDoor.Oct
