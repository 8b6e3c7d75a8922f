/- What a header's sector says. -/
import Derived.Test.YtpbnjobjjnhplaaDoorPGovGpo
import Derived.Test.YtpbnjobjjnhplaaDoorPGsa
namespace Go.Proofs.YtpbnjobjjnhplaaDoor.Oct
open Go.RowKit

/-- What a header says. -/
structure Hd where
  fst : Int
  lst : Int
  id : List Int
  cnt : Int
  sum : Int
  own : Int
  oth : Int
  at_ : Int
deriving DecidableEq

def Hd.z : Hd := ⟨0, 0, List.replicate 16 0, 0, 0, 0, 0, 0⟩

/-- Its cells. -/
def Hd.cells (h : Hd) : List Value := [.int .i64 h.fst, .int .i64 h.lst] ++ (h.id.map (Value.int .u8) ++ [.int .i64 h.cnt, .int .u32 h.sum, .int .i64 h.own, .int .i64 h.oth, .int .i64 h.at_])

def magG : List Int := [69, 70, 73, 32, 80, 65, 82, 84]

/-- The header of a sector, as it is told. -/
def hdOf (l : List Int) : Hd := ⟨numG l 40, numG l 48, (l.drop 56).take 16, num l 80 4, num l 88 4, numG l 24, numG l 32, numG l 72⟩

/-- What decodeHead answers. -/
def decG (l : List Int) : Hd × Int :=
  if l.take 8 = magG then
    if formG l = true ∧ 1 ≤ num l 80 4 ∧ num l 80 4 ≤ 128 then
      if num l 16 4 = moreC 0 (blankG l) then (hdOf l, 0) else (Hd.z, 12)
    else (Hd.z, 11)
  else (Hd.z, 10)

theorem ret_hd {fn : Func} {p u : Tmp} (hr : fn.results = #[.cell p 105, .tmp u]) (tmps : Array Value) (w : World) (R : Nat) (cs : Array Value) (hs : cs.size = 23) (z : Value)
    (hp : tmps.getD p undef = .pointer (some ⟨R, 0, none⟩)) (hz : tmps.getD u undef = z) (hk : Blk w R cs 105) :
    (results fn tmps).run Tryd.prog w = .ok (.tuple #[.agg cs, z]) w := by
  rw [results_cell_tmp hr, hp, hz]
  simp only [asAddr, Sem.run_pure, Result.andThen_ok]
  rw [run_loadVar_row w R 105 105 _ (0, 0) _ hk Tryd.underlying105 rfl (by rw [hs]; kernel_rfl)]
  rfl

theorem hd_one (h : Hd) : h.cells.toArray.all (·.oneCell') = true := by
  rw [Array.all_eq_true']
  intro v hv
  rw [List.mem_toArray] at hv
  unfold Hd.cells at hv
  simp only [List.mem_append, List.mem_map, List.mem_cons, List.not_mem_nil, or_false] at hv
  rcases hv with (rfl | rfl) | ⟨x, _, rfl⟩ | rfl | rfl | rfl | rfl | rfl <;> rfl

theorem zHd : (#[.int .i64 0, .int .i64 0, .int .u8 0, .int .u8 0, .int .u8 0, .int .u8 0, .int .u8 0, .int .u8 0, .int .u8 0, .int .u8 0, .int .u8 0, .int .u8 0, .int .u8 0, .int .u8 0, .int .u8 0, .int .u8 0, .int .u8 0, .int .u8 0, .int .i64 0, .int .u32 0, .int .i64 0, .int .i64 0, .int .i64 0] : Array Value) = Hd.z.cells.toArray := by kernel_rfl

set_option maxHeartbeats 16000000 in
set_option maxRecDepth 100000 in
theorem decodeHead_any (b off cap : Nat) (l : List Int) (w : World) (hlen : l.length = 512) (hcap : 512 ≤ cap) (hcm : cap ≤ maxLen) (hb : Byts l) (hl : Lies w (some ⟨b, off, none⟩) l) (hV : VarG w) :
    Calls Tryd.prog 69 #[.slice (some ⟨b, off, none⟩) 512 cap] w fun e w' => e = .returned (.tuple #[.agg (decG l).1.cells.toArray, .int .i64 (decG l).2]) ∧ Below w.heap.size w w' := by
  have u32a := fun (p : Nat) (hp : p + 4 ≤ l.length) (u : World) (hu : Lies u (some ⟨b, off, none⟩) l) => hide (U32_atG (some ⟨b, off, none⟩) cap l p u (by rw [hlen]; unfold maxLen; omega) hb hu hp)
  have nma := fun (p : Nat) (hp : p + 8 ≤ l.length) (u : World) (hu : Lies u (some ⟨b, off, none⟩) l) => hide (number_any (some ⟨b, off, none⟩) cap l p u (by rw [hlen]; unfold maxLen; omega) hb hu hp)
  have HFo := fun (u : World) (hu : Lies u (some ⟨b, off, none⟩) l) (hv : VarG u) => hide (formed_any b off cap l u hlen hcap hcm hb hu hv)
  have HSu := fun (u : World) (hu : Lies u (some ⟨b, off, none⟩) l) => hide (headSum_any b off cap l u hlen hcap hcm hb hu)
  have HSa := fun (u : World) (X c : Nat) (hu : Lies u (some ⟨b, off, none⟩) l) (hm : Lies u (some ⟨X, 0, none⟩) magG) => hide (SameN_any (some ⟨b, off, none⟩) (some ⟨X, 0, none⟩) cap c l magG u (by rw [hlen]; unfold maxLen; omega) (by unfold maxLen; decide) hu hm)
  rw [hlen] at u32a nma HSa
  have HU16 := u32a 16 (by omega)
  push_cast at HU16
  have HU80 := u32a 80 (by omega)
  push_cast at HU80
  have HU88 := u32a 88 (by omega)
  push_cast at HU88
  have HN24 := nma 24 (by omega)
  push_cast at HN24
  have HN32 := nma 32 (by omega)
  push_cast at HN32
  have HN40 := nma 40 (by omega)
  push_cast at HN40
  have HN48 := nma 48 (by omega)
  push_cast at HN48
  have HN72 := nma 72 (by omega)
  push_cast at HN72
  obtain ⟨n24, hn24⟩ : ∃ n24, n24 = numG l 24 := ⟨_, rfl⟩
  rw [← hn24] at HN24
  have HE24 := hide hn24
  clear hn24
  obtain ⟨n32, hn32⟩ : ∃ n32, n32 = numG l 32 := ⟨_, rfl⟩
  rw [← hn32] at HN32
  have HE32 := hide hn32
  clear hn32
  obtain ⟨n40, hn40⟩ : ∃ n40, n40 = numG l 40 := ⟨_, rfl⟩
  rw [← hn40] at HN40
  have HE40 := hide hn40
  clear hn40
  obtain ⟨n48, hn48⟩ : ∃ n48, n48 = numG l 48 := ⟨_, rfl⟩
  rw [← hn48] at HN48
  have HE48 := hide hn48
  clear hn48
  obtain ⟨n72, hn72⟩ : ∃ n72, n72 = numG l 72 := ⟨_, rfl⟩
  rw [← hn72] at HN72
  have HE72 := hide hn72
  clear hn72
  obtain ⟨v88, hv88⟩ : ∃ v88, v88 = num l 88 4 := ⟨_, rfl⟩
  rw [← hv88] at HU88
  have HE88 := hide hv88
  clear hv88
  have h80 := num_lt l 80 hb 4
  have HH80 := hide h80
  have HDe := hide (show decG l = if l.take 8 = magG then (if formG l = true ∧ 1 ≤ num l 80 4 ∧ num l 80 4 ≤ 128 then (if num l 16 4 = moreC 0 (blankG l) then (hdOf l, 0) else (Hd.z, 12)) else (Hd.z, 11)) else (Hd.z, 10) from rfl)
  have HCo := hide (common8 l magG rfl (by omega))
  have HL := hide hl
  have HV := hide hV
  have HCap := hide (And.intro hcap hcm)
  have HLen := hide hlen
  obtain ⟨R, hR⟩ : ∃ R, R = w.heap.size := ⟨_, rfl⟩
  obtain ⟨w1, hw1⟩ : ∃ w1, w1 = w.alloc (.cells #[.int .i64 0, .int .i64 0, .int .u8 0, .int .u8 0, .int .u8 0, .int .u8 0, .int .u8 0, .int .u8 0, .int .u8 0, .int .u8 0, .int .u8 0, .int .u8 0, .int .u8 0, .int .u8 0, .int .u8 0, .int .u8 0, .int .u8 0, .int .u8 0, .int .i64 0, .int .u32 0, .int .i64 0, .int .i64 0, .int .i64 0] 105) := ⟨_, rfl⟩
  have hb1 : Below w.heap.size w w1 := by rw [hw1]; exact (Below.refl _ _).alloc (Nat.le_refl _) _
  have hk1 : Blk w1 R #[.int .i64 0, .int .i64 0, .int .u8 0, .int .u8 0, .int .u8 0, .int .u8 0, .int .u8 0, .int .u8 0, .int .u8 0, .int .u8 0, .int .u8 0, .int .u8 0, .int .u8 0, .int .u8 0, .int .u8 0, .int .u8 0, .int .u8 0, .int .u8 0, .int .i64 0, .int .u32 0, .int .i64 0, .int .i64 0, .int .i64 0] 105 := by rw [hw1, hR]; exact Blk.new _ _ _
  have HB1 := hide hb1
  have HK1 := hide hk1
  have HL1 := hide (hl.below hb1)
  have HV1 := hide (hV.below hb1)
  have HHR := hide hR
  have HW1 := hide hw1
  have HZz := hide (show (#[.int .i64 0, .int .i64 0, .int .u8 0, .int .u8 0, .int .u8 0, .int .u8 0, .int .u8 0, .int .u8 0, .int .u8 0, .int .u8 0, .int .u8 0, .int .u8 0, .int .u8 0, .int .u8 0, .int .u8 0, .int .u8 0, .int .u8 0, .int .u8 0, .int .i64 0, .int .u32 0, .int .i64 0, .int .i64 0, .int .i64 0] : Array Value).all (·.oneCell') = true by kernel_rfl)
  have HZs := hide (show (#[.int .i64 0, .int .i64 0, .int .u8 0, .int .u8 0, .int .u8 0, .int .u8 0, .int .u8 0, .int .u8 0, .int .u8 0, .int .u8 0, .int .u8 0, .int .u8 0, .int .u8 0, .int .u8 0, .int .u8 0, .int .u8 0, .int .u8 0, .int .u8 0, .int .i64 0, .int .u32 0, .int .i64 0, .int .i64 0, .int .i64 0] : Array Value).size = 23 by kernel_rfl)
  clear u32a nma hlen hcap hcm hb hl hV hR hw1 hb1 hk1 h80
  obtain ⟨dd, hdd⟩ : ∃ dd, dd = decG l := ⟨_, rfl⟩
  rw [← hdd] at HDe ⊢
  clear hdd
  go_enter Tryd.func69, Tryd.ntmps69
  go_upto_region 1 with fail
  rw [← HHR.out, ← HW1.out]
  have kc := Go.Lib.run_convert_bytes_const w1 31 5 #[.int .u8 69, .int .u8 70, .int .u8 73, .int .u8 32, .int .u8 80, .int .u8 65, .int .u8 82, .int .u8 84] 8 8 Tryd.underlying31 Tryd.underlying5
  go_wp2_with fail
  obtain ⟨w2, hw2⟩ : ∃ w2, w2 = w1.alloc (.cells #[.int .u8 69, .int .u8 70, .int .u8 73, .int .u8 32, .int .u8 80, .int .u8 65, .int .u8 82, .int .u8 84] 5 (8, 9)) := ⟨_, rfl⟩
  have hb2 : Below w1.heap.size w1 w2 := by rw [hw2]; exact (Below.refl _ _).alloc (Nat.le_refl _) _
  have hmg : Lies w2 (some ⟨w1.heap.size, 0, none⟩) magG := by
    refine Or.inr ⟨w1.heap.size, 0, rfl, by rw [hw2]; simp, fun k hk => ?_⟩
    have hat : w2.heap[w1.heap.size]? = some (.cells #[.int .u8 69, .int .u8 70, .int .u8 73, .int .u8 32, .int .u8 80, .int .u8 65, .int .u8 82, .int .u8 84] 5 (8, 9)) := by rw [hw2]; exact heap_alloc_new w1 _
    have hk8 : k < 8 := hk
    obtain rfl | rfl | rfl | rfl | rfl | rfl | rfl | rfl : k = 0 ∨ k = 1 ∨ k = 2 ∨ k = 3 ∨ k = 4 ∨ k = 5 ∨ k = 6 ∨ k = 7 := by omega
    all_goals simp [World.cell?, hat, magG]
  clear kc
  rw [← hw2]
  refine (HSa w2 w1.heap.size 8 (HL1.out.below hb2) hmg).out.mono ?_
  rintro e9 w3 ⟨rfl, h3⟩
  have hb3 := hb2.trans (h3.mono hb2.size)
  have HK3 := hide (HK1.out.below hb3)
  have HL3 := hide (HL1.out.below hb3)
  have HV3 := hide (HV1.out.below hb3)
  have HB3 := hide (HB1.out.trans (hb3.mono HB1.out.size))
  clear h3 hb2 hb3 hw2 hmg HSa HK1 HL1 HV1 HB1 HW1
  by_cases hm : l.take 8 = magG
  case neg =>
    have HD := hide (HDe.out.trans (if_neg hm))
    have hne : (((common l magG : Nat) : Int) != 8) = true := by
      have : ¬ common l magG = 8 := fun h => hm (HCo.out.1 h)
      simp only [bne_iff_ne, ne_eq]
      omega
    clear hm
    go_wp2_with (first | (refine wpList_isop (.store 105 (.tmp 2) (.tmp 14)) rfl ?_; refine wpList_store_row rfl 105 (.tmp 2) (.tmp 14) rfl R #[.int .i64 0, .int .i64 0, .int .u8 0, .int .u8 0, .int .u8 0, .int .u8 0, .int .u8 0, .int .u8 0, .int .u8 0, .int .u8 0, .int .u8 0, .int .u8 0, .int .u8 0, .int .u8 0, .int .u8 0, .int .u8 0, .int .u8 0, .int .u8 0, .int .i64 0, .int .u32 0, .int .i64 0, .int .i64 0, .int .i64 0] rfl rfl 105 _ HK3.out (by kernel_rfl) rfl HZz.out ?_))
    refine bodyPost_ret (ret_hd rfl _ _ R #[.int .i64 0, .int .i64 0, .int .u8 0, .int .u8 0, .int .u8 0, .int .u8 0, .int .u8 0, .int .u8 0, .int .u8 0, .int .u8 0, .int .u8 0, .int .u8 0, .int .u8 0, .int .u8 0, .int .u8 0, .int .u8 0, .int .u8 0, .int .u8 0, .int .i64 0, .int .u32 0, .int .i64 0, .int .i64 0, .int .i64 0] HZs.out _ rfl rfl (setRow_blk HK3.out _)) rfl ⟨?_, setrow_belowG HB3.out (by have := HHR.out; omega)⟩
    rw [HD.out]
    show _ = Ending.returned (.tuple #[.agg Hd.z.cells.toArray, .int .i64 10])
    rw [← zHd]
    rfl
  have HDe := hide (HDe.out.trans (if_pos hm))
  rw [HCo.out.2 hm]
  clear hm
  go_wp2_with fail
  refine (HU80 _ HL3.out).out.mono ?_
  rintro e9 w4 ⟨rfl, h4⟩
  rw [h4]
  clear h4
  go_wp2_with fail
  refine (HFo _ HL3.out HV3.out).out.mono ?_
  rintro e9 w4 ⟨rfl, h4⟩
  have HK4 := hide (HK3.out.below h4)
  have HL4 := hide (HL3.out.below h4)
  have HV4 := hide (HV3.out.below h4)
  have HB4 := hide (HB3.out.trans (h4.mono HB3.out.size))
  clear h4 HK3 HL3 HV3 HB3 HFo
  obtain ⟨v80, hv80⟩ : ∃ v80, v80 = num l 80 4 := ⟨_, rfl⟩
  rw [← hv80] at HDe HH80 ⊢
  have HV80 := hide hv80
  clear hv80
  cases hfo : formG l with
  | false =>
    have HD := hide (HDe.out.trans (if_neg (by rw [hfo]; simp)))
    clear hfo
    go_wp2_with (first | (refine wpList_isop (.store 105 (.tmp 2) (.tmp 31)) rfl ?_; refine wpList_store_row rfl 105 (.tmp 2) (.tmp 31) rfl R #[.int .i64 0, .int .i64 0, .int .u8 0, .int .u8 0, .int .u8 0, .int .u8 0, .int .u8 0, .int .u8 0, .int .u8 0, .int .u8 0, .int .u8 0, .int .u8 0, .int .u8 0, .int .u8 0, .int .u8 0, .int .u8 0, .int .u8 0, .int .u8 0, .int .i64 0, .int .u32 0, .int .i64 0, .int .i64 0, .int .i64 0] rfl rfl 105 _ HK4.out (by kernel_rfl) rfl HZz.out ?_))
    refine bodyPost_ret (ret_hd rfl _ _ R #[.int .i64 0, .int .i64 0, .int .u8 0, .int .u8 0, .int .u8 0, .int .u8 0, .int .u8 0, .int .u8 0, .int .u8 0, .int .u8 0, .int .u8 0, .int .u8 0, .int .u8 0, .int .u8 0, .int .u8 0, .int .u8 0, .int .u8 0, .int .u8 0, .int .i64 0, .int .u32 0, .int .i64 0, .int .i64 0, .int .i64 0] HZs.out _ rfl rfl (setRow_blk HK4.out _)) rfl ⟨?_, setrow_belowG HB4.out (by have := HHR.out; omega)⟩
    rw [HD.out]
    show _ = Ending.returned (.tuple #[.agg Hd.z.cells.toArray, .int .i64 11])
    rw [← zHd]
    rfl
  | true =>
  by_cases hc1 : v80 < 1
  case pos =>
    have HD := hide (HDe.out.trans (if_neg (by omega)))
    clear hfo
    go_wp2_with (first | (refine wpList_isop (.store 105 (.tmp 2) (.tmp 31)) rfl ?_; refine wpList_store_row rfl 105 (.tmp 2) (.tmp 31) rfl R #[.int .i64 0, .int .i64 0, .int .u8 0, .int .u8 0, .int .u8 0, .int .u8 0, .int .u8 0, .int .u8 0, .int .u8 0, .int .u8 0, .int .u8 0, .int .u8 0, .int .u8 0, .int .u8 0, .int .u8 0, .int .u8 0, .int .u8 0, .int .u8 0, .int .i64 0, .int .u32 0, .int .i64 0, .int .i64 0, .int .i64 0] rfl rfl 105 _ HK4.out (by kernel_rfl) rfl HZz.out ?_))
    refine bodyPost_ret (ret_hd rfl _ _ R #[.int .i64 0, .int .i64 0, .int .u8 0, .int .u8 0, .int .u8 0, .int .u8 0, .int .u8 0, .int .u8 0, .int .u8 0, .int .u8 0, .int .u8 0, .int .u8 0, .int .u8 0, .int .u8 0, .int .u8 0, .int .u8 0, .int .u8 0, .int .u8 0, .int .i64 0, .int .u32 0, .int .i64 0, .int .i64 0, .int .i64 0] HZs.out _ rfl rfl (setRow_blk HK4.out _)) rfl ⟨?_, setrow_belowG HB4.out (by have := HHR.out; omega)⟩
    rw [HD.out]
    show _ = Ending.returned (.tuple #[.agg Hd.z.cells.toArray, .int .i64 11])
    rw [← zHd]
    rfl
  by_cases hc2 : v80 > 128
  case pos =>
    have HD := hide (HDe.out.trans (if_neg (by omega)))
    clear hfo
    go_wp2_with (first | (refine wpList_isop (.store 105 (.tmp 2) (.tmp 31)) rfl ?_; refine wpList_store_row rfl 105 (.tmp 2) (.tmp 31) rfl R #[.int .i64 0, .int .i64 0, .int .u8 0, .int .u8 0, .int .u8 0, .int .u8 0, .int .u8 0, .int .u8 0, .int .u8 0, .int .u8 0, .int .u8 0, .int .u8 0, .int .u8 0, .int .u8 0, .int .u8 0, .int .u8 0, .int .u8 0, .int .u8 0, .int .i64 0, .int .u32 0, .int .i64 0, .int .i64 0, .int .i64 0] rfl rfl 105 _ HK4.out (by kernel_rfl) rfl HZz.out ?_))
    refine bodyPost_ret (ret_hd rfl _ _ R #[.int .i64 0, .int .i64 0, .int .u8 0, .int .u8 0, .int .u8 0, .int .u8 0, .int .u8 0, .int .u8 0, .int .u8 0, .int .u8 0, .int .u8 0, .int .u8 0, .int .u8 0, .int .u8 0, .int .u8 0, .int .u8 0, .int .u8 0, .int .u8 0, .int .i64 0, .int .u32 0, .int .i64 0, .int .i64 0, .int .i64 0] HZs.out _ rfl rfl (setRow_blk HK4.out _)) rfl ⟨?_, setrow_belowG HB4.out (by have := HHR.out; omega)⟩
    rw [HD.out]
    show _ = Ending.returned (.tuple #[.agg Hd.z.cells.toArray, .int .i64 11])
    rw [← zHd]
    rfl
  have HDe := hide (HDe.out.trans (if_pos ⟨hfo, by omega, by omega⟩))
  clear hfo
  go_wp2_with fail
  refine (HU16 _ HL4.out).out.mono ?_
  rintro e9 w5 ⟨rfl, h5⟩
  rw [h5]
  clear h5
  go_wp2_with fail
  refine (HSu _ HL4.out).out.mono ?_
  rintro e9 w5 ⟨rfl, h5⟩
  have HK5 := hide (HK4.out.below h5)
  have HL5 := hide (HL4.out.below h5)
  have HB5 := hide (HB4.out.trans (h5.mono HB4.out.size))
  clear h5 HK4 HL4 HV4 HB4 HSu
  by_cases hs : num l 16 4 = moreC 0 (blankG l)
  case neg =>
    have HD := hide (HDe.out.trans (if_neg hs))
    have hne : (num l 16 4 != moreC 0 (blankG l)) = true := by simpa using hs
    clear hs
    go_wp2_with (first | (refine wpList_isop (.store 105 (.tmp 2) (.tmp 41)) rfl ?_; refine wpList_store_row rfl 105 (.tmp 2) (.tmp 41) rfl R #[.int .i64 0, .int .i64 0, .int .u8 0, .int .u8 0, .int .u8 0, .int .u8 0, .int .u8 0, .int .u8 0, .int .u8 0, .int .u8 0, .int .u8 0, .int .u8 0, .int .u8 0, .int .u8 0, .int .u8 0, .int .u8 0, .int .u8 0, .int .u8 0, .int .i64 0, .int .u32 0, .int .i64 0, .int .i64 0, .int .i64 0] rfl rfl 105 _ HK5.out (by kernel_rfl) rfl HZz.out ?_))
    refine bodyPost_ret (ret_hd rfl _ _ R #[.int .i64 0, .int .i64 0, .int .u8 0, .int .u8 0, .int .u8 0, .int .u8 0, .int .u8 0, .int .u8 0, .int .u8 0, .int .u8 0, .int .u8 0, .int .u8 0, .int .u8 0, .int .u8 0, .int .u8 0, .int .u8 0, .int .u8 0, .int .u8 0, .int .i64 0, .int .u32 0, .int .i64 0, .int .i64 0, .int .i64 0] HZs.out _ rfl rfl (setRow_blk HK5.out _)) rfl ⟨?_, setrow_belowG HB5.out (by have := HHR.out; omega)⟩
    rw [HD.out]
    show _ = Ending.returned (.tuple #[.agg Hd.z.cells.toArray, .int .i64 12])
    rw [← zHd]
    rfl
  have HDe := hide (HDe.out.trans (if_pos hs))
  obtain ⟨mc, hmc⟩ : ∃ mc, mc = moreC 0 (blankG l) := ⟨_, rfl⟩
  rw [hs, ← hmc]
  have hbe : (mc != mc) = false := by simp
  clear hs hmc
  go_wp2_with fail
  refine (HN24 _ HL5.out).out.mono ?_
  rintro e9 w6 ⟨rfl, h6⟩
  rw [h6]
  clear h6
  go_wp2_with fail
  refine (HN32 _ HL5.out).out.mono ?_
  rintro e9 w6 ⟨rfl, h6⟩
  rw [h6]
  clear h6
  go_wp2_with fail
  refine (HN72 _ HL5.out).out.mono ?_
  rintro e9 w6 ⟨rfl, h6⟩
  rw [h6]
  clear h6
  have HBu := hide (show Tryd.prog.built 105 [(1, .int .i64 n24), (2, .int .i64 n32), (3, .int .i64 n72)] = some #[.int .i64 0, .int .i64 0, .int .u8 0, .int .u8 0, .int .u8 0, .int .u8 0, .int .u8 0, .int .u8 0, .int .u8 0, .int .u8 0, .int .u8 0, .int .u8 0, .int .u8 0, .int .u8 0, .int .u8 0, .int .u8 0, .int .u8 0, .int .u8 0, .int .i64 0, .int .u32 0, .int .i64 n24, .int .i64 n32, .int .i64 n72] by kernel_rfl)
  have HCz := hide (show (#[.int .i64 0, .int .i64 0, .int .u8 0, .int .u8 0, .int .u8 0, .int .u8 0, .int .u8 0, .int .u8 0, .int .u8 0, .int .u8 0, .int .u8 0, .int .u8 0, .int .u8 0, .int .u8 0, .int .u8 0, .int .u8 0, .int .u8 0, .int .u8 0, .int .i64 0, .int .u32 0, .int .i64 n24, .int .i64 n32, .int .i64 n72] : Array Value).size = 23 from rfl)
  have HCo1 := hide (show (#[.int .i64 0, .int .i64 0, .int .u8 0, .int .u8 0, .int .u8 0, .int .u8 0, .int .u8 0, .int .u8 0, .int .u8 0, .int .u8 0, .int .u8 0, .int .u8 0, .int .u8 0, .int .u8 0, .int .u8 0, .int .u8 0, .int .u8 0, .int .u8 0, .int .i64 0, .int .u32 0, .int .i64 n24, .int .i64 n32, .int .i64 n72] : Array Value).all (·.oneCell') = true by simp [Value.oneCell'])
  obtain ⟨C, hC⟩ : ∃ C : Array Value, C = #[.int .i64 0, .int .i64 0, .int .u8 0, .int .u8 0, .int .u8 0, .int .u8 0, .int .u8 0, .int .u8 0, .int .u8 0, .int .u8 0, .int .u8 0, .int .u8 0, .int .u8 0, .int .u8 0, .int .u8 0, .int .u8 0, .int .u8 0, .int .u8 0, .int .i64 0, .int .u32 0, .int .i64 n24, .int .i64 n32, .int .i64 n72] := ⟨_, rfl⟩
  rw [← hC] at HBu HCz HCo1
  have HCC := hide hC
  clear hC
  go_wp2_with (first | (refine wpList_isop (.build 105 #[(1, .tmp 43), (2, .tmp 45), (3, .tmp 47)]) rfl ?_; refine wpList_exec rfl (exec_build rfl (by kernel_rfl) HBu.out) ?_) | (refine wpList_isop (.store 105 (.tmp 8) (.tmp 48)) rfl ?_; refine wpList_store_row rfl 105 (.tmp 8) (.tmp 48) rfl w5.heap.size C rfl rfl 105 _ (Blk.new _ _ _) (by rw [HCz.out]; kernel_rfl) (by rw [HCz.out]; rfl) HCo1.out ?_))
  obtain ⟨w6, hw6⟩ : ∃ w6, w6 = (w5.alloc (.cells #[.int .i64 0, .int .i64 0, .int .u8 0, .int .u8 0, .int .u8 0, .int .u8 0, .int .u8 0, .int .u8 0, .int .u8 0, .int .u8 0, .int .u8 0, .int .u8 0, .int .u8 0, .int .u8 0, .int .u8 0, .int .u8 0, .int .u8 0, .int .u8 0, .int .i64 0, .int .u32 0, .int .i64 0, .int .i64 0, .int .i64 0] 105)).setRow w5.heap.size C := ⟨_, rfl⟩
  obtain ⟨X, hX⟩ : ∃ X, X = w5.heap.size := ⟨_, rfl⟩
  have hB0 : Below w5.heap.size w5 w6 := by rw [hw6]; exact setrow_belowG ((Below.refl _ _).alloc (Nat.le_refl _) _) (Nat.le_refl _)
  have hk6 : Blk w6 X #[.int .i64 0, .int .i64 0, .int .u8 0, .int .u8 0, .int .u8 0, .int .u8 0, .int .u8 0, .int .u8 0, .int .u8 0, .int .u8 0, .int .u8 0, .int .u8 0, .int .u8 0, .int .u8 0, .int .u8 0, .int .u8 0, .int .u8 0, .int .u8 0, .int .i64 0, .int .u32 0, .int .i64 n24, .int .i64 n32, .int .i64 n72] 105 := by rw [← HCC.out, hw6, hX]; exact setRow_blk (Blk.new _ _ _) _
  have hXl : w5.heap.size ≤ X := by omega
  have hB1 := hB0.setCell (p := ⟨X, 0, none⟩) hXl (.int .i64 n40)
  have hB2 := hB1.setCell (p := ⟨X, 1, none⟩) hXl (.int .i64 n48)
  have hB3 := hB2.setCell (p := ⟨X, 18, none⟩) hXl (.int .i64 v80)
  have hB4 := hB3.setCell (p := ⟨X, 19, none⟩) hXl (.int .u32 v88)
  have hk7 : Blk ((((w6.setCell ⟨X, 0, none⟩ (.int .i64 n40)).setCell ⟨X, 1, none⟩ (.int .i64 n48)).setCell ⟨X, 18, none⟩ (.int .i64 v80)).setCell ⟨X, 19, none⟩ (.int .u32 v88)) X #[.int .i64 n40, .int .i64 n48, .int .u8 0, .int .u8 0, .int .u8 0, .int .u8 0, .int .u8 0, .int .u8 0, .int .u8 0, .int .u8 0, .int .u8 0, .int .u8 0, .int .u8 0, .int .u8 0, .int .u8 0, .int .u8 0, .int .u8 0, .int .u8 0, .int .i64 v80, .int .u32 v88, .int .i64 n24, .int .i64 n32, .int .i64 n72] 105 := (((hk6.set 0 (.int .i64 n40)).set 1 (.int .i64 n48)).set 18 (.int .i64 v80)).set 19 (.int .u32 v88)
  rw [← hw6, ← hX]
  have HX := hide hX
  have HB6 := hide hB0
  have HL6 := hide (HL5.out.below hB0)
  have HLs := hide (HL5.out.below hB3)
  have HB7 := hide (HB5.out.trans (hB4.mono HB5.out.size))
  have HR7 := hide (HK5.out.below hB4)
  have HL7 := hide (HL5.out.below hB4)
  have HK7 := hide hk7
  have z0 := hk6.cell 0 _ rfl
  have z1 := hk6.cell 1 _ rfl
  have z2 := hk6.cell 18 _ rfl
  have z3 := hk6.cell 19 _ rfl
  have f0 := hk6.frozen 0
  have f1 := hk6.frozen 1
  have f2 := hk6.frozen 18
  have f3 := hk6.frozen 19
  clear hw6 hX hB0 hB1 hB2 hB3 hB4 hk6 hk7 hXl
  refine (HN40 _ HL6.out).out.mono ?_
  rintro e9 w8 ⟨rfl, h8⟩
  rw [h8]
  clear h8
  go_wp2_with fail
  refine (HN48 _ HL6.out).out.mono ?_
  rintro e9 w8 ⟨rfl, h8⟩
  rw [h8]
  clear h8
  have e80 : IntKind.i64.wrap v80 = v80 := by have := HH80.out; rw [IntKind.wrap_i64]; omega
  go_wp2_with fail
  refine (HU88 _ HLs.out).out.mono ?_
  rintro e9 w8 ⟨rfl, h8⟩
  rw [h8]
  clear h8
  go_wp2_with fail
  generalize (((w6.setCell ⟨X, 0, none⟩ (.int .i64 n40)).setCell ⟨X, 1, none⟩ (.int .i64 n48)).setCell ⟨X, 18, none⟩ (.int .i64 v80)).setCell ⟨X, 19, none⟩ (.int .u32 v88) = w7 at HB7 HR7 HL7 HK7 ⊢
  obtain ⟨D, hD⟩ : ∃ D : Array Value, D = (Hd.mk n40 n48 ((l.drop 56).take 16) v80 v88 n24 n32 n72).cells.toArray := ⟨_, rfl⟩
  have hidl : ((l.drop 56).take 16).length = 16 := by have := HLen.out; rw [List.length_take, List.length_drop]; omega
  have hDs : D.size = 23 := by rw [hD]; simp only [Hd.cells, List.size_toArray, List.length_append, List.length_map, hidl, List.length_cons, List.length_nil]
  have hDo : D.all (·.oneCell') = true := by rw [hD]; exact hd_one _
  have hLi : Lies w7.drew (some ⟨b, off + 56, none⟩) (l.drop 56) := (HL7.out.below (Below.refl _ _).drew).dropG 56
  have hcp := run_copy_row (P := Tryd.prog) w7.drew 31 31 3 5 X 2 16 16 ⟨b, off + 56, none⟩ 456 (cap - 56) #[.int .i64 n40, .int .i64 n48, .int .u8 0, .int .u8 0, .int .u8 0, .int .u8 0, .int .u8 0, .int .u8 0, .int .u8 0, .int .u8 0, .int .u8 0, .int .u8 0, .int .u8 0, .int .u8 0, .int .u8 0, .int .u8 0, .int .u8 0, .int .u8 0, .int .i64 v80, .int .u32 v88, .int .i64 n24, .int .i64 n32, .int .i64 n72] 105 (((l.drop 56).take 16).map (Value.int .u8)) Tryd.underlying31 size5 HK7.out.drew (by rw [List.length_map, hidl]; rfl)
    (fun jj v hj => by
      rw [Go.WideShapes.add_plain]
      rcases hLi with hn | ⟨b2, o2, e2, _, hc2⟩
      · rw [hn] at hidl; simp at hidl
      · cases e2
        have hjl : jj < 16 := by rw [← hidl, ← List.length_map (f := Value.int IntKind.u8)]; exact (List.getElem?_eq_some_iff.1 hj).1
        have hdl : jj < (l.drop 56).length := by have := HLen.out; rw [List.length_drop]; omega
        rw [hc2 jj hdl]
        rw [List.getElem?_map, List.getElem?_take, if_pos hjl, List.getElem?_eq_getElem hdl] at hj
        rw [List.getD_eq_getElem?_getD, List.getElem?_eq_getElem hdl]
        exact hj) (by rw [List.length_map, hidl]; exact Nat.le_of_ble_eq_true rfl) (by intro v hv; obtain ⟨x, _, rfl⟩ := List.mem_map.1 hv; rfl)
  have hD2 : (((#[.int .i64 n40, .int .i64 n48, .int .u8 0, .int .u8 0, .int .u8 0, .int .u8 0, .int .u8 0, .int .u8 0, .int .u8 0, .int .u8 0, .int .u8 0, .int .u8 0, .int .u8 0, .int .u8 0, .int .u8 0, .int .u8 0, .int .u8 0, .int .u8 0, .int .i64 v80, .int .u32 v88, .int .i64 n24, .int .i64 n32, .int .i64 n72] : Array Value).toList.take 2 ++ ((l.drop 56).take 16).map (Value.int .u8) ++ (#[.int .i64 n40, .int .i64 n48, .int .u8 0, .int .u8 0, .int .u8 0, .int .u8 0, .int .u8 0, .int .u8 0, .int .u8 0, .int .u8 0, .int .u8 0, .int .u8 0, .int .u8 0, .int .u8 0, .int .u8 0, .int .u8 0, .int .u8 0, .int .u8 0, .int .i64 v80, .int .u32 v88, .int .i64 n24, .int .i64 n32, .int .i64 n72] : Array Value).toList.drop (2 + (((l.drop 56).take 16).map (Value.int .u8)).length)).toArray) = D := by
    rw [hD, List.length_map, hidl]
    show (([.int .i64 n40, .int .i64 n48] : List Value) ++ ((l.drop 56).take 16).map (Value.int .u8) ++ ([.int .i64 v80, .int .u32 v88, .int .i64 n24, .int .i64 n32, .int .i64 n72] : List Value)).toArray = _
    rw [List.append_assoc]
    rfl
  rw [hD2, List.length_map, hidl] at hcp
  have hcp2 : (Builtin.copy_ #[31, 31] 3 #[.slice (some ⟨X, 2, none⟩) 16 16, .slice (some ⟨b, off + 56, none⟩) 456 (cap - 56)]).run Tryd.prog w7.drew = .ok (.int .i64 16) (w7.drew.setRow X D) := hcp
  have HCP := hide hcp2
  have HDd := hide hD
  have HDs := hide hDs
  have HDo := hide hDo
  have k56 : ¬ (512 : Int) < 56 := by decide
  have k57 : ¬ cap = 56 := by have := HCap.out.1; omega
  clear hcp hcp2 hD hD2 hDs hDo hLi hidl z0 z1 z2 z3 f0 f1 f2 f3

  refine b_region (S := fun _ => True) (F := (fun _ => true)) (by kernel_rfl) ?_
  refine b_take 0 (some 68) (.pointer (some ⟨X, 0, none⟩)) rfl rfl (by kernel_rfl) (by kernel_rfl) (by kernel_rfl) (by kernel_rfl) (by kernel_rfl) (fun _ _ _ h => h) (by rfl) trivial ?_ ?_
  · intro u hSu
    have hSw := hSu
    go_simp
  try simp only [Act.put, List.setIfInBounds_toArray, List.set_cons_zero, List.set_cons_succ]
  refine b_take 1 (some 69) (.pointer (some ⟨X, 2, none⟩)) rfl rfl (by kernel_rfl) (by kernel_rfl) (by kernel_rfl) (by kernel_rfl) (by kernel_rfl) (fun _ _ _ h => h) (by rfl) trivial ?_ ?_
  · intro u hSu
    have hSw := hSu
    go_simp
  try simp only [Act.put, List.setIfInBounds_toArray, List.set_cons_zero, List.set_cons_succ]
  refine b_take 2 (some 70) (.slice (some ⟨X, 2, none⟩) 16 16) rfl rfl (by kernel_rfl) (by kernel_rfl) (by kernel_rfl) (by kernel_rfl) (by kernel_rfl) (fun _ _ _ h => h) (by rfl) trivial ?_ ?_
  · intro u hSu
    have hSw := hSu
    go_simp
  try simp only [Act.put, List.setIfInBounds_toArray, List.set_cons_zero, List.set_cons_succ]
  refine b_take 3 (some 71) (.slice (some ⟨b, off, none⟩) 512 cap) rfl rfl (by kernel_rfl) (by kernel_rfl) (by kernel_rfl) (by kernel_rfl) (by kernel_rfl) (fun _ _ _ h => h) (by rfl) trivial ?_ ?_
  · intro u hSu
    have hSw := hSu
    go_simp
  try simp only [Act.put, List.setIfInBounds_toArray, List.set_cons_zero, List.set_cons_succ]
  refine b_take 4 (some 72) (.slice (some ⟨b, off + 56, none⟩) 456 (cap - 56)) rfl rfl (by kernel_rfl) (by kernel_rfl) (by kernel_rfl) (by kernel_rfl) (by kernel_rfl) (fun _ _ _ h => h) (by rfl) trivial ?_ ?_
  · intro u hSu
    have hSw := hSu
    go_simp
  try simp only [Act.put, List.setIfInBounds_toArray, List.set_cons_zero, List.set_cons_succ]
  refine b_val 5 (some 73) (.int .i64 16) (w7.drew.setRow X D) (by kernel_rfl) rfl rfl rfl (exec_cpy rfl rfl rfl HCP.out) (fun _ => trivial) ?_
  refine b_done (by kernel_rfl) ?_ _

  have hXl : w5.heap.size ≤ X := by have := HX.out; omega
  have hBr : Below w.heap.size w (w7.drew.setRow X D) := setrow_belowG HB7.out.drew (by have := HB5.out.size; omega)
  have hRx : R < X := by have := HK5.out.lt; omega
  have HX8 := hide (setRow_blk HK7.out.drew D)
  have HR8 := hide (show Blk (w7.drew.setRow X D) R #[.int .i64 0, .int .i64 0, .int .u8 0, .int .u8 0, .int .u8 0, .int .u8 0, .int .u8 0, .int .u8 0, .int .u8 0, .int .u8 0, .int .u8 0, .int .u8 0, .int .u8 0, .int .u8 0, .int .u8 0, .int .u8 0, .int .u8 0, .int .u8 0, .int .i64 0, .int .u32 0, .int .i64 0, .int .i64 0, .int .i64 0] 105 from (HR7.out.drew).chg (X := fun i => i = X) ⟨rfl, rfl, rfl, by simp, fun i _ hi => setRow_other _ _ i _ hi⟩ (by omega))
  have HB8 := hide hBr
  clear hXl hBr hRx HCP
  go_wp2_with (first | (refine wpList_isop (.load 105 (.tmp 8)) rfl ?_; refine wpList_load_row rfl 105 (.tmp 8) rfl X rfl 105 D (0, 0) _ HX8.out Tryd.underlying105 rfl (by rw [HDs.out]; kernel_rfl) ?_) | (refine wpList_isop (.store 105 (.tmp 2) (.tmp 74)) rfl ?_; refine wpList_store_row rfl 105 (.tmp 2) (.tmp 74) rfl R D rfl rfl 105 _ HR8.out (by rw [HDs.out]; kernel_rfl) (by rw [HDs.out]; rfl) HDo.out ?_))
  refine bodyPost_ret (ret_hd rfl _ _ R D HDs.out _ rfl rfl (setRow_blk HR8.out _)) rfl ⟨?_, setrow_belowG HB8.out (by have := HHR.out; omega)⟩
  rw [HDe.out, HDd.out]
  show _ = Ending.returned (.tuple #[.agg (hdOf l).cells.toArray, .int .i64 0])
  unfold hdOf
  rw [← HE40.out, ← HE48.out, ← HV80.out, ← HE88.out, ← HE24.out, ← HE32.out, ← HE72.out]
  rfl
end Go.Proofs.YtpbnjobjjnhplaaDoor.Oct
