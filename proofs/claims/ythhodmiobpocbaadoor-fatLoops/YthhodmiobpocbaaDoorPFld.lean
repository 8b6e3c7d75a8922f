/- A disk with one chain in its table, that ends or comes back: lists alone. -/
import Derived.Test.YthhodmiobpocbaaDoorPFlbFlc
import Derived.Test.YthhodmiobpocbaaDoorPFnx
namespace Go.Proofs.YthhodmiobpocbaaDoor.Oct
open Go.RowKit

/-- What the table says of the chain's cluster i. -/
def nxL (n kb : Nat) (en : Bool) (i : Nat) : Int := if i + 1 = n then (if en then 268435455 else 3 + (kb : Int)) else 4 + (i : Int)

theorem nxL_in (n kb : Nat) (en : Bool) (i : Nat) (hn : n ≤ 100) (hk : kb < n) (hi : i < n) : 3 ≤ nxL n kb en i ∧ nxL n kb en i ≤ 268435455 := by
  unfold nxL
  split
  · split <;> omega
  · omega

/-- The bytes of the first so many of its numbers. -/
def tbL (n kb : Nat) (en : Bool) : Nat → List Int
  | 0 => []
  | j + 1 => tbL n kb en j ++ bytesOf (nxL n kb en j) 4

theorem tbL_len (n kb : Nat) (en : Bool) : ∀ j, (tbL n kb en j).length = 4 * j
  | 0 => rfl
  | j + 1 => by rw [tbL, List.length_append, tbL_len n kb en j, bytesOf_length]; omega

theorem getD_app (l m : List Int) (i : Nat) : (l ++ m).getD i 0 = if i < l.length then l.getD i 0 else m.getD (i - l.length) 0 := by
  simp only [List.getD_eq_getElem?_getD]
  by_cases h : i < l.length
  · rw [if_pos h, List.getElem?_append_left h]
  · rw [if_neg h, List.getElem?_append_right (by omega)]

theorem tbL_get (n kb : Nat) (en : Bool) (i q : Nat) (hq : q < 4) : ∀ j, i < j → (tbL n kb en j).getD (4 * i + q) 0 = nxL n kb en i / 256 ^ q % 256
  | 0, h => by omega
  | j + 1, h => by
    rw [tbL, getD_app, tbL_len]
    by_cases hi : i < j
    · rw [if_pos (by omega)]
      exact tbL_get n kb en i q hq j hi
    · obtain rfl : i = j := by omega
      rw [if_neg (by omega), show 4 * i + q - 4 * i = q by omega, bytesOf_getF _ 4 q hq]

/-- The disk. -/
def d1L (n kb : Nat) (en : Bool) : List Int := over (m5 150 1) 2060 (tbL n kb en n)
def d2L (n kb : Nat) (en : Bool) : List Int := over (d1L n kb en) 3084 (tbL n kb en n)
def d3L (n kb : Nat) (en : Bool) : List Int := over (d2L n kb en) 1000 (bytesOf 4294967295 4)

theorem lg150 : lgM 150 1 = 2 := by decide
theorem m150_len : (m5 150 1).length = 76800 := m5_len (by omega) (by omega) (by omega) (by omega)
theorem d1L_len {n kb : Nat} {en : Bool} (hn : n ≤ 100) : (d1L n kb en).length = 76800 := over_len8 _ _ 2060 _ m150_len (by rw [tbL_len]; omega)
theorem d2L_len {n kb : Nat} {en : Bool} (hn : n ≤ 100) : (d2L n kb en).length = 76800 := over_len8 _ _ 3084 _ (d1L_len hn) (by rw [tbL_len]; omega)
theorem d3L_len {n kb : Nat} {en : Bool} (hn : n ≤ 100) : (d3L n kb en).length = 76800 := over_len8 _ _ 1000 _ (d2L_len hn) (by rw [bytesOf_length]; omega)

theorem d3L_get {n kb : Nat} {en : Bool} (hn : n ≤ 100) (i : Nat) : (d3L n kb en).getD i 0 = if 1000 ≤ i ∧ i < 1000 + 4 then 4294967295 / 2 ^ (8 * (i - 1000)) % 256 else if 3084 ≤ i ∧ i < 3084 + 4 * n then (tbL n kb en n).getD (i - 3084) 0 else if 2060 ≤ i ∧ i < 2060 + 4 * n then (tbL n kb en n).getD (i - 2060) 0 else (m5 150 1).getD i 0 := by
  unfold d3L
  rw [over_putN _ _ _ _ (by rw [d2L_len hn]; omega), getD_putN _ _ _ _ _ (by rw [d2L_len hn]; omega)]
  unfold d2L
  rw [over_getF _ _ _ (by rw [tbL_len, d1L_len hn]; omega), tbL_len]
  unfold d1L
  rw [over_getF _ _ _ (by rw [tbL_len, m150_len]; omega), tbL_len]

theorem m150_get (i : Nat) : (m5 150 1).getD i 0 = if 3072 ≤ i ∧ i < 3072 + 12 then t12.getD (i - 3072) 0 else if 2048 ≤ i ∧ i < 2048 + 12 then t12.getD (i - 2048) 0 else if 1024 ≤ i ∧ i < 1024 + 512 then (fM 150 1).getD (i - 1024) 0 else if 512 ≤ i ∧ i < 512 + 512 then (cM 150 1).getD (i - 512) 0 else if 0 ≤ i ∧ i < 0 + 512 then (fM 150 1).getD (i - 0) 0 else 0 := by
  have h := m5_get (s := 150) (e := 1) (by omega) (by omega) (by omega) (by omega) i
  rw [lg150] at h
  exact h

theorem b150 : bM 150 1 = Bt.mk 1 4 2 150 2 2 1 2 := by unfold bM; rw [lg150]; rfl
theorem b150_chk : (Bt.mk 1 4 2 150 2 2 1 2).chk = 0 := by decide
theorem b150_clus : (Bt.mk 1 4 2 150 2 2 1 2).clus = 142 := by decide

section
variable {n kb : Nat} {en : Bool} (hn : n ≤ 100)
include hn

theorem sL_0 : secs (d3L n kb en) 0 1 = fM 150 1 := by
  refine secs_eq _ _ _ _ 0 512 rfl rfl (fM_len 150 1) (by rw [d3L_len hn]; omega) fun i hi => ?_
  rw [d3L_get hn, if_neg (by omega), if_neg (by omega), if_neg (by omega), m150_get, if_neg (by omega), if_neg (by omega), if_neg (by omega), if_neg (by omega), if_pos (by omega), show 0 + i - 0 = i by omega]

theorem sL_2 : secs (d3L n kb en) 2 1 = fM 150 1 := by
  refine secs_eq _ _ _ _ 1024 512 rfl rfl (fM_len 150 1) (by rw [d3L_len hn]; omega) fun i hi => ?_
  rw [d3L_get hn, if_neg (by omega), if_neg (by omega), if_neg (by omega), m150_get, if_neg (by omega), if_neg (by omega), if_pos (by omega), Nat.add_sub_cancel_left]

theorem sL_1 : secs (d3L n kb en) 1 1 = cntP 4294967295 3 := by
  refine secs_eq _ _ _ _ 512 512 rfl rfl (cntP_len _ _) (by rw [d3L_len hn]; omega) fun i hi => ?_
  rw [d3L_get hn]
  by_cases h4 : 488 ≤ i ∧ i < 488 + 4
  · refine Eq.trans (b := 4294967295 / 2 ^ (8 * (i - 488)) % 256) (by rw [if_pos (by omega), show 512 + i - 1000 = i - 488 by omega]) (Eq.symm (by rw [cnt_getM, if_neg (by omega), if_pos h4]))
  · refine Eq.trans (b := (cM 150 1).getD i 0) (by rw [if_neg (by omega), if_neg (by omega), if_neg (by omega), m150_get, if_neg (by omega), if_neg (by omega), if_neg (by omega), if_pos (by omega), Nat.add_sub_cancel_left]) ?_
    unfold cM
    rw [cnt_getM, cnt_getM]
    by_cases h5 : 492 ≤ i ∧ i < 492 + 4
    · exact (if_pos h5).trans (if_pos h5).symm
    · exact ((if_neg h5).trans (if_neg h4)).trans ((if_neg h5).trans (if_neg h4)).symm

/-- The table's bytes. -/
def tTL (n kb : Nat) (en : Bool) : List Int := over (over (List.replicate 1024 0) 0 t12) 12 (tbL n kb en n)

omit hn in
theorem tTL_len (hn : n ≤ 100) : (tTL n kb en).length = 1024 := over_len8 _ _ 12 _ (over_len8 _ _ 0 _ List.length_replicate (by rw [t12_len]; omega)) (by rw [tbL_len]; omega)

omit hn in
theorem tTL_get (hn : n ≤ 100) (i : Nat) : (tTL n kb en).getD i 0 = if 12 ≤ i ∧ i < 12 + 4 * n then (tbL n kb en n).getD (i - 12) 0 else if 0 ≤ i ∧ i < 0 + 12 then t12.getD (i - 0) 0 else 0 := by
  unfold tTL
  have h0 : (over (List.replicate 1024 (0 : Int)) 0 t12).length = 1024 := over_len8 _ _ 0 _ List.length_replicate (by rw [t12_len]; omega)
  rw [over_getF _ _ _ (by rw [tbL_len, h0]; omega), tbL_len, over_getF _ _ _ (by rw [t12_len, List.length_replicate]; omega), t12_len]
  rw [show (List.replicate 1024 (0 : Int)).getD i 0 = 0 by simp only [List.getD_eq_getElem?_getD, List.getElem?_replicate]; split <;> rfl]

theorem sL_4 : secs (d3L n kb en) 4 2 = tTL n kb en := by
  refine secs_eq _ _ _ _ 2048 1024 rfl rfl (tTL_len hn) (by rw [d3L_len hn]; omega) fun i hi => ?_
  rw [d3L_get hn, tTL_get hn, if_neg (by omega), if_neg (by omega)]
  by_cases h4 : 12 ≤ i ∧ i < 12 + 4 * n
  · rw [if_pos (by omega), if_pos h4, show 2048 + i - 2060 = i - 12 by omega]
  · rw [if_neg (by omega), if_neg h4, m150_get, if_neg (by omega)]
    by_cases h5 : i < 12
    · rw [if_pos (by omega), if_pos (by omega), Nat.add_sub_cancel_left, Nat.sub_zero]
    · rw [if_neg (by omega), if_neg (by omega), if_neg (by omega), if_neg (by omega), if_neg (by omega)]

theorem sL_6 : secs (d3L n kb en) 6 2 = tTL n kb en := by
  refine secs_eq _ _ _ _ 3072 1024 rfl rfl (tTL_len hn) (by rw [d3L_len hn]; omega) fun i hi => ?_
  rw [d3L_get hn, tTL_get hn, if_neg (by omega)]
  by_cases h4 : 12 ≤ i ∧ i < 12 + 4 * n
  · rw [if_pos (by omega), if_pos h4, show 3072 + i - 3084 = i - 12 by omega]
  · rw [if_neg (by omega), if_neg (by omega), if_neg h4, m150_get]
    by_cases h5 : i < 12
    · rw [if_pos (by omega), if_pos (by omega), Nat.add_sub_cancel_left, Nat.sub_zero]
    · rw [if_neg (by omega), if_neg (by omega), if_neg (by omega), if_neg (by omega), if_neg (by omega), if_neg (by omega)]

theorem volL : Vol (d3L n kb en) (Bt.mk 1 4 2 150 2 2 1 2) 142 4294967295 3 where
  par := by rw [sL_0 hn]; unfold fM; rw [b150]; exact par_put _ _ List.length_replicate b150_chk
  size := by rw [d3L_len hn]; decide
  copy := Or.inr (by show secs (d3L n kb en) 2 1 = secs (d3L n kb en) 0 1; rw [sL_0 hn, sL_2 hn])
  cnt := by show parC (secs (d3L n kb en) 1 1) = _; rw [sL_1 hn]; exact parc_cntM _ _ (by omega)
  tab := Or.inr (by show secs (d3L n kb en) (4 + 2) 2 = secs (d3L n kb en) 4 2; rw [show (4 : Int) + 2 = 6 from rfl, sL_4 hn, sL_6 hn])
  clus := b150_clus
  free := Or.inl rfl

theorem nxtL (hk : kb < n) (i : Nat) (hi : i < n) : nxt (tTL n kb en) (i + 1) = nxL n kb en i := by
  unfold nxt
  have hg : ∀ q, q < 4 → (tTL n kb en).getD ((i + 1 + 2) * 4 + q) 0 = nxL n kb en i / 256 ^ q % 256 := fun q hq => by
    rw [tTL_get hn, if_pos (by omega), show (i + 1 + 2) * 4 + q - 12 = 4 * i + q by omega, tbL_get n kb en i q hq n hi]
  have hr := nxL_in n kb en i hn hk hi
  simp only [num]
  rw [hg 0 (by omega), hg 1 (by omega), hg 2 (by omega), hg 3 (by omega)]
  simp only [Int.pow_zero, Int.mul_one, Int.reducePow, Int.ediv_one]
  omega
end

/-- The chain's first so many clusters. -/
def rgL (i : Nat) : List Int := (List.range i).map (fun j : Nat => 3 + (j : Int))
theorem rgL_succ (i : Nat) : rgL (i + 1) = rgL i ++ [3 + (i : Int)] := by simp [rgL, List.range_succ]
theorem rgL_mem (i : Nat) (c : Int) : c ∈ rgL i ↔ 3 ≤ c ∧ c < 3 + (i : Int) := by
  simp only [rgL, List.mem_map, List.mem_range]
  constructor
  · rintro ⟨j, hj, rfl⟩; omega
  · rintro ⟨h1, h2⟩; exact ⟨(c - 3).toNat, by omega, by omega⟩

theorem fol_loop {n kb : Nat} {en : Bool} (L : List Int) (hn : n ≤ 100) (hk : kb < n) (hL : ∀ i, i < n → L.getD (i + 1) 0 = nxL n kb en i) : ∀ (d i m : Nat), i + d + 1 = n → d + 2 ≤ m → fol L 142 (fun _ => 0) m (rgL i) (3 + (i : Int)) = if en then (rgL n, 0) else ([], 13)
  | d, i, 0, h, hm => by omega
  | d, i, m + 1, h, hm => by
    rw [fol, if_pos (by omega), if_neg (by rw [rgL_mem]; omega), if_neg (by omega), show (3 + (i : Int) - 2).toNat = i + 1 by omega, hL i (by omega)]
    have hr := nxL_in n kb en i hn hk (by omega)
    cases d with
    | zero =>
      have hx : nxL n kb en i = if en then 268435455 else 3 + (kb : Int) := by unfold nxL; rw [if_pos (by omega)]
      cases en
      · rw [hx]
        simp only [Bool.false_eq_true, if_false]
        rw [if_neg (by omega), if_neg (by omega)]
        obtain ⟨m', rfl⟩ : ∃ m', m = m' + 1 := ⟨m - 1, by omega⟩
        rw [← rgL_succ, fol, if_pos (by omega), if_pos (by rw [rgL_mem]; omega)]
      · rw [hx]
        simp only [if_true]
        rw [if_neg (by omega), if_pos (by omega), ← rgL_succ, show i + 1 = n by omega]
    | succ d =>
      have hx : nxL n kb en i = 4 + (i : Int) := by unfold nxL; rw [if_neg (by omega)]
      rw [hx, if_neg (by omega), if_neg (by omega), ← rgL_succ, show (4 : Int) + (i : Int) = 3 + ((i + 1 : Nat) : Int) by omega]
      exact fol_loop L hn hk hL d (i + 1) m (by omega) (by omega)
end Go.Proofs.YthhodmiobpocbaaDoor.Oct
