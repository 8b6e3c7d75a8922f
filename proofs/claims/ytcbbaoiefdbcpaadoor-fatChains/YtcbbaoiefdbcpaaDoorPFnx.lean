/- A volume that is made is one, of any size; which of its bytes are free. -/
import Derived.Test.YtcbbaoiefdbcpaaDoorPFsl
import Derived.Test.YtcbbaoiefdbcpaaDoorPFmv
namespace Go.Proofs.YtcbbaoiefdbcpaaDoor.Oct
open Go.RowKit

/-- How many sectors a table has. -/
def lgM (s e : Nat) : Nat := (s / e + 2 + 127) / 128

/-- What a volume that is made says. -/
def bM (s e : Nat) : Bt := ⟨(e : Int), 4, 2, (s : Int), (lgM s e : Int), 2, 1, 2⟩

/-- The numbers with which a table begins. -/
def t12 : List Int := bytesOf 268435448 4 ++ bytesOf 268435455 4 ++ bytesOf 268435455 4

theorem t12_len : t12.length = 12 := by decide

def fM (s e : Nat) : List Int := putB (bM s e) (List.replicate 512 0)
theorem fM_len (s e : Nat) : (fM s e).length = 512 := putB_len _ _ List.length_replicate
def cM (s e : Nat) : List Int := cntP ((bM s e).clus - 1) 3
theorem cM_len (s e : Nat) : (cM s e).length = 512 := cntP_len _ _

/-- Its bytes, as they are laid one behind the other. -/
def m0 (s _e : Nat) : List Int := List.replicate (512 * s) 0
def m1 (s e : Nat) : List Int := over (m0 s e) 0 (fM s e)
def m2 (s e : Nat) : List Int := over (m1 s e) 512 (cM s e)
def m3 (s e : Nat) : List Int := over (m2 s e) 1024 (fM s e)
def m4 (s e : Nat) : List Int := over (m3 s e) 2048 t12
def m5 (s e : Nat) : List Int := over (m4 s e) (2048 + 512 * lgM s e) t12

theorem lg_says {s e : Nat} (h1 : 16 ≤ s) (h2 : s ≤ 2000) (e1 : 1 ≤ e) (e2 : e ≤ 8) : 1 ≤ lgM s e ∧ 4 + 2 * lgM s e < s ∧ lgM s e ≤ 17 ∧ s / e + 2 ≤ 128 * lgM s e := by
  unfold lgM
  have he : e = 1 ∨ e = 2 ∨ e = 3 ∨ e = 4 ∨ e = 5 ∨ e = 6 ∨ e = 7 ∨ e = 8 := by omega
  rcases he with r | r | r | r | r | r | r | r <;> subst r <;> omega

theorem m0_len (s e : Nat) : (m0 s e).length = 512 * s := List.length_replicate
theorem m1_len {s e : Nat} (h : 16 ≤ s) : (m1 s e).length = 512 * s := over_len8 _ _ 0 _ (m0_len s e) (by rw [fM_len]; omega)
theorem m2_len {s e : Nat} (h : 16 ≤ s) : (m2 s e).length = 512 * s := over_len8 _ _ 512 _ (m1_len h) (by rw [cM_len]; omega)
theorem m3_len {s e : Nat} (h : 16 ≤ s) : (m3 s e).length = 512 * s := over_len8 _ _ 1024 _ (m2_len h) (by rw [fM_len]; omega)
theorem m4_len {s e : Nat} (h : 16 ≤ s) : (m4 s e).length = 512 * s := over_len8 _ _ 2048 _ (m3_len h) (by rw [t12_len]; omega)
theorem m5_len {s e : Nat} (h1 : 16 ≤ s) (h2 : s ≤ 2000) (e1 : 1 ≤ e) (e2 : e ≤ 8) : (m5 s e).length = 512 * s := over_len8 _ _ _ _ (m4_len h1) (by have := lg_says h1 h2 e1 e2; rw [t12_len]; omega)

/-- What begin lays is what the document lays. -/
theorem begL_t12 (l : List Int) (p : Nat) (h : p + 12 ≤ l.length) : begL l p 3 = over l p t12 := by
  refine list_eqF _ _ (by rw [begL_len, over_length (by rw [t12_len]; omega)]) fun i => ?_
  rw [over_getF _ _ _ (by rw [t12_len]; omega), t12_len]
  show (putN (putN (putN l p 268435448 4) (p + 4) 268435455 4) (p + 8) 268435455 4).getD i 0 = _
  rw [getD_putN _ _ _ _ _ (by rw [putN_length, putN_length]; omega), getD_putN _ _ _ _ _ (by rw [putN_length]; omega), getD_putN _ _ _ _ _ (by omega)]
  by_cases hi : p ≤ i ∧ i < p + 12
  · obtain ⟨k, rfl⟩ : ∃ k, i = p + k := ⟨i - p, by omega⟩
    have hk : k = 0 ∨ k = 1 ∨ k = 2 ∨ k = 3 ∨ k = 4 ∨ k = 5 ∨ k = 6 ∨ k = 7 ∨ k = 8 ∨ k = 9 ∨ k = 10 ∨ k = 11 := by omega
    rcases hk with r | r | r | r | r | r | r | r | r | r | r | r <;> subst r
    · refine Eq.trans (b := t12.getD 0 0) (by rw [if_neg (by omega), if_neg (by omega), if_pos (by omega), show p + 0 - (p) = 0 by omega]; decide) (by rw [if_pos (by omega), show p + 0 - p = 0 by omega])
    · refine Eq.trans (b := t12.getD 1 0) (by rw [if_neg (by omega), if_neg (by omega), if_pos (by omega), show p + 1 - (p) = 1 by omega]; decide) (by rw [if_pos (by omega), show p + 1 - p = 1 by omega])
    · refine Eq.trans (b := t12.getD 2 0) (by rw [if_neg (by omega), if_neg (by omega), if_pos (by omega), show p + 2 - (p) = 2 by omega]; decide) (by rw [if_pos (by omega), show p + 2 - p = 2 by omega])
    · refine Eq.trans (b := t12.getD 3 0) (by rw [if_neg (by omega), if_neg (by omega), if_pos (by omega), show p + 3 - (p) = 3 by omega]; decide) (by rw [if_pos (by omega), show p + 3 - p = 3 by omega])
    · refine Eq.trans (b := t12.getD 4 0) (by rw [if_neg (by omega), if_pos (by omega), show p + 4 - (p + 4) = 0 by omega]; decide) (by rw [if_pos (by omega), show p + 4 - p = 4 by omega])
    · refine Eq.trans (b := t12.getD 5 0) (by rw [if_neg (by omega), if_pos (by omega), show p + 5 - (p + 4) = 1 by omega]; decide) (by rw [if_pos (by omega), show p + 5 - p = 5 by omega])
    · refine Eq.trans (b := t12.getD 6 0) (by rw [if_neg (by omega), if_pos (by omega), show p + 6 - (p + 4) = 2 by omega]; decide) (by rw [if_pos (by omega), show p + 6 - p = 6 by omega])
    · refine Eq.trans (b := t12.getD 7 0) (by rw [if_neg (by omega), if_pos (by omega), show p + 7 - (p + 4) = 3 by omega]; decide) (by rw [if_pos (by omega), show p + 7 - p = 7 by omega])
    · refine Eq.trans (b := t12.getD 8 0) (by rw [if_pos (by omega), show p + 8 - (p + 8) = 0 by omega]; decide) (by rw [if_pos (by omega), show p + 8 - p = 8 by omega])
    · refine Eq.trans (b := t12.getD 9 0) (by rw [if_pos (by omega), show p + 9 - (p + 8) = 1 by omega]; decide) (by rw [if_pos (by omega), show p + 9 - p = 9 by omega])
    · refine Eq.trans (b := t12.getD 10 0) (by rw [if_pos (by omega), show p + 10 - (p + 8) = 2 by omega]; decide) (by rw [if_pos (by omega), show p + 10 - p = 10 by omega])
    · refine Eq.trans (b := t12.getD 11 0) (by rw [if_pos (by omega), show p + 11 - (p + 8) = 3 by omega]; decide) (by rw [if_pos (by omega), show p + 11 - p = 11 by omega])
  · refine Eq.trans (b := l.getD i 0) (by rw [if_neg (by omega), if_neg (by omega), if_neg (by omega)]) (by rw [if_neg hi])

/-- Its bytes, one by one. -/
theorem m5_get {s e : Nat} (h1 : 16 ≤ s) (h2 : s ≤ 2000) (e1 : 1 ≤ e) (e2 : e ≤ 8) (i : Nat) : (m5 s e).getD i 0 = if 2048 + 512 * lgM s e ≤ i ∧ i < 2048 + 512 * lgM s e + 12 then t12.getD (i - (2048 + 512 * lgM s e)) 0 else if 2048 ≤ i ∧ i < 2048 + 12 then t12.getD (i - 2048) 0 else if 1024 ≤ i ∧ i < 1024 + 512 then (fM s e).getD (i - 1024) 0 else if 512 ≤ i ∧ i < 512 + 512 then (cM s e).getD (i - 512) 0 else if 0 ≤ i ∧ i < 0 + 512 then (fM s e).getD (i - 0) 0 else 0 := by
  have hl := lg_says h1 h2 e1 e2
  unfold m5
  rw [over_getF _ _ _ (by rw [t12_len, m4_len h1]; omega), t12_len]
  unfold m4
  rw [over_getF _ _ _ (by rw [t12_len, m3_len h1]; omega), t12_len]
  unfold m3
  rw [over_getF _ _ _ (by rw [fM_len, m2_len h1]; omega), fM_len]
  unfold m2
  rw [over_getF _ _ _ (by rw [cM_len, m1_len h1]; omega), cM_len]
  unfold m1
  rw [over_getF _ _ _ (by rw [fM_len, m0_len]; omega), fM_len]
  unfold m0
  rw [show (List.replicate (512 * s) (0 : Int)).getD i 0 = 0 by simp only [List.getD_eq_getElem?_getD, List.getElem?_replicate]; split <;> rfl]

theorem get_far (l : List Int) (i : Nat) (h : l.length ≤ i) : l.getD i 0 = 0 := by
  rw [List.getD_eq_getElem?_getD, List.getElem?_eq_none h]; rfl

theorem secs_eq (d m : List Int) (p n : Int) (P N : Nat) (hp : (p * 512).toNat = P) (hn : (n * 512).toNat = N) (hm : m.length = N) (hd : P + N ≤ d.length) (h : ∀ i, i < N → d.getD (P + i) 0 = m.getD i 0) : secs d p n = m := by
  unfold secs
  rw [hp, hn]
  refine list_eqF _ _ (by rw [List.length_take, List.length_drop, hm]; omega) fun i => ?_
  rw [take_get]
  by_cases hi : i < N
  · rw [if_pos hi, h i hi]
  · rw [if_neg hi, get_far m i (by omega)]

/-- A table's bytes. -/
def tM (s e : Nat) : List Int := over (List.replicate (512 * lgM s e) 0) 0 t12
theorem tM_len {s e : Nat} (h : 1 ≤ lgM s e) : (tM s e).length = 512 * lgM s e := over_len8 _ _ 0 _ List.length_replicate (by rw [t12_len]; omega)
theorem tM_get {s e : Nat} (h : 1 ≤ lgM s e) (i : Nat) : (tM s e).getD i 0 = if 0 ≤ i ∧ i < 0 + 12 then t12.getD (i - 0) 0 else 0 := by
  unfold tM
  rw [over_getF _ _ _ (by rw [t12_len, List.length_replicate]; omega), t12_len]
  rw [show (List.replicate (512 * lgM s e) (0 : Int)).getD i 0 = 0 by simp only [List.getD_eq_getElem?_getD, List.getElem?_replicate]; split <;> rfl]

section
variable {s e : Nat} (h1 : 16 ≤ s) (h2 : s ≤ 2000) (e1 : 1 ≤ e) (e2 : e ≤ 8)
include h1 h2 e1 e2

theorem sM_0 : secs (m5 s e) 0 1 = fM s e := by
  have hl := lg_says h1 h2 e1 e2
  refine secs_eq _ _ _ _ 0 512 rfl rfl (fM_len s e) (by rw [m5_len h1 h2 e1 e2]; omega) fun i hi => ?_
  rw [m5_get h1 h2 e1 e2, if_neg (by omega), if_neg (by omega), if_neg (by omega), if_neg (by omega), if_pos (by omega)]
  rw [show 0 + i - 0 = i by omega]

theorem sM_1 : secs (m5 s e) 1 1 = cM s e := by
  have hl := lg_says h1 h2 e1 e2
  refine secs_eq _ _ _ _ 512 512 rfl rfl (cM_len s e) (by rw [m5_len h1 h2 e1 e2]; omega) fun i hi => ?_
  rw [m5_get h1 h2 e1 e2, if_neg (by omega), if_neg (by omega), if_neg (by omega), if_pos (by omega)]
  rw [Nat.add_sub_cancel_left]

theorem sM_2 : secs (m5 s e) 2 1 = fM s e := by
  have hl := lg_says h1 h2 e1 e2
  refine secs_eq _ _ _ _ 1024 512 rfl rfl (fM_len s e) (by rw [m5_len h1 h2 e1 e2]; omega) fun i hi => ?_
  rw [m5_get h1 h2 e1 e2, if_neg (by omega), if_neg (by omega), if_pos (by omega)]
  rw [Nat.add_sub_cancel_left]

theorem sM_4 : secs (m5 s e) 4 (lgM s e : Int) = tM s e := by
  have hl := lg_says h1 h2 e1 e2
  refine secs_eq _ _ _ _ 2048 (512 * lgM s e) rfl (by omega) (tM_len hl.1) (by rw [m5_len h1 h2 e1 e2]; omega) fun i hi => ?_
  rw [m5_get h1 h2 e1 e2, tM_get hl.1, if_neg (by omega)]
  by_cases hk : i < 12
  · rw [if_pos (by omega), if_pos (by omega)]
    rw [Nat.add_sub_cancel_left, Nat.sub_zero]
  · rw [if_neg (by omega), if_neg (by omega), if_neg (by omega), if_neg (by omega), if_neg (by omega)]

theorem sM_5 : secs (m5 s e) (4 + (lgM s e : Int)) (lgM s e : Int) = tM s e := by
  have hl := lg_says h1 h2 e1 e2
  refine secs_eq _ _ _ _ (2048 + 512 * lgM s e) (512 * lgM s e) (by omega) (by omega) (tM_len hl.1) (by rw [m5_len h1 h2 e1 e2]; omega) fun i hi => ?_
  rw [m5_get h1 h2 e1 e2, tM_get hl.1]
  by_cases hk : i < 12
  · rw [if_pos (by omega), if_pos (by omega)]
    rw [Nat.add_sub_cancel_left, Nat.sub_zero]
  · rw [if_neg (by omega), if_neg (by omega), if_neg (by omega), if_neg (by omega), if_neg (by omega), if_neg (by omega)]

theorem nxt_0 : nxt (tM s e) 0 = 268435455 := by
  have hl := lg_says h1 h2 e1 e2
  unfold nxt
  have hg := fun i => tM_get (s := s) (e := e) hl.1 i
  have g8 := hg 8
  have g9 := hg 9
  have g10 := hg 10
  have g11 := hg 11
  rw [if_pos (by omega)] at g8 g9 g10 g11
  show num (tM s e) 8 4 % 268435456 = _
  simp only [num]
  rw [show 8 + 0 = 8 from rfl, show 8 + 1 = 9 from rfl, show 8 + 2 = 10 from rfl, show 8 + 3 = 11 from rfl, g8, g9, g10, g11]
  decide

theorem nxt_more (i : Nat) (hi : 1 ≤ i) : nxt (tM s e) i = 0 := by
  have hl := lg_says h1 h2 e1 e2
  unfold nxt
  have hg := fun j (hj : 12 ≤ j) => (tM_get (s := s) (e := e) hl.1 j).trans (if_neg (by omega))
  simp only [num]
  rw [hg _ (by omega), hg _ (by omega), hg _ (by omega), hg _ (by omega)]
  decide
end

theorem numsF_get (T : List Int) (k i : Nat) (h : i < k) : (numsF T k).getD i 0 = nxt T i := by
  unfold numsF
  rw [List.getD_eq_getElem?_getD, List.getElem?_map, List.getElem?_range h]
  rfl

theorem freesM {s e : Nat} (h1 : 16 ≤ s) (h2 : s ≤ 2000) (e1 : 1 ≤ e) (e2 : e ≤ 8) (k : Nat) : ∀ j, j + 1 ≤ k → frees (numsF (tM s e) k) (j + 1) = (j : Int)
  | 0, hj => by
    rw [frees_step _ _ (by rw [numsF_len]; omega), numsF_get _ _ _ (by omega), nxt_0 h1 h2 e1 e2, if_neg (by decide)]
    rfl
  | j + 1, hj => by
    rw [frees_step _ _ (by rw [numsF_len]; omega), numsF_get _ _ _ (by omega), nxt_more h1 h2 e1 e2 _ (by omega), if_pos rfl, freesM h1 h2 e1 e2 k j (by omega)]
    push_cast
    rfl

theorem spcM {s e : Nat} (h1 : 16 ≤ s) (h2 : s ≤ 2000) (e1 : 1 ≤ e) (e2 : e ≤ 8) (b : Bt) (k : Nat) : ∀ j, j + 1 ≤ k → spcF b (numsF (tM s e) k) (j + 1) = (List.range j).map (fun i : Nat => (b.at ((i : Int) + 3), b.at ((i : Int) + 3) + 512 * b.each))
  | 0, hj => by
    rw [spcF_step, numsF_get _ _ _ (by omega), nxt_0 h1 h2 e1 e2, if_neg (by decide)]
    rfl
  | j + 1, hj => by
    rw [spcF_step, numsF_get _ _ _ (by omega), nxt_more h1 h2 e1 e2 _ (by omega), if_pos rfl, spcM h1 h2 e1 e2 b k j (by omega), List.range_succ, List.map_append]
    simp only [List.map_cons, List.map_nil]
    rw [show ((j + 1 : Nat) : Int) + 2 = (j : Int) + 3 by omega]
end Go.Proofs.YtcbbaoiefdbcpaaDoor.Oct

namespace Go.Proofs.YtcbbaoiefdbcpaaDoor.Oct
open Go.RowKit

theorem cnt_getM (f x : Int) (i : Nat) : (cntP f x).getD i 0 = if 492 ≤ i ∧ i < 492 + 4 then x / 2 ^ (8 * (i - 492)) % 256 else if 488 ≤ i ∧ i < 488 + 4 then f / 2 ^ (8 * (i - 488)) % 256 else if 508 ≤ i ∧ i < 508 + 4 then 2857697280 / 2 ^ (8 * (i - 508)) % 256 else if 484 ≤ i ∧ i < 484 + 4 then 1631679090 / 2 ^ (8 * (i - 484)) % 256 else if 0 ≤ i ∧ i < 0 + 4 then 1096897106 / 2 ^ (8 * (i - 0)) % 256 else (List.replicate 512 (0 : Int)).getD i 0 := by
  show (putN (putN (putN (putN (putN (List.replicate 512 0) 0 1096897106 4) 484 1631679090 4) 508 2857697280 4) 488 f 4) 492 x 4).getD i 0 = _
  rw [getD_putN _ _ _ _ _ (by simp only [putN_length, List.length_replicate]; omega), getD_putN _ _ _ _ _ (by simp only [putN_length, List.length_replicate]; omega), getD_putN _ _ _ _ _ (by simp only [putN_length, List.length_replicate]; omega), getD_putN _ _ _ _ _ (by simp only [putN_length, List.length_replicate]; omega), getD_putN _ _ _ _ _ (by simp only [List.length_replicate]; omega)]

theorem parc_cntM (f x : Int) (hf : 0 ≤ f ∧ f ≤ 4294967295 ∧ 0 ≤ x ∧ x ≤ 4294967295) : parC (cntP f x) = (f, x, 0) := by
  have e1 : num (cntP f x) 0 4 = 1096897106 := by
    rw [num_of (cntP f x) 0 1096897106 4 (fun i hi => by rw [cnt_getM, if_neg (by omega), if_neg (by omega), if_neg (by omega), if_neg (by omega), if_pos (by omega)]; rw [Nat.add_sub_cancel_left])]; decide
  have e2 : num (cntP f x) 484 4 = 1631679090 := by
    rw [num_of (cntP f x) 484 1631679090 4 (fun i hi => by rw [cnt_getM, if_neg (by omega), if_neg (by omega), if_neg (by omega), if_pos (by omega)]; rw [Nat.add_sub_cancel_left])]; decide
  have e3 : num (cntP f x) 508 4 = 2857697280 := by
    rw [num_of (cntP f x) 508 2857697280 4 (fun i hi => by rw [cnt_getM, if_neg (by omega), if_neg (by omega), if_pos (by omega)]; rw [Nat.add_sub_cancel_left])]; decide
  have e4 : num (cntP f x) 488 4 = f := by
    rw [num_of (cntP f x) 488 f 4 (fun i hi => by rw [cnt_getM, if_neg (by omega), if_pos (by omega)]; rw [Nat.add_sub_cancel_left])]; exact Int.emod_eq_of_lt (by omega) (by omega)
  have e5 : num (cntP f x) 492 4 = x := by
    rw [num_of (cntP f x) 492 x 4 (fun i hi => by rw [cnt_getM, if_pos (by omega)]; rw [Nat.add_sub_cancel_left])]; exact Int.emod_eq_of_lt (by omega) (by omega)
  unfold parC
  rw [if_pos (cntP_len f x), e1, e2, e3, e4, e5, if_pos ⟨rfl, rfl, rfl⟩]

theorem bytsM (s e : Nat) (h1 : 1 ≤ e ∧ e ≤ 8) : Byts (m5 s e) := by
  have hf : Byts (fM s e) := (Byts.zeros 512).putB (bM s e) (by show 0 ≤ (e : Int) ∧ (e : Int) < 256; omega) (by show (0 : Int) ≤ 2 ∧ (2 : Int) < 256; omega)
  have ht : Byts t12 := by
    intro k
    match k with
    | 0 => decide
    | 1 => decide
    | 2 => decide
    | 3 => decide
    | 4 => decide
    | 5 => decide
    | 6 => decide
    | 7 => decide
    | 8 => decide
    | 9 => decide
    | 10 => decide
    | 11 => decide
    | k + 12 => rw [get_far _ _ (by rw [t12_len]; omega)]; omega
  exact (((((Byts.zeros (512 * s)).over hf 0).over (Byts.cntP _ _) 512).over hf 1024).over ht 2048).over ht _

theorem volM {s e : Nat} (h1 : 16 ≤ s) (h2 : s ≤ 2000) (e1 : 1 ≤ e) (e2 : e ≤ 8) (hk : (bM s e).chk = 0) (k : Nat) (hc : (bM s e).clus = (k : Int)) (hk1 : 1 ≤ k) : Vol (m5 s e) (bM s e) k ((k : Int) - 1) 3 where
  par := by rw [sM_0 h1 h2 e1 e2]; exact par_put _ _ List.length_replicate hk
  size := by rw [m5_len h1 h2 e1 e2]; show (s : Int) * 512 ≤ ((512 * s : Nat) : Int); omega
  copy := Or.inr (by show secs (m5 s e) 2 1 = secs (m5 s e) 0 1; rw [sM_0 h1 h2 e1 e2, sM_2 h1 h2 e1 e2])
  cnt := by
    show parC (secs (m5 s e) 1 1) = _
    have hcl := (Bt.clus_says (chk_says hk).1).2
    rw [sM_1 h1 h2 e1 e2]
    unfold cM
    rw [hc]
    exact parc_cntM _ _ (by omega)
  tab := Or.inr (by show secs (m5 s e) (4 + (lgM s e : Int)) (lgM s e : Int) = secs (m5 s e) 4 (lgM s e : Int); rw [sM_5 h1 h2 e1 e2, sM_4 h1 h2 e1 e2])
  clus := hc
  free := Or.inr (by
    show (k : Int) - 1 = frees (numsF (secs (m5 s e) 4 (lgM s e : Int)) k) k
    rw [sM_4 h1 h2 e1 e2]
    obtain ⟨j, rfl⟩ : ∃ j, k = j + 1 := ⟨k - 1, by omega⟩
    rw [freesM h1 h2 e1 e2 (j + 1) j (by omega)]
    omega)

theorem at_step (b : Bt) (i : Nat) : b.at ((i : Int) + 3) = b.at 3 + (i : Int) * (512 * b.each) := by
  unfold Bt.at
  rw [show (i : Int) + 3 - 2 = (i : Int) + 1 by omega, show (3 : Int) - 2 = 1 by omega, Int.add_mul]
  omega

/-- The free bytes, in one form. -/
def frM (b : Bt) (j : Nat) : List (Int × Int) := if j = 0 then [] else [(b.at 3, b.at 3 + (j : Int) * (512 * b.each))]

theorem frM_form (b : Bt) (j : Nat) (h : 1 ≤ b.each) : Form (frM b j) := by
  unfold frM
  split
  · exact ⟨by simp, by simp⟩
  · have : 0 < (j : Int) * (512 * b.each) := Int.mul_pos (by omega) (by omega)
    exact ⟨by simp; omega, by simp⟩

theorem frM_set (b : Bt) (j : Nat) (h : 1 ≤ b.each ∧ b.each ≤ 8) (x : Int) : InE (frM b j) x ↔ InE ((List.range j).map (fun i : Nat => (b.at ((i : Int) + 3), b.at ((i : Int) + 3) + 512 * b.each))) x := by
  have hu : ∀ i : Nat, b.at ((i : Int) + 3) = b.at 3 + (i : Int) * (512 * b.each) := at_step b
  obtain ⟨A, hA⟩ : ∃ A, A = b.at 3 := ⟨_, rfl⟩
  rw [← hA] at hu
  unfold frM
  by_cases hj : j = 0
  · subst hj
    rw [if_pos rfl]
    simp [InE]
  rw [if_neg hj, inE_one]
  unfold InE
  generalize b.each = E at *
  have he : E = 1 ∨ E = 2 ∨ E = 3 ∨ E = 4 ∨ E = 5 ∨ E = 6 ∨ E = 7 ∨ E = 8 := by omega
  have hmain : (A ≤ x ∧ x < A + (j : Int) * (512 * E)) ↔ ∃ i : Nat, i < j ∧ A + (i : Int) * (512 * E) ≤ x ∧ x < A + (i : Int) * (512 * E) + 512 * E := by
    constructor
    · rintro ⟨q1, q2⟩
      refine ⟨((x - A) / (512 * E)).toNat, ?_⟩
      rcases he with r | r | r | r | r | r | r | r <;> subst r <;> omega
    · rintro ⟨i, hi, q1, q2⟩
      rcases he with r | r | r | r | r | r | r | r <;> subst r <;> omega
  show (b.at 3 ≤ x ∧ x < b.at 3 + (j : Int) * (512 * E)) ↔ _
  rw [← hA, hmain]
  constructor
  · rintro ⟨i, hi, q1, q2⟩
    exact ⟨_, List.mem_map.2 ⟨i, List.mem_range.2 hi, rfl⟩, by simp only [hu]; exact q1, by simp only [hu]; exact q2⟩
  · rintro ⟨p, hp, q1, q2⟩
    simp only [List.mem_map, List.mem_range] at hp
    obtain ⟨i, hi, rfl⟩ := hp
    simp only [hu] at q1 q2
    exact ⟨i, hi, q1, q2⟩

/-- What the free bytes come to. -/
theorem normM {s e : Nat} (h1 : 16 ≤ s) (h2 : s ≤ 2000) (e1 : 1 ≤ e) (e2 : e ≤ 8) (j : Nat) {N : List (Int × Int)} (h : Normed (spcF (bM s e) (numsF (tM s e) (j + 1)) (j + 1)) N) : N = frM (bM s e) j := by
  have hE : 1 ≤ (bM s e).each ∧ (bM s e).each ≤ 8 := by show 1 ≤ (e : Int) ∧ (e : Int) ≤ 8; omega
  refine Form.unique N _ h.form (frM_form _ _ hE.1) (fun x => ?_)
  rw [h.set x, spcM h1 h2 e1 e2 (bM s e) (j + 1) j (by omega), frM_set _ _ hE]

theorem normF (b : Bt) (j : Nat) (h : 1 ≤ b.each) {N : List (Int × Int)} (hN : Normed (frM b j) N) : N = frM b j :=
  Form.unique N _ hN.form (frM_form b j h) (fun x => hN.set x)
end Go.Proofs.YtcbbaoiefdbcpaaDoor.Oct
