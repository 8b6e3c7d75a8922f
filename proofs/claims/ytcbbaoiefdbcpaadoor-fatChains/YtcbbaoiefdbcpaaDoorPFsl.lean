/- What a first sector says, laid as the document lays it: lists alone. -/
import Derived.Test.YtcbbaoiefdbcpaaDoorPFda
import Derived.Test.YtcbbaoiefdbcpaaDoorPFobFotFon
namespace Go.Proofs.YtcbbaoiefdbcpaaDoor.Oct
open Go.RowKit

theorem rep_bytes : ∀ n, List.replicate n (0 : Int) = bytesOf 0 n
  | 0 => rfl
  | n + 1 => by
    rw [List.replicate_succ', rep_bytes n, bytesOf]
    simp

theorem two_bytes : [85, 170] = bytesOf 43605 2 := by decide
theorem nmB_len : nmB.length = 8 := rfl

theorem over_len8 (l m : List Int) (p n : Nat) (h : l.length = n) (hf : p + m.length ≤ n) : (over l p m).length = n := by rw [over_length (by omega), h]

/-- A sector with the first so many of what the document lays. -/
def ps0 (_ : Bt) (l : List Int) : List Int := l
def ps1 (b : Bt) (l : List Int) : List Int := over (ps0 b l) 11 (bytesOf 512 2)
def ps2 (b : Bt) (l : List Int) : List Int := over (ps1 b l) 13 (bytesOf b.each 1)
def ps3 (b : Bt) (l : List Int) : List Int := over (ps2 b l) 14 (bytesOf b.ahead 2)
def ps4 (b : Bt) (l : List Int) : List Int := over (ps3 b l) 16 (bytesOf b.tabs 1)
def ps5 (b : Bt) (l : List Int) : List Int := over (ps4 b l) 17 (List.replicate 4 0)
def ps6 (b : Bt) (l : List Int) : List Int := over (ps5 b l) 22 (List.replicate 2 0)
def ps7 (b : Bt) (l : List Int) : List Int := over (ps6 b l) 32 (bytesOf b.secs 4)
def ps8 (b : Bt) (l : List Int) : List Int := over (ps7 b l) 36 (bytesOf b.long 4)
def ps9 (b : Bt) (l : List Int) : List Int := over (ps8 b l) 40 (List.replicate 4 0)
def ps10 (b : Bt) (l : List Int) : List Int := over (ps9 b l) 44 (bytesOf b.root 4)
def ps11 (b : Bt) (l : List Int) : List Int := over (ps10 b l) 48 (bytesOf b.info 2)
def ps12 (b : Bt) (l : List Int) : List Int := over (ps11 b l) 50 (bytesOf b.copy 2)
def ps13 (b : Bt) (l : List Int) : List Int := over (ps12 b l) 82 nmB
def ps14 (b : Bt) (l : List Int) : List Int := over (ps13 b l) 510 [85, 170]

theorem psP0_len (b : Bt) (l : List Int) (h : l.length = 512) : (ps0 b l).length = 512 := h
theorem psP1_len (b : Bt) (l : List Int) (h : l.length = 512) : (ps1 b l).length = 512 := over_len8 _ _ 11 512 (psP0_len b l h) (by rw [bytesOf_length]; omega)
theorem psP2_len (b : Bt) (l : List Int) (h : l.length = 512) : (ps2 b l).length = 512 := over_len8 _ _ 13 512 (psP1_len b l h) (by rw [bytesOf_length]; omega)
theorem psP3_len (b : Bt) (l : List Int) (h : l.length = 512) : (ps3 b l).length = 512 := over_len8 _ _ 14 512 (psP2_len b l h) (by rw [bytesOf_length]; omega)
theorem psP4_len (b : Bt) (l : List Int) (h : l.length = 512) : (ps4 b l).length = 512 := over_len8 _ _ 16 512 (psP3_len b l h) (by rw [bytesOf_length]; omega)
theorem psP5_len (b : Bt) (l : List Int) (h : l.length = 512) : (ps5 b l).length = 512 := over_len8 _ _ 17 512 (psP4_len b l h) (by rw [List.length_replicate]; omega)
theorem psP6_len (b : Bt) (l : List Int) (h : l.length = 512) : (ps6 b l).length = 512 := over_len8 _ _ 22 512 (psP5_len b l h) (by rw [List.length_replicate]; omega)
theorem psP7_len (b : Bt) (l : List Int) (h : l.length = 512) : (ps7 b l).length = 512 := over_len8 _ _ 32 512 (psP6_len b l h) (by rw [bytesOf_length]; omega)
theorem psP8_len (b : Bt) (l : List Int) (h : l.length = 512) : (ps8 b l).length = 512 := over_len8 _ _ 36 512 (psP7_len b l h) (by rw [bytesOf_length]; omega)
theorem psP9_len (b : Bt) (l : List Int) (h : l.length = 512) : (ps9 b l).length = 512 := over_len8 _ _ 40 512 (psP8_len b l h) (by rw [List.length_replicate]; omega)
theorem psP10_len (b : Bt) (l : List Int) (h : l.length = 512) : (ps10 b l).length = 512 := over_len8 _ _ 44 512 (psP9_len b l h) (by rw [bytesOf_length]; omega)
theorem psP11_len (b : Bt) (l : List Int) (h : l.length = 512) : (ps11 b l).length = 512 := over_len8 _ _ 48 512 (psP10_len b l h) (by rw [bytesOf_length]; omega)
theorem psP12_len (b : Bt) (l : List Int) (h : l.length = 512) : (ps12 b l).length = 512 := over_len8 _ _ 50 512 (psP11_len b l h) (by rw [bytesOf_length]; omega)
theorem psP13_len (b : Bt) (l : List Int) (h : l.length = 512) : (ps13 b l).length = 512 := over_len8 _ _ 82 512 (psP12_len b l h) (by rw [nmB_len]; omega)
theorem psP14_len (b : Bt) (l : List Int) (h : l.length = 512) : (ps14 b l).length = 512 := over_len8 _ _ 510 512 (psP13_len b l h) (by decide)

theorem psP1_get (b : Bt) (l : List Int) (h : l.length = 512) (i : Nat) : (ps1 b l).getD i 0 = if 11 ≤ i ∧ i < 11 + 2 then 512 / 2 ^ (8 * (i - 11)) % 256 else (ps0 b l).getD i 0 := by
  show (over (ps0 b l) 11 (bytesOf 512 2)).getD i 0 = _
  rw [over_putN _ _ _ _ (by rw [psP0_len b l h]; omega), getD_putN _ _ _ _ _ (by rw [psP0_len b l h]; omega)]
theorem psP2_get (b : Bt) (l : List Int) (h : l.length = 512) (i : Nat) : (ps2 b l).getD i 0 = if 13 ≤ i ∧ i < 13 + 1 then b.each / 2 ^ (8 * (i - 13)) % 256 else (ps1 b l).getD i 0 := by
  show (over (ps1 b l) 13 (bytesOf b.each 1)).getD i 0 = _
  rw [over_putN _ _ _ _ (by rw [psP1_len b l h]; omega), getD_putN _ _ _ _ _ (by rw [psP1_len b l h]; omega)]
theorem psP3_get (b : Bt) (l : List Int) (h : l.length = 512) (i : Nat) : (ps3 b l).getD i 0 = if 14 ≤ i ∧ i < 14 + 2 then b.ahead / 2 ^ (8 * (i - 14)) % 256 else (ps2 b l).getD i 0 := by
  show (over (ps2 b l) 14 (bytesOf b.ahead 2)).getD i 0 = _
  rw [over_putN _ _ _ _ (by rw [psP2_len b l h]; omega), getD_putN _ _ _ _ _ (by rw [psP2_len b l h]; omega)]
theorem psP4_get (b : Bt) (l : List Int) (h : l.length = 512) (i : Nat) : (ps4 b l).getD i 0 = if 16 ≤ i ∧ i < 16 + 1 then b.tabs / 2 ^ (8 * (i - 16)) % 256 else (ps3 b l).getD i 0 := by
  show (over (ps3 b l) 16 (bytesOf b.tabs 1)).getD i 0 = _
  rw [over_putN _ _ _ _ (by rw [psP3_len b l h]; omega), getD_putN _ _ _ _ _ (by rw [psP3_len b l h]; omega)]
theorem psP5_get (b : Bt) (l : List Int) (h : l.length = 512) (i : Nat) : (ps5 b l).getD i 0 = if 17 ≤ i ∧ i < 17 + 4 then 0 / 2 ^ (8 * (i - 17)) % 256 else (ps4 b l).getD i 0 := by
  show (over (ps4 b l) 17 (List.replicate 4 0)).getD i 0 = _
  rw [rep_bytes]
  rw [over_putN _ _ _ _ (by rw [psP4_len b l h]; omega), getD_putN _ _ _ _ _ (by rw [psP4_len b l h]; omega)]
theorem psP6_get (b : Bt) (l : List Int) (h : l.length = 512) (i : Nat) : (ps6 b l).getD i 0 = if 22 ≤ i ∧ i < 22 + 2 then 0 / 2 ^ (8 * (i - 22)) % 256 else (ps5 b l).getD i 0 := by
  show (over (ps5 b l) 22 (List.replicate 2 0)).getD i 0 = _
  rw [rep_bytes]
  rw [over_putN _ _ _ _ (by rw [psP5_len b l h]; omega), getD_putN _ _ _ _ _ (by rw [psP5_len b l h]; omega)]
theorem psP7_get (b : Bt) (l : List Int) (h : l.length = 512) (i : Nat) : (ps7 b l).getD i 0 = if 32 ≤ i ∧ i < 32 + 4 then b.secs / 2 ^ (8 * (i - 32)) % 256 else (ps6 b l).getD i 0 := by
  show (over (ps6 b l) 32 (bytesOf b.secs 4)).getD i 0 = _
  rw [over_putN _ _ _ _ (by rw [psP6_len b l h]; omega), getD_putN _ _ _ _ _ (by rw [psP6_len b l h]; omega)]
theorem psP8_get (b : Bt) (l : List Int) (h : l.length = 512) (i : Nat) : (ps8 b l).getD i 0 = if 36 ≤ i ∧ i < 36 + 4 then b.long / 2 ^ (8 * (i - 36)) % 256 else (ps7 b l).getD i 0 := by
  show (over (ps7 b l) 36 (bytesOf b.long 4)).getD i 0 = _
  rw [over_putN _ _ _ _ (by rw [psP7_len b l h]; omega), getD_putN _ _ _ _ _ (by rw [psP7_len b l h]; omega)]
theorem psP9_get (b : Bt) (l : List Int) (h : l.length = 512) (i : Nat) : (ps9 b l).getD i 0 = if 40 ≤ i ∧ i < 40 + 4 then 0 / 2 ^ (8 * (i - 40)) % 256 else (ps8 b l).getD i 0 := by
  show (over (ps8 b l) 40 (List.replicate 4 0)).getD i 0 = _
  rw [rep_bytes]
  rw [over_putN _ _ _ _ (by rw [psP8_len b l h]; omega), getD_putN _ _ _ _ _ (by rw [psP8_len b l h]; omega)]
theorem psP10_get (b : Bt) (l : List Int) (h : l.length = 512) (i : Nat) : (ps10 b l).getD i 0 = if 44 ≤ i ∧ i < 44 + 4 then b.root / 2 ^ (8 * (i - 44)) % 256 else (ps9 b l).getD i 0 := by
  show (over (ps9 b l) 44 (bytesOf b.root 4)).getD i 0 = _
  rw [over_putN _ _ _ _ (by rw [psP9_len b l h]; omega), getD_putN _ _ _ _ _ (by rw [psP9_len b l h]; omega)]
theorem psP11_get (b : Bt) (l : List Int) (h : l.length = 512) (i : Nat) : (ps11 b l).getD i 0 = if 48 ≤ i ∧ i < 48 + 2 then b.info / 2 ^ (8 * (i - 48)) % 256 else (ps10 b l).getD i 0 := by
  show (over (ps10 b l) 48 (bytesOf b.info 2)).getD i 0 = _
  rw [over_putN _ _ _ _ (by rw [psP10_len b l h]; omega), getD_putN _ _ _ _ _ (by rw [psP10_len b l h]; omega)]
theorem psP12_get (b : Bt) (l : List Int) (h : l.length = 512) (i : Nat) : (ps12 b l).getD i 0 = if 50 ≤ i ∧ i < 50 + 2 then b.copy / 2 ^ (8 * (i - 50)) % 256 else (ps11 b l).getD i 0 := by
  show (over (ps11 b l) 50 (bytesOf b.copy 2)).getD i 0 = _
  rw [over_putN _ _ _ _ (by rw [psP11_len b l h]; omega), getD_putN _ _ _ _ _ (by rw [psP11_len b l h]; omega)]
theorem psP13_get (b : Bt) (l : List Int) (h : l.length = 512) (i : Nat) : (ps13 b l).getD i 0 = if 82 ≤ i ∧ i < 82 + 8 then nmB.getD (i - 82) 0 else (ps12 b l).getD i 0 := by
  show (over (ps12 b l) 82 nmB).getD i 0 = _
  rw [over_getF _ _ _ (by rw [psP12_len b l h, nmB_len]; omega)]
  rfl
theorem psP14_get (b : Bt) (l : List Int) (h : l.length = 512) (i : Nat) : (ps14 b l).getD i 0 = if 510 ≤ i ∧ i < 510 + 2 then 43605 / 2 ^ (8 * (i - 510)) % 256 else (ps13 b l).getD i 0 := by
  show (over (ps13 b l) 510 [85, 170]).getD i 0 = _
  rw [two_bytes]
  rw [over_putN _ _ _ _ (by rw [psP13_len b l h]; omega), getD_putN _ _ _ _ _ (by rw [psP13_len b l h]; omega)]

theorem psP_get (b : Bt) (l : List Int) (h : l.length = 512) (i : Nat) : (ps14 b l).getD i 0 = if 510 ≤ i ∧ i < 510 + 2 then 43605 / 2 ^ (8 * (i - 510)) % 256 else if 82 ≤ i ∧ i < 82 + 8 then nmB.getD (i - 82) 0 else if 50 ≤ i ∧ i < 50 + 2 then b.copy / 2 ^ (8 * (i - 50)) % 256 else if 48 ≤ i ∧ i < 48 + 2 then b.info / 2 ^ (8 * (i - 48)) % 256 else if 44 ≤ i ∧ i < 44 + 4 then b.root / 2 ^ (8 * (i - 44)) % 256 else if 40 ≤ i ∧ i < 40 + 4 then 0 / 2 ^ (8 * (i - 40)) % 256 else if 36 ≤ i ∧ i < 36 + 4 then b.long / 2 ^ (8 * (i - 36)) % 256 else if 32 ≤ i ∧ i < 32 + 4 then b.secs / 2 ^ (8 * (i - 32)) % 256 else if 22 ≤ i ∧ i < 22 + 2 then 0 / 2 ^ (8 * (i - 22)) % 256 else if 17 ≤ i ∧ i < 17 + 4 then 0 / 2 ^ (8 * (i - 17)) % 256 else if 16 ≤ i ∧ i < 16 + 1 then b.tabs / 2 ^ (8 * (i - 16)) % 256 else if 14 ≤ i ∧ i < 14 + 2 then b.ahead / 2 ^ (8 * (i - 14)) % 256 else if 13 ≤ i ∧ i < 13 + 1 then b.each / 2 ^ (8 * (i - 13)) % 256 else if 11 ≤ i ∧ i < 11 + 2 then 512 / 2 ^ (8 * (i - 11)) % 256 else l.getD i 0 := by
  rw [psP14_get b l h, psP13_get b l h, psP12_get b l h, psP11_get b l h, psP10_get b l h, psP9_get b l h, psP8_get b l h, psP7_get b l h, psP6_get b l h, psP5_get b l h, psP4_get b l h, psP3_get b l h, psP2_get b l h, psP1_get b l h]
  rfl

theorem set_get (l : List Int) (p : Nat) (v : Int) (h : p < l.length) (i : Nat) : (l.set p v).getD i 0 = if p ≤ i ∧ i < p + 1 then v else l.getD i 0 := by
  simp only [List.getD_eq_getElem?_getD, List.getElem?_set]
  by_cases hp : p = i
  · subst hp
    rw [if_pos rfl, if_pos h, if_pos (by omega)]
    rfl
  · rw [if_neg hp, if_neg (by omega)]

theorem len_put {l : List Int} {p : Nat} {v : Int} {k : Nat} (h : l.length = 512) : (putN l p v k).length = 512 := (putN_length l p v k).trans h
theorem len_set {l : List Int} {p : Nat} {v : Int} (h : l.length = 512) : (l.set p v).length = 512 := by rw [List.length_set, h]

theorem putB_get (b : Bt) (l : List Int) (h : l.length = 512) (i : Nat) : (putB b l).getD i 0 = if 510 ≤ i ∧ i < 510 + 2 then 43605 / 2 ^ (8 * (i - 510)) % 256 else if 82 ≤ i ∧ i < 82 + 8 then nmB.getD (i - 82) 0 else if 50 ≤ i ∧ i < 50 + 2 then b.copy / 2 ^ (8 * (i - 50)) % 256 else if 48 ≤ i ∧ i < 48 + 2 then b.info / 2 ^ (8 * (i - 48)) % 256 else if 44 ≤ i ∧ i < 44 + 4 then b.root / 2 ^ (8 * (i - 44)) % 256 else if 36 ≤ i ∧ i < 36 + 4 then b.long / 2 ^ (8 * (i - 36)) % 256 else if 32 ≤ i ∧ i < 32 + 4 then b.secs / 2 ^ (8 * (i - 32)) % 256 else if 14 ≤ i ∧ i < 14 + 2 then b.ahead / 2 ^ (8 * (i - 14)) % 256 else if 16 ≤ i ∧ i < 16 + 1 then b.tabs else if 13 ≤ i ∧ i < 13 + 1 then b.each else if 42 ≤ i ∧ i < 42 + 2 then 0 / 2 ^ (8 * (i - 42)) % 256 else if 40 ≤ i ∧ i < 40 + 2 then 0 / 2 ^ (8 * (i - 40)) % 256 else if 22 ≤ i ∧ i < 22 + 2 then 0 / 2 ^ (8 * (i - 22)) % 256 else if 19 ≤ i ∧ i < 19 + 2 then 0 / 2 ^ (8 * (i - 19)) % 256 else if 17 ≤ i ∧ i < 17 + 2 then 0 / 2 ^ (8 * (i - 17)) % 256 else if 11 ≤ i ∧ i < 11 + 2 then 512 / 2 ^ (8 * (i - 11)) % 256 else l.getD i 0 := by
  unfold putB
  rw [show fxP l 6 = putN (putN (putN (putN (putN (putN l 11 512 2) 17 0 2) 19 0 2) 22 0 2) 40 0 2) 42 0 2 from rfl]
  rw [getD_putN _ _ _ _ _ (by rw [(over_len8 _ [70, 65, 84, 51, 50, 32, 32, 32] 82 512 (len_put (len_put (len_put (len_put (len_put (len_put (len_set (len_set (len_put (len_put (len_put (len_put (len_put (len_put h)))))))))))))) (by decide))]; omega), over_getF _ _ _ (by rw [(len_put (len_put (len_put (len_put (len_put (len_put (len_set (len_set (len_put (len_put (len_put (len_put (len_put (len_put h))))))))))))))]; decide), getD_putN _ _ _ _ _ (by rw [(len_put (len_put (len_put (len_put (len_put (len_set (len_set (len_put (len_put (len_put (len_put (len_put (len_put h)))))))))))))]; omega), getD_putN _ _ _ _ _ (by rw [(len_put (len_put (len_put (len_put (len_set (len_set (len_put (len_put (len_put (len_put (len_put (len_put h))))))))))))]; omega), getD_putN _ _ _ _ _ (by rw [(len_put (len_put (len_put (len_set (len_set (len_put (len_put (len_put (len_put (len_put (len_put h)))))))))))]; omega), getD_putN _ _ _ _ _ (by rw [(len_put (len_put (len_set (len_set (len_put (len_put (len_put (len_put (len_put (len_put h))))))))))]; omega), getD_putN _ _ _ _ _ (by rw [(len_put (len_set (len_set (len_put (len_put (len_put (len_put (len_put (len_put h)))))))))]; omega), getD_putN _ _ _ _ _ (by rw [(len_set (len_set (len_put (len_put (len_put (len_put (len_put (len_put h))))))))]; omega), set_get _ _ _ (by rw [(len_set (len_put (len_put (len_put (len_put (len_put (len_put h)))))))]; omega), set_get _ _ _ (by rw [(len_put (len_put (len_put (len_put (len_put (len_put h))))))]; omega), getD_putN _ _ _ _ _ (by rw [(len_put (len_put (len_put (len_put (len_put h)))))]; omega), getD_putN _ _ _ _ _ (by rw [(len_put (len_put (len_put (len_put h))))]; omega), getD_putN _ _ _ _ _ (by rw [(len_put (len_put (len_put h)))]; omega), getD_putN _ _ _ _ _ (by rw [(len_put (len_put h))]; omega), getD_putN _ _ _ _ _ (by rw [(len_put h)]; omega), getD_putN _ _ _ _ _ (by rw [h]; omega)]
  rfl

theorem ps_put (b : Bt) (l : List Int) (h : l.length = 512) (he : 1 ≤ b.each ∧ b.each ≤ 8 ∧ 1 ≤ b.tabs ∧ b.tabs ≤ 2) : ps14 b l = putB b l := by
  refine list_eqF _ _ (by rw [psP14_len b l h, putB_len b l h]) fun i => ?_
  rw [psP_get b l h, putB_get b l h]
  have z0 : ∀ k : Nat, (0 : Int) / 2 ^ (8 * k) % 256 = 0 := fun k => by simp
  have z1 : ∀ (x : Int), 1 ≤ x → x ≤ 8 → x / 2 ^ (8 * (0 : Nat)) % 256 = x := fun x h1 h2 => by simp; omega
  by_cases r11 : 11 ≤ i ∧ i < 11 + 2
  · refine Eq.trans (b := 512 / 2 ^ (8 * (i - 11)) % 256) (by rw [if_neg (by omega), if_neg (by omega), if_neg (by omega), if_neg (by omega), if_neg (by omega), if_neg (by omega), if_neg (by omega), if_neg (by omega), if_neg (by omega), if_neg (by omega), if_neg (by omega), if_neg (by omega), if_neg (by omega), if_pos (by omega)]) (Eq.symm (by rw [if_neg (by omega), if_neg (by omega), if_neg (by omega), if_neg (by omega), if_neg (by omega), if_neg (by omega), if_neg (by omega), if_neg (by omega), if_neg (by omega), if_neg (by omega), if_neg (by omega), if_neg (by omega), if_neg (by omega), if_neg (by omega), if_neg (by omega), if_pos (by omega)]))
  by_cases r13 : 13 ≤ i ∧ i < 13 + 1
  · refine Eq.trans (b := b.each) (by rw [if_neg (by omega), if_neg (by omega), if_neg (by omega), if_neg (by omega), if_neg (by omega), if_neg (by omega), if_neg (by omega), if_neg (by omega), if_neg (by omega), if_neg (by omega), if_neg (by omega), if_neg (by omega), if_pos (by omega), show i - 13 = 0 by omega]; exact z1 _ (by omega) (by omega)) (Eq.symm (by rw [if_neg (by omega), if_neg (by omega), if_neg (by omega), if_neg (by omega), if_neg (by omega), if_neg (by omega), if_neg (by omega), if_neg (by omega), if_neg (by omega), if_pos (by omega)]))
  by_cases r14 : 14 ≤ i ∧ i < 14 + 2
  · refine Eq.trans (b := b.ahead / 2 ^ (8 * (i - 14)) % 256) (by rw [if_neg (by omega), if_neg (by omega), if_neg (by omega), if_neg (by omega), if_neg (by omega), if_neg (by omega), if_neg (by omega), if_neg (by omega), if_neg (by omega), if_neg (by omega), if_neg (by omega), if_pos (by omega)]) (Eq.symm (by rw [if_neg (by omega), if_neg (by omega), if_neg (by omega), if_neg (by omega), if_neg (by omega), if_neg (by omega), if_neg (by omega), if_pos (by omega)]))
  by_cases r16 : 16 ≤ i ∧ i < 16 + 1
  · refine Eq.trans (b := b.tabs) (by rw [if_neg (by omega), if_neg (by omega), if_neg (by omega), if_neg (by omega), if_neg (by omega), if_neg (by omega), if_neg (by omega), if_neg (by omega), if_neg (by omega), if_neg (by omega), if_pos (by omega), show i - 16 = 0 by omega]; exact z1 _ (by omega) (by omega)) (Eq.symm (by rw [if_neg (by omega), if_neg (by omega), if_neg (by omega), if_neg (by omega), if_neg (by omega), if_neg (by omega), if_neg (by omega), if_neg (by omega), if_pos (by omega)]))
  by_cases r17 : 17 ≤ i ∧ i < 17 + 2
  · refine Eq.trans (b := 0) (by rw [if_neg (by omega), if_neg (by omega), if_neg (by omega), if_neg (by omega), if_neg (by omega), if_neg (by omega), if_neg (by omega), if_neg (by omega), if_neg (by omega), if_pos (by omega), z0]) (Eq.symm (by rw [if_neg (by omega), if_neg (by omega), if_neg (by omega), if_neg (by omega), if_neg (by omega), if_neg (by omega), if_neg (by omega), if_neg (by omega), if_neg (by omega), if_neg (by omega), if_neg (by omega), if_neg (by omega), if_neg (by omega), if_neg (by omega), if_pos (by omega), z0]))
  by_cases r19 : 19 ≤ i ∧ i < 19 + 2
  · refine Eq.trans (b := 0) (by rw [if_neg (by omega), if_neg (by omega), if_neg (by omega), if_neg (by omega), if_neg (by omega), if_neg (by omega), if_neg (by omega), if_neg (by omega), if_neg (by omega), if_pos (by omega), z0]) (Eq.symm (by rw [if_neg (by omega), if_neg (by omega), if_neg (by omega), if_neg (by omega), if_neg (by omega), if_neg (by omega), if_neg (by omega), if_neg (by omega), if_neg (by omega), if_neg (by omega), if_neg (by omega), if_neg (by omega), if_neg (by omega), if_pos (by omega), z0]))
  by_cases r22 : 22 ≤ i ∧ i < 22 + 2
  · refine Eq.trans (b := 0) (by rw [if_neg (by omega), if_neg (by omega), if_neg (by omega), if_neg (by omega), if_neg (by omega), if_neg (by omega), if_neg (by omega), if_neg (by omega), if_pos (by omega), z0]) (Eq.symm (by rw [if_neg (by omega), if_neg (by omega), if_neg (by omega), if_neg (by omega), if_neg (by omega), if_neg (by omega), if_neg (by omega), if_neg (by omega), if_neg (by omega), if_neg (by omega), if_neg (by omega), if_neg (by omega), if_pos (by omega), z0]))
  by_cases r32 : 32 ≤ i ∧ i < 32 + 4
  · refine Eq.trans (b := b.secs / 2 ^ (8 * (i - 32)) % 256) (by rw [if_neg (by omega), if_neg (by omega), if_neg (by omega), if_neg (by omega), if_neg (by omega), if_neg (by omega), if_neg (by omega), if_pos (by omega)]) (Eq.symm (by rw [if_neg (by omega), if_neg (by omega), if_neg (by omega), if_neg (by omega), if_neg (by omega), if_neg (by omega), if_pos (by omega)]))
  by_cases r36 : 36 ≤ i ∧ i < 36 + 4
  · refine Eq.trans (b := b.long / 2 ^ (8 * (i - 36)) % 256) (by rw [if_neg (by omega), if_neg (by omega), if_neg (by omega), if_neg (by omega), if_neg (by omega), if_neg (by omega), if_pos (by omega)]) (Eq.symm (by rw [if_neg (by omega), if_neg (by omega), if_neg (by omega), if_neg (by omega), if_neg (by omega), if_pos (by omega)]))
  by_cases r40 : 40 ≤ i ∧ i < 40 + 2
  · refine Eq.trans (b := 0) (by rw [if_neg (by omega), if_neg (by omega), if_neg (by omega), if_neg (by omega), if_neg (by omega), if_pos (by omega), z0]) (Eq.symm (by rw [if_neg (by omega), if_neg (by omega), if_neg (by omega), if_neg (by omega), if_neg (by omega), if_neg (by omega), if_neg (by omega), if_neg (by omega), if_neg (by omega), if_neg (by omega), if_neg (by omega), if_pos (by omega), z0]))
  by_cases r42 : 42 ≤ i ∧ i < 42 + 2
  · refine Eq.trans (b := 0) (by rw [if_neg (by omega), if_neg (by omega), if_neg (by omega), if_neg (by omega), if_neg (by omega), if_pos (by omega), z0]) (Eq.symm (by rw [if_neg (by omega), if_neg (by omega), if_neg (by omega), if_neg (by omega), if_neg (by omega), if_neg (by omega), if_neg (by omega), if_neg (by omega), if_neg (by omega), if_neg (by omega), if_pos (by omega), z0]))
  by_cases r44 : 44 ≤ i ∧ i < 44 + 4
  · refine Eq.trans (b := b.root / 2 ^ (8 * (i - 44)) % 256) (by rw [if_neg (by omega), if_neg (by omega), if_neg (by omega), if_neg (by omega), if_pos (by omega)]) (Eq.symm (by rw [if_neg (by omega), if_neg (by omega), if_neg (by omega), if_neg (by omega), if_pos (by omega)]))
  by_cases r48 : 48 ≤ i ∧ i < 48 + 2
  · refine Eq.trans (b := b.info / 2 ^ (8 * (i - 48)) % 256) (by rw [if_neg (by omega), if_neg (by omega), if_neg (by omega), if_pos (by omega)]) (Eq.symm (by rw [if_neg (by omega), if_neg (by omega), if_neg (by omega), if_pos (by omega)]))
  by_cases r50 : 50 ≤ i ∧ i < 50 + 2
  · refine Eq.trans (b := b.copy / 2 ^ (8 * (i - 50)) % 256) (by rw [if_neg (by omega), if_neg (by omega), if_pos (by omega)]) (Eq.symm (by rw [if_neg (by omega), if_neg (by omega), if_pos (by omega)]))
  by_cases r82 : 82 ≤ i ∧ i < 82 + 8
  · refine Eq.trans (b := nmB.getD (i - 82) 0) (by rw [if_neg (by omega), if_pos (by omega)]) (Eq.symm (by rw [if_neg (by omega), if_pos (by omega)]))
  by_cases r510 : 510 ≤ i ∧ i < 510 + 2
  · refine Eq.trans (b := 43605 / 2 ^ (8 * (i - 510)) % 256) (by rw [if_pos (by omega)]) (Eq.symm (by rw [if_pos (by omega)]))
  refine Eq.trans (b := l.getD i 0) (by rw [if_neg (by omega), if_neg (by omega), if_neg (by omega), if_neg (by omega), if_neg (by omega), if_neg (by omega), if_neg (by omega), if_neg (by omega), if_neg (by omega), if_neg (by omega), if_neg (by omega), if_neg (by omega), if_neg (by omega), if_neg (by omega)]) (Eq.symm (by rw [if_neg (by omega), if_neg (by omega), if_neg (by omega), if_neg (by omega), if_neg (by omega), if_neg (by omega), if_neg (by omega), if_neg (by omega), if_neg (by omega), if_neg (by omega), if_neg (by omega), if_neg (by omega), if_neg (by omega), if_neg (by omega), if_neg (by omega), if_neg (by omega)]))

theorem take_get (l : List Int) (p n i : Nat) : ((l.drop p).take n).getD i 0 = if i < n then l.getD (p + i) 0 else 0 := by
  simp only [List.getD_eq_getElem?_getD, List.getElem?_take, List.getElem?_drop]
  split <;> rfl

theorem par_put (b : Bt) (l : List Int) (h : l.length = 512) (hk : b.chk = 0) : parB (putB b l) = (b, 0) := by
  obtain ⟨hf, c1, c2, c3, c4⟩ := chk_says hk
  obtain ⟨q0, q1, q2, q3, q4, q5, q6, q7, q8, q9, q10, q11, q12, q13, _⟩ := Bt.form_says hf
  have hcl := (Bt.clus_says hf).2
  have e11 : num (putB b l) 11 2 = 512 := by
    rw [num_of (putB b l) 11 512 2 (fun i hi => by rw [putB_get b l h, if_neg (by omega), if_neg (by omega), if_neg (by omega), if_neg (by omega), if_neg (by omega), if_neg (by omega), if_neg (by omega), if_neg (by omega), if_neg (by omega), if_neg (by omega), if_neg (by omega), if_neg (by omega), if_neg (by omega), if_neg (by omega), if_neg (by omega), if_pos (by omega)]; rw [Nat.add_sub_cancel_left])]
    decide
  have e17 : num (putB b l) 17 2 = 0 := by
    rw [num_of (putB b l) 17 0 2 (fun i hi => by rw [putB_get b l h, if_neg (by omega), if_neg (by omega), if_neg (by omega), if_neg (by omega), if_neg (by omega), if_neg (by omega), if_neg (by omega), if_neg (by omega), if_neg (by omega), if_neg (by omega), if_neg (by omega), if_neg (by omega), if_neg (by omega), if_neg (by omega), if_pos (by omega)]; rw [Nat.add_sub_cancel_left])]
    decide
  have e19 : num (putB b l) 19 2 = 0 := by
    rw [num_of (putB b l) 19 0 2 (fun i hi => by rw [putB_get b l h, if_neg (by omega), if_neg (by omega), if_neg (by omega), if_neg (by omega), if_neg (by omega), if_neg (by omega), if_neg (by omega), if_neg (by omega), if_neg (by omega), if_neg (by omega), if_neg (by omega), if_neg (by omega), if_neg (by omega), if_pos (by omega)]; rw [Nat.add_sub_cancel_left])]
    decide
  have e22 : num (putB b l) 22 2 = 0 := by
    rw [num_of (putB b l) 22 0 2 (fun i hi => by rw [putB_get b l h, if_neg (by omega), if_neg (by omega), if_neg (by omega), if_neg (by omega), if_neg (by omega), if_neg (by omega), if_neg (by omega), if_neg (by omega), if_neg (by omega), if_neg (by omega), if_neg (by omega), if_neg (by omega), if_pos (by omega)]; rw [Nat.add_sub_cancel_left])]
    decide
  have e40 : num (putB b l) 40 2 = 0 := by
    rw [num_of (putB b l) 40 0 2 (fun i hi => by rw [putB_get b l h, if_neg (by omega), if_neg (by omega), if_neg (by omega), if_neg (by omega), if_neg (by omega), if_neg (by omega), if_neg (by omega), if_neg (by omega), if_neg (by omega), if_neg (by omega), if_neg (by omega), if_pos (by omega)]; rw [Nat.add_sub_cancel_left])]
    decide
  have e42 : num (putB b l) 42 2 = 0 := by
    rw [num_of (putB b l) 42 0 2 (fun i hi => by rw [putB_get b l h, if_neg (by omega), if_neg (by omega), if_neg (by omega), if_neg (by omega), if_neg (by omega), if_neg (by omega), if_neg (by omega), if_neg (by omega), if_neg (by omega), if_neg (by omega), if_pos (by omega)]; rw [Nat.add_sub_cancel_left])]
    decide
  have e14 : num (putB b l) 14 2 = b.ahead := by
    rw [num_of (putB b l) 14 b.ahead 2 (fun i hi => by rw [putB_get b l h, if_neg (by omega), if_neg (by omega), if_neg (by omega), if_neg (by omega), if_neg (by omega), if_neg (by omega), if_neg (by omega), if_pos (by omega)]; rw [Nat.add_sub_cancel_left])]
    exact Int.emod_eq_of_lt (by omega) (by omega)
  have e32 : num (putB b l) 32 4 = b.secs := by
    rw [num_of (putB b l) 32 b.secs 4 (fun i hi => by rw [putB_get b l h, if_neg (by omega), if_neg (by omega), if_neg (by omega), if_neg (by omega), if_neg (by omega), if_neg (by omega), if_pos (by omega)]; rw [Nat.add_sub_cancel_left])]
    exact Int.emod_eq_of_lt (by omega) (by omega)
  have e36 : num (putB b l) 36 4 = b.long := by
    rw [num_of (putB b l) 36 b.long 4 (fun i hi => by rw [putB_get b l h, if_neg (by omega), if_neg (by omega), if_neg (by omega), if_neg (by omega), if_neg (by omega), if_pos (by omega)]; rw [Nat.add_sub_cancel_left])]
    exact Int.emod_eq_of_lt (by omega) (by omega)
  have e44 : num (putB b l) 44 4 = b.root := by
    rw [num_of (putB b l) 44 b.root 4 (fun i hi => by rw [putB_get b l h, if_neg (by omega), if_neg (by omega), if_neg (by omega), if_neg (by omega), if_pos (by omega)]; rw [Nat.add_sub_cancel_left])]
    exact Int.emod_eq_of_lt (by omega) (by omega)
  have e48 : num (putB b l) 48 2 = b.info := by
    rw [num_of (putB b l) 48 b.info 2 (fun i hi => by rw [putB_get b l h, if_neg (by omega), if_neg (by omega), if_neg (by omega), if_pos (by omega)]; rw [Nat.add_sub_cancel_left])]
    exact Int.emod_eq_of_lt (by omega) (by omega)
  have e50 : num (putB b l) 50 2 = b.copy := by
    rw [num_of (putB b l) 50 b.copy 2 (fun i hi => by rw [putB_get b l h, if_neg (by omega), if_neg (by omega), if_pos (by omega)]; rw [Nat.add_sub_cancel_left])]
    exact Int.emod_eq_of_lt (by omega) (by omega)
  have e510 : num (putB b l) 510 2 = 43605 := by
    rw [num_of (putB b l) 510 43605 2 (fun i hi => by rw [putB_get b l h, if_pos (by omega)]; rw [Nat.add_sub_cancel_left])]
    decide
  have e13 : (putB b l).getD 13 0 = b.each := by rw [putB_get b l h, if_neg (by omega), if_neg (by omega), if_neg (by omega), if_neg (by omega), if_neg (by omega), if_neg (by omega), if_neg (by omega), if_neg (by omega), if_neg (by omega), if_pos (by omega)]
  have e16 : (putB b l).getD 16 0 = b.tabs := by rw [putB_get b l h, if_neg (by omega), if_neg (by omega), if_neg (by omega), if_neg (by omega), if_neg (by omega), if_neg (by omega), if_neg (by omega), if_neg (by omega), if_pos (by omega)]
  have en : ((putB b l).drop 82).take 8 = nmB := by
    refine list_eqF _ _ (by rw [List.length_take, List.length_drop, putB_len b l h]; rfl) fun i => ?_
    rw [take_get]
    by_cases hi : i < 8
    · rw [if_pos hi, putB_get b l h, if_neg (by omega), if_pos (by omega), Nat.add_sub_cancel_left]
    · rw [if_neg hi]
      match i, hi with
      | i + 8, _ => rfl
      | 0, hi => omega
      | 1, hi => omega
      | 2, hi => omega
      | 3, hi => omega
      | 4, hi => omega
      | 5, hi => omega
      | 6, hi => omega
      | 7, hi => omega
  have eb : btOf (putB b l) = b := by
    unfold btOf
    rw [e13, e14, e16, e32, e36, e44, e48, e50]
  unfold parB
  rw [if_pos (putB_len b l h), if_pos ⟨en, e510⟩, if_pos ⟨e11, e17, e19, e22, e40, e42⟩, eb, if_pos hk]
end Go.Proofs.YtcbbaoiefdbcpaaDoor.Oct
