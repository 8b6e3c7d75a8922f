/- A header's cluster: which bytes it has; that it is decoded as it was, and that no other is the same header. No program in it. -/
import Derived.Test.YtpmljlmcfofppaaHen
import Derived.Test.YtpmljlmcfofppaaHdd
import Derived.Test.YtpmljlmcfofppaaLst
namespace Go.Proofs.Ytpmljlmcfofppaa.Oct

theorem ext_getD {l m : List Int} (h : l.length = m.length) (hg : ∀ i, i < l.length → l.getD i 0 = m.getD i 0) : l = m := by
  refine List.ext_getElem h fun i h1 h2 => ?_
  have := hg i h1
  simpa [h1, h2] using this

theorem getD_append_left (l m : List Int) (i : Nat) (h : i < l.length) : (l ++ m).getD i 0 = l.getD i 0 := by
  simp [List.getD_eq_getElem?_getD, List.getElem?_append_left h]

theorem getD_append_right (l m : List Int) (i : Nat) (h : l.length ≤ i) : (l ++ m).getD i 0 = m.getD (i - l.length) 0 := by
  simp [List.getD_eq_getElem?_getD, List.getElem?_append_right h]

theorem pow2_256 (i : Nat) : (2 : Int) ^ (8 * i) = 256 ^ i := by rw [Int.pow_mul]; rfl

theorem getD_bytesOf (v : Int) (i : Nat) : ∀ k, i < k → (bytesOf v k).getD i 0 = v / 2 ^ (8 * i) % 256
  | 0, h => by omega
  | k + 1, h => by
    unfold bytesOf
    rcases Nat.lt_or_ge i k with h1 | h1
    · rw [getD_append_left _ _ _ (by rw [bytesOf_length]; exact h1)]
      exact getD_bytesOf v i k h1
    · obtain rfl : i = k := by omega
      rw [getD_append_right _ _ _ (by rw [bytesOf_length]; omega), bytesOf_length, pow2_256]
      simp

theorem num_get (l : List Int) (p : Nat) (hb : Byts l) (i : Nat) : ∀ k, i < k → num l p k / 2 ^ (8 * i) % 256 = l.getD (p + i) 0
  | 0, h => by omega
  | k + 1, h => by
    have h0 := num_lt l p hb k
    have hx := hb (p + k)
    unfold num
    rw [pow2_256]
    rcases Nat.lt_or_ge i k with h1 | h1
    · have ih := num_get l p hb i k h1
      rw [pow2_256] at ih
      have e : (256 : Int) ^ k = 256 ^ i * (256 * 256 ^ (k - i - 1)) := by
        rw [show k = i + (1 + (k - i - 1)) by omega, Int.pow_add, Int.pow_add, show i + (1 + (k - i - 1)) - i - 1 = k - i - 1 by omega]
        rfl
      rw [e, show l.getD (p + k) 0 * (256 ^ i * (256 * 256 ^ (k - i - 1))) = 256 ^ i * (256 * (l.getD (p + k) 0 * 256 ^ (k - i - 1))) by
        rw [Int.mul_left_comm, Int.mul_left_comm (l.getD (p + k) 0) 256], Int.add_mul_ediv_left _ _ (Int.ne_of_gt (Int.pow_pos (by omega))), Int.add_mul_emod_self_left]
      exact ih
    · obtain rfl : i = k := by omega
      rw [Int.add_mul_ediv_right _ _ (Int.ne_of_gt (Int.pow_pos (by omega))), Int.ediv_eq_zero_of_lt h0.1 h0.2, Int.zero_add]
      exact Int.emod_eq_of_lt hx.1 hx.2

def bkN (k : Bool) : Int := if k then 1 else 0

/-- The byte at a place of a header's cluster. -/
def encAt (h : Hd) (i : Nat) : Int :=
  if i < 4 then 1280591174 / 2 ^ (8 * i) % 256
  else if i < 8 then h.bits / 2 ^ (8 * (i - 4)) % 256
  else if i < 16 then h.size / 2 ^ (8 * (i - 8)) % 256
  else if i < 20 then h.host / 2 ^ (8 * (i - 16)) % 256
  else if i < 24 then h.journal / 2 ^ (8 * (i - 20)) % 256
  else if i < 28 then bkN h.backed / 2 ^ (8 * (i - 24)) % 256
  else 0

theorem getD_zeros (n i : Nat) : (List.replicate n (0 : Int)).getD i 0 = 0 := by
  rw [List.getD_eq_getElem?_getD, List.getElem?_replicate]
  split <;> simp

theorem encN_get (h : Hd) (i : Nat) : (encN h).getD i 0 = encAt h i := by
  have hc := h.cl_bd
  have hq : 28 ≤ h.cl.toNat := by omega
  obtain ⟨b, s, o, j, k⟩ := h
  unfold encN encAt
  generalize Hd.cl ⟨b, s, o, j, k⟩ = c at *
  dsimp only
  generalize c.toNat = q at *
  have hr : i < 4 ∨ (4 ≤ i ∧ i < 8) ∨ (8 ≤ i ∧ i < 16) ∨ (16 ≤ i ∧ i < 20) ∨ (20 ≤ i ∧ i < 24) ∨ (24 ≤ i ∧ i < 28) ∨ 28 ≤ i := by omega
  cases k
  · simp only [Bool.false_eq_true, if_false]
    rw [getD_putN _ _ _ _ _ (by simp [putN_length]; omega), getD_putN _ _ _ _ _ (by simp [putN_length]; omega), getD_putN _ _ _ _ _ (by simp [putN_length]; omega), getD_putN _ _ _ _ _ (by simp [putN_length]; omega), getD_putN _ _ _ _ _ (by simp; omega), getD_zeros]
    rcases hr with h | h | h | h | h | h | h
    all_goals
      repeat (first | rw [if_pos (by omega)] | rw [if_neg (by omega)])
    all_goals simp [bkN]
  · simp only [if_true]
    rw [getD_putN _ _ _ _ _ (by simp [putN_length]; omega), getD_putN _ _ _ _ _ (by simp [putN_length]; omega), getD_putN _ _ _ _ _ (by simp [putN_length]; omega), getD_putN _ _ _ _ _ (by simp [putN_length]; omega), getD_putN _ _ _ _ _ (by simp [putN_length]; omega), getD_putN _ _ _ _ _ (by simp; omega), getD_zeros]
    rcases hr with h | h | h | h | h | h | h
    all_goals
      repeat (first | rw [if_pos (by omega)] | rw [if_neg (by omega)])
    all_goals simp [bkN]

theorem encAt_len (h : Hd) : (encN h).length = h.cl.toNat := encN_length h

/-- What the document lays one behind the other. -/
def refEnc (h : Hd) : List Int := bytesOf 1280591174 4 ++ bytesOf h.bits 4 ++ bytesOf h.size 8 ++ bytesOf h.host 4 ++ bytesOf h.journal 4 ++ bytesOf (bkN h.backed) 4 ++ List.replicate (h.cl.toNat - 28) 0

theorem refEnc_eq (h : Hd) : encN h = refEnc h := by
  have hc := h.cl_bd
  have hq : 28 ≤ h.cl.toNat := by omega
  refine ext_getD ?_ (fun i hi => ?_)
  · rw [encN_length]
    unfold refEnc
    simp [bytesOf_length]
    omega
  · rw [encN_get]
    rw [encN_length] at hi
    unfold encAt refEnc
    have hr : i < 4 ∨ (4 ≤ i ∧ i < 8) ∨ (8 ≤ i ∧ i < 16) ∨ (16 ≤ i ∧ i < 20) ∨ (20 ≤ i ∧ i < 24) ∨ (24 ≤ i ∧ i < 28) ∨ 28 ≤ i := by omega
    rcases hr with h | h | h | h | h | h | h
    all_goals
      repeat (first | rw [if_pos (by omega)] | rw [if_neg (by omega)])
      repeat (first | rw [getD_append_left _ _ _ (by simp [bytesOf_length]; omega)] | rw [getD_append_right _ _ _ (by simp [bytesOf_length]; omega)])
    all_goals
      first
        | (rw [getD_bytesOf _ _ _ (by first | omega | (simp [bytesOf_length]; omega))]; try simp [bytesOf_length])
        | rw [getD_zeros]

theorem encN_num (h : Hd) (m : List Int) (p k : Nat) (x : Int) (hp : p + k ≤ h.cl.toNat) (hx : 0 ≤ x ∧ x < 256 ^ k) (he : ∀ i, i < k → encAt h (p + i) = x / 2 ^ (8 * i) % 256) : num (encN h ++ m) p k = x := by
  rw [num_of _ p x k (fun i hi => ?_), Int.emod_eq_of_lt hx.1 hx.2]
  rw [getD_append_left _ _ _ (by rw [encN_length]; omega), encN_get]
  exact he i hi

theorem allZ_of {l : List Int} (h : ∀ j, j < l.length → l.getD j 0 = 0) : allZ l = true := allZ_yes l h

theorem drop_take_getD (l : List Int) (n m j : Nat) (hj : j < m) : ((l.drop n).take m).getD j 0 = l.getD (n + j) 0 := by
  simp [List.getD_eq_getElem?_getD, List.getElem?_drop, hj]

/-- What is encoded is decoded as it was, whatever stands behind. -/
theorem dec_enc (h : Hd) (hc : h.check = 0) (m : List Int) : decN (encN h ++ m) = (0, h) := by
  obtain ⟨⟨hb1, hb2⟩, ⟨hs1, hs2⟩, ⟨ho1, ho2⟩, hj1, hj2⟩ := check_zero hc
  have hcl := h.cl_bd
  have hq : 28 ≤ h.cl.toNat := by omega
  have hbk : 0 ≤ bkN h.backed ∧ bkN h.backed ≤ 1 := by unfold bkN; split <;> omega
  have n0 : num (encN h ++ m) 0 4 = 1280591174 := encN_num h m 0 4 _ (by omega) (by decide) (fun i hi => by unfold encAt; rw [if_pos (by omega), Nat.zero_add])
  have n4 : num (encN h ++ m) 4 4 = h.bits := encN_num h m 4 4 _ (by omega) ⟨by omega, by rw [show (256 : Int) ^ 4 = 4294967296 by decide]; omega⟩ (fun i hi => by unfold encAt; rw [if_neg (by omega), if_pos (by omega), Nat.add_sub_cancel_left])
  have n8 : num (encN h ++ m) 8 8 = h.size := encN_num h m 8 8 _ (by omega) ⟨by omega, by rw [show (256 : Int) ^ 8 = 18446744073709551616 by decide]; omega⟩ (fun i hi => by unfold encAt; rw [if_neg (by omega), if_neg (by omega), if_pos (by omega), Nat.add_sub_cancel_left])
  have n16 : num (encN h ++ m) 16 4 = h.host := encN_num h m 16 4 _ (by omega) ⟨by omega, by rw [show (256 : Int) ^ 4 = 4294967296 by decide]; omega⟩ (fun i hi => by unfold encAt; rw [if_neg (by omega), if_neg (by omega), if_neg (by omega), if_pos (by omega), Nat.add_sub_cancel_left])
  have n20 : num (encN h ++ m) 20 4 = h.journal := encN_num h m 20 4 _ (by omega) ⟨by omega, by rw [show (256 : Int) ^ 4 = 4294967296 by decide]; omega⟩ (fun i hi => by unfold encAt; rw [if_neg (by omega), if_neg (by omega), if_neg (by omega), if_neg (by omega), if_pos (by omega), Nat.add_sub_cancel_left])
  have n24 : num (encN h ++ m) 24 4 = bkN h.backed := encN_num h m 24 4 _ (by omega) ⟨by omega, by rw [show (256 : Int) ^ 4 = 4294967296 by decide]; omega⟩ (fun i hi => by unfold encAt; rw [if_neg (by omega), if_neg (by omega), if_neg (by omega), if_neg (by omega), if_neg (by omega), if_pos (by omega), Nat.add_sub_cancel_left])
  have hF : hdF (encN h ++ m) = h := by
    unfold hdF
    rw [n4, n8, n16, n20, n24]
    have : (bkN h.backed == 1) = h.backed := by cases h.backed <;> rfl
    rw [this]
  have hlen : h.cl.toNat ≤ (encN h ++ m).length := by simp [encN_length]
  rw [dec7 (by omega) (by rw [n0]; simp) (by unfold badF; rw [n4, n8, n24]; omega) (by rw [hF, hc]; simp) (by rw [hF]; omega) ?_, hF]
  rw [hF, allZ_of (fun j hj => ?_)]
  · simp
  · simp at hj
    rw [drop_take_getD _ _ _ _ (by omega), getD_append_left _ _ _ (by rw [encN_length]; omega), encN_get]
    unfold encAt
    repeat (first | rw [if_pos (by omega)] | rw [if_neg (by omega)])

/-- No other cluster is the same header. -/
theorem enc_dec (l : List Int) (hb : Byts l) (h : Hd) (hd : decN l = (0, h)) : h.check = 0 ∧ h.cl.toNat ≤ l.length ∧ encN h = l.take h.cl.toNat := by
  have g1 : ¬ l.length < 28 := fun c => by rw [dec1 c] at hd; simp at hd
  have g2 : ¬ num l 0 4 ≠ 1280591174 := fun c => by rw [dec2 g1 c] at hd; simp at hd
  have g3 : ¬ badF l := fun c => by rw [dec3 g1 g2 c] at hd; simp at hd
  have g4 : ¬ (hdF l).check ≠ 0 := fun c => by rw [dec4 g1 g2 g3 c] at hd; simp at hd; exact c hd.1
  have g5 : ¬ (l.length : Int) < (hdF l).cl := fun c => by rw [dec5 g1 g2 g3 g4 c] at hd; simp at hd
  have g6 : ¬ allZ ((l.drop 28).take ((hdF l).cl.toNat - 28)) = false := fun c => by rw [dec6 g1 g2 g3 g4 g5 c] at hd; simp at hd
  rw [dec7 g1 g2 g3 g4 g5 g6] at hd
  have hF : hdF l = h := by simpa using hd
  rw [hF] at g4 g5 g6
  have hcl := h.cl_bd
  have hlen : h.cl.toNat ≤ l.length := by omega
  refine ⟨by simpa using g4, hlen, ext_getD (by rw [encN_length]; simp; omega) (fun i hi => ?_)⟩
  rw [encN_length] at hi
  rw [encN_get]
  have ht : (l.take h.cl.toNat).getD i 0 = l.getD i 0 := by simp [List.getD_eq_getElem?_getD, hi]
  rw [ht]
  have hz : allZ ((l.drop 28).take (h.cl.toNat - 28)) = true := by simpa using g6
  have n0 : num l 0 4 = 1280591174 := by simpa using g2
  have e4 : h.bits = num l 4 4 := by rw [← hF]; rfl
  have e8 : h.size = num l 8 8 := by rw [← hF]; rfl
  have e16 : h.host = num l 16 4 := by rw [← hF]; rfl
  have e20 : h.journal = num l 20 4 := by rw [← hF]; rfl
  have n24 := num_lt l 24 hb 4
  have e24 : bkN h.backed = num l 24 4 := by
    have : h.backed = (num l 24 4 == 1) := by rw [← hF]; rfl
    have g : ¬ 1 < num l 24 4 := fun c => g3 (Or.inr (Or.inr c))
    rw [this]
    have h2 : num l 24 4 = 0 ∨ num l 24 4 = 1 := by omega
    rcases h2 with h2 | h2 <;> (rw [h2]; rfl)
  unfold encAt
  rw [e4, e8, e16, e20, e24, ← n0]
  have hr : i < 4 ∨ (4 ≤ i ∧ i < 8) ∨ (8 ≤ i ∧ i < 16) ∨ (16 ≤ i ∧ i < 20) ∨ (20 ≤ i ∧ i < 24) ∨ (24 ≤ i ∧ i < 28) ∨ 28 ≤ i := by omega
  rcases hr with g | g | g | g | g | g | g
  all_goals
    repeat (first | rw [if_pos (by omega)] | rw [if_neg (by omega)])
  · rw [num_get l 0 hb i 4 g, Nat.zero_add]
  · rw [num_get l 4 hb (i - 4) 4 (by omega)]; congr 1; omega
  · rw [num_get l 8 hb (i - 8) 8 (by omega)]; congr 1; omega
  · rw [num_get l 16 hb (i - 16) 4 (by omega)]; congr 1; omega
  · rw [num_get l 20 hb (i - 20) 4 (by omega)]; congr 1; omega
  · rw [num_get l 24 hb (i - 24) 4 (by omega)]; congr 1; omega
  · by_cases hz0 : l.getD i 0 = 0
    · exact hz0.symm
    · have hno := allZ_no ((l.drop 28).take (h.cl.toNat - 28)) (i - 28) (by simp; omega) (by
        rw [drop_take_getD _ _ _ _ (by omega), show 28 + (i - 28) = i by omega]
        exact hz0)
      rw [hno] at hz
      cases hz
end Go.Proofs.Ytpmljlmcfofppaa.Oct
