/- Records as bytes, and back: no program. -/
import Derived.Test.YtkhknfohcebicaaWr
namespace Go.Proofs.Ytkhknfohcebicaa.Oct
open Go.RowKit

/-- A number's first bytes, the lowest first. -/
def leB (v : Int) : Nat → List Int
  | 0 => []
  | k + 1 => leB v k ++ [v / 2 ^ (8 * k) % 256]

theorem leB_length (v : Int) : ∀ k, (leB v k).length = k
  | 0 => rfl
  | k + 1 => by simp [leB, leB_length v k]

theorem leB_get (v : Int) : ∀ k i, i < k → (leB v k).getD i 0 = v / 2 ^ (8 * i) % 256
  | 0, i, h => by omega
  | k + 1, i, h => by
    rw [leB]
    by_cases he : i < k
    · rw [← leB_get v k i he]
      simp [List.getElem?_append_left, leB_length, he]
    · obtain rfl : i = k := by omega
      simp [leB_length]

theorem leB_byts (v : Int) : ∀ k, Byts (leB v k)
  | 0 => fun i => by simp [leB]
  | k + 1 => by
    rw [leB]
    refine (leB_byts v k).append (fun i => ?_)
    match i with
    | 0 => simp; omega
    | i + 1 => simp

theorem over_snocB (l : List Int) (p : Nat) (m : List Int) (x : Int) (h : p + m.length + 1 ≤ l.length) : over l p (m ++ [x]) = (over l p m).set (p + m.length) x := by
  have e1 : (l.take p).length = p := by simp; omega
  have e2 : l.drop (p + m.length) = l[p + m.length] :: l.drop (p + m.length + 1) := List.drop_eq_getElem_cons (by omega)
  unfold over
  rw [List.set_append_right _ _ (by omega), e1, Nat.add_sub_cancel_left, List.set_append_right _ _ (by omega), Nat.sub_self, e2]
  simp [Nat.add_assoc]

theorem over_leB (l : List Int) (p : Nat) (v : Int) : ∀ n, p + n ≤ l.length → over l p (leB v n) = putN l p v n
  | 0, _ => by simp [over, leB, putN]
  | n + 1, h => by rw [leB, over_snocB l p _ _ (by rw [leB_length]; omega), over_leB l p v n (by omega), leB_length, putN]

/-- Bytes laid at the end of a beginning. -/
theorem over_at (X m Y : List Int) (q : List Int) (h : m.length = q.length) : over (X ++ (m ++ Y)) X.length q = X ++ (q ++ Y) := by
  unfold over
  rw [List.take_left', List.drop_append]
  · congr 2
    have : (X ++ (m ++ Y)).drop (X.length + q.length) = Y := by
      rw [← List.append_assoc, show X.length + q.length = (X ++ m).length by simp [h], List.drop_left']
      rfl
    simp [h]
  · rfl

theorem num_part (X Z Y : List Int) : ∀ n, n ≤ Z.length → num (X ++ (Z ++ Y)) X.length n = num Z 0 n
  | 0, _ => rfl
  | n + 1, h => by
    rw [num, num, num_part X Z Y n (by omega)]
    congr 2
    have : n < Z.length := by omega
    simp [List.getElem?_append_right, List.getElem?_append_left, this]

theorem num_leB (v : Int) (n : Nat) (h0 : 0 ≤ v) (h1 : v < 256 ^ n) : num (leB v n) 0 n = v := by
  rw [num_of (leB v n) 0 v n (fun i hi => by rw [Nat.zero_add]; exact leB_get v n i hi)]
  exact Int.emod_eq_of_lt h0 h1

/-- Records: a place, bytes. -/
abbrev RD := Int × List Int

/-- As bytes. -/
def encR (r : RD) : List Int := leB (IntKind.u64.wrap r.1) 8 ++ (leB r.2.length 4 ++ r.2)
def encD (D : List RD) : List Int := D.flatMap encR
def lenD (D : List RD) : Nat := (D.map (fun r => 12 + r.2.length)).sum

theorem encR_length (r : RD) : (encR r).length = 12 + r.2.length := by simp [encR, leB_length]; omega
theorem encD_length (D : List RD) : (encD D).length = lenD D := by
  induction D with
  | nil => rfl
  | cons r D ih => simp only [encD, List.flatMap_cons, List.length_append, lenD, List.map_cons, List.sum_cons, encR_length] at *; omega

theorem lenD_append (D E : List RD) : lenD (D ++ E) = lenD D + lenD E := by simp [lenD]
theorem encD_append (D E : List RD) : encD (D ++ E) = encD D ++ encD E := by simp [encD]

theorem take_get {α : Type} (D : List α) (k : Nat) (hk : k < D.length) (z : α) : D.take (k + 1) = D.take k ++ [D.getD k z] := by
  rw [List.take_succ_eq_append_getElem hk]
  congr 2
  simp [hk]

theorem lenD_take (D : List RD) (k : Nat) (hk : k < D.length) (z : RD) : lenD (D.take (k + 1)) = lenD (D.take k) + (12 + (D.getD k z).2.length) := by
  rw [take_get D k hk z, lenD_append]
  simp only [lenD, List.map_cons, List.map_nil, List.sum_cons, List.sum_nil]
  omega

theorem encD_take (D : List RD) (k : Nat) (hk : k < D.length) (z : RD) : encD (D.take (k + 1)) = encD (D.take k) ++ encR (D.getD k z) := by
  rw [take_get D k hk z, encD_append]
  simp only [encD, List.flatMap_cons, List.flatMap_nil, List.append_nil]

theorem lenD_mono (D : List RD) (k : Nat) : lenD (D.take k) ≤ lenD D := by
  have : lenD D = lenD (D.take k) + lenD (D.drop k) := by rw [← lenD_append, List.take_append_drop]
  omega

theorem lenD_mem {D : List RD} {r : RD} (h : r ∈ D) : 12 + r.2.length ≤ lenD D := by
  induction D with
  | nil => cases h
  | cons x D ih =>
    have e : lenD (x :: D) = (12 + x.2.length) + lenD D := by simp [lenD]
    rcases List.mem_cons.1 h with rfl | h
    · omega
    · have := ih h; omega

theorem encD_byts {D : List RD} (h : ∀ r ∈ D, Byts r.2) : Byts (encD D) := by
  induction D with
  | nil => intro k; simp [encD]
  | cons r D ih =>
    have : encD (r :: D) = encR r ++ encD D := rfl
    rw [this]
    refine Byts.append ((leB_byts _ _).append ((leB_byts _ _).append (h r (by simp)))) (ih fun x hx => h x (by simp [hx]))

/-- A record behind others, of a row of noughts. -/
theorem enc_step1 (X : List Int) (T : Nat) (v : Int) (h : X.length + 8 ≤ T) : putN (X ++ List.replicate (T - X.length) 0) X.length v 8 = (X ++ leB v 8) ++ List.replicate (T - (X ++ leB v 8).length) 0 := by
  rw [← over_leB _ _ _ _ (by simp; omega)]
  have e : List.replicate (T - X.length) (0 : Int) = List.replicate 8 0 ++ List.replicate (T - X.length - 8) 0 := by rw [List.replicate_append_replicate]; congr 1; omega
  rw [e, over_at X _ _ _ (by simp [leB_length]), List.append_assoc, show T - (X ++ leB v 8).length = T - X.length - 8 by simp [leB_length]; omega]

theorem enc_step2 (X : List Int) (T : Nat) (v : Int) (h : X.length + 4 ≤ T) : putN (X ++ List.replicate (T - X.length) 0) X.length v 4 = (X ++ leB v 4) ++ List.replicate (T - (X ++ leB v 4).length) 0 := by
  rw [← over_leB _ _ _ _ (by simp; omega)]
  have e : List.replicate (T - X.length) (0 : Int) = List.replicate 4 0 ++ List.replicate (T - X.length - 4) 0 := by rw [List.replicate_append_replicate]; congr 1; omega
  rw [e, over_at X _ _ _ (by simp [leB_length]), List.append_assoc, show T - (X ++ leB v 4).length = T - X.length - 4 by simp [leB_length]; omega]

theorem enc_step3 (X q : List Int) (T : Nat) (h : X.length + q.length ≤ T) : over (X ++ List.replicate (T - X.length) 0) X.length q = (X ++ q) ++ List.replicate (T - (X ++ q).length) 0 := by
  have e : List.replicate (T - X.length) (0 : Int) = List.replicate q.length 0 ++ List.replicate (T - X.length - q.length) 0 := by rw [List.replicate_append_replicate]; congr 1; omega
  rw [e, over_at X _ _ _ (by simp), List.append_assoc, show T - (X ++ q).length = T - X.length - q.length by simp; omega]

theorem rep_length (X : List Int) (T : Nat) (h : X.length ≤ T) : (X ++ List.replicate (T - X.length) (0 : Int)).length = T := by simp; omega
end Go.Proofs.Ytkhknfohcebicaa.Oct
