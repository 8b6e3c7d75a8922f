/- The document's sector with the counts. -/
import Derived.Test.YtcbbaoiefdbcpaaDoorPSrtFmd
namespace Go.Proofs.YtcbbaoiefdbcpaaDoor.Oct
open Go.RowKit

theorem list_eqF (l m : List Int) (h : l.length = m.length) (he : ∀ i, l.getD i 0 = m.getD i 0) : l = m := by
  refine List.ext_getElem h fun i h1 h2 => ?_
  have := he i
  simpa [List.getD_eq_getElem?_getD, List.getElem?_eq_getElem h1, List.getElem?_eq_getElem h2] using this

theorem bytesOf_getF (v : Int) : ∀ (k i : Nat), i < k → (bytesOf v k).getD i 0 = v / 256 ^ i % 256
  | 0, i, h => by omega
  | k + 1, i, h => by
    show (bytesOf v k ++ [v / 256 ^ k % 256]).getD i 0 = _
    rw [List.getD_eq_getElem?_getD]
    by_cases hk : i < k
    · rw [List.getElem?_append_left (by rw [bytesOf_length]; exact hk), ← List.getD_eq_getElem?_getD, bytesOf_getF v k i hk]
    · obtain rfl : i = k := by omega
      rw [List.getElem?_append_right (by rw [bytesOf_length]; omega), bytesOf_length, Nat.sub_self]
      rfl

theorem over_getF (m : List Int) (o : Nat) (l : List Int) (h : o + l.length ≤ m.length) (i : Nat) : (over m o l).getD i 0 = if o ≤ i ∧ i < o + l.length then l.getD (i - o) 0 else m.getD i 0 := by
  have ht : (m.take o).length = o := by simp; omega
  unfold over
  simp only [List.getD_eq_getElem?_getD]
  split
  · rename_i hi
    rw [List.getElem?_append_right (by omega), List.getElem?_append_left (by omega), ht]
  · rename_i hi
    by_cases h1 : i < o
    · rw [List.getElem?_append_left (by omega), List.getElem?_take_of_lt h1]
    · rw [List.getElem?_append_right (by omega), List.getElem?_append_right (by omega), List.getElem?_drop, ht]
      congr 2
      omega

theorem over_putN (l : List Int) (p : Nat) (v : Int) (k : Nat) (h : p + k ≤ l.length) : over l p (bytesOf v k) = putN l p v k := by
  have hp : ∀ k : Nat, (2 : Int) ^ (8 * k) = 256 ^ k := fun k => by rw [Int.pow_mul]; rfl
  apply list_eqF
  · rw [over_length (by rw [bytesOf_length]; exact h), putN_length]
  · intro i
    rw [over_getF _ _ _ (by rw [bytesOf_length]; exact h), getD_putN _ _ _ _ _ h, bytesOf_length]
    split
    · rw [bytesOf_getF _ _ _ (by omega), hp]
    · rfl

theorem putN_comm (l : List Int) (p q : Nat) (a b : Int) (n m : Nat) (h : p + n ≤ q ∨ q + m ≤ p) (hp : p + n ≤ l.length) (hq : q + m ≤ l.length) : putN (putN l p a n) q b m = putN (putN l q b m) p a n := by
  apply list_eqF
  · simp only [putN_length]
  · intro i
    rw [getD_putN _ _ _ _ _ (by rw [putN_length]; exact hq), getD_putN _ _ _ _ _ hp, getD_putN _ _ _ _ _ (by rw [putN_length]; exact hp), getD_putN _ _ _ _ _ hq]
    by_cases h1 : q ≤ i ∧ i < q + m
    · rw [if_pos h1, if_neg (by omega), if_pos h1]
    · rw [if_neg h1, if_neg h1]

/-- The document's sector, as it is laid. -/
def csP (f x : Int) : Nat → List Int
  | 0 => (List.replicate 512 0)
  | 1 => (over (List.replicate 512 0) 0 (bytesOf 1096897106 4))
  | 2 => (over (over (List.replicate 512 0) 0 (bytesOf 1096897106 4)) 484 (bytesOf 1631679090 4))
  | 3 => (over (over (over (List.replicate 512 0) 0 (bytesOf 1096897106 4)) 484 (bytesOf 1631679090 4)) 488 (bytesOf f 4))
  | 4 => (over (over (over (over (List.replicate 512 0) 0 (bytesOf 1096897106 4)) 484 (bytesOf 1631679090 4)) 488 (bytesOf f 4)) 492 (bytesOf x 4))
  | _ => (over (over (over (over (over (List.replicate 512 0) 0 (bytesOf 1096897106 4)) 484 (bytesOf 1631679090 4)) 488 (bytesOf f 4)) 492 (bytesOf x 4)) 508 (bytesOf 2857697280 4))

theorem csP_eq (f x : Int) : csP f x 5 = cntP f x := by
  show (over (over (over (over (over (List.replicate 512 0) 0 (bytesOf 1096897106 4)) 484 (bytesOf 1631679090 4)) 488 (bytesOf f 4)) 492 (bytesOf x 4)) 508 (bytesOf 2857697280 4)) = _
  unfold cntP sgP
  simp only [over_putN, putN_length, List.length_replicate, Nat.reduceAdd, Nat.reduceLeDiff]
  rw [putN_comm _ 492 508 _ _ 4 4 (by omega) (by simp only [putN_length, List.length_replicate]; omega) (by simp only [putN_length, List.length_replicate]; omega), putN_comm _ 488 508 _ _ 4 4 (by omega) (by simp only [putN_length, List.length_replicate]; omega) (by simp only [putN_length, List.length_replicate]; omega)]

theorem csP_len (f x : Int) (k : Nat) : (csP f x k).length = 512 := by
  have h0 : (List.replicate 512 (0 : Int)).length = 512 := List.length_replicate
  unfold csP
  split
  · exact h0
  all_goals simp only [over_putN, putN_length, List.length_replicate, Nat.reduceAdd, Nat.reduceLeDiff]

set_option maxHeartbeats 8000000 in
set_option maxRecDepth 100000 in
theorem csec_any (f x : Int) (w : World) (hf : 0 ≤ f ∧ f ≤ 4294967295 ∧ 0 ≤ x ∧ x ≤ 4294967295) :
    Calls Tryd.prog 38 #[.int .i64 f, .int .i64 x] w fun e w' => (∃ a c, e = .returned (.slice a 512 c) ∧ Lies w' a (cntP f x)) ∧ Below w.heap.size w w' := by
  have HZ := hide (Zeros_any 512 w (by omega))
  have u1 : IntKind.u64.wrap f = f := by simp [IntKind.wrap, IntKind.signed, IntKind.bits]; omega
  have u2 : IntKind.u64.wrap x = x := by simp [IntKind.wrap, IntKind.signed, IntKind.bits]; omega
  have HF := hide hf
  push_cast at HZ
  clear hf
  go_enter Tryd.func38, Tryd.ntmps38
  go_wp2_with fail
  refine HZ.out.mono ?_
  rintro e9 y0 ⟨v0, rfl, ho0, hb0⟩
  have hq0 : Own y0 w.heap.size v0 (csP f x 0) := ho0
  obtain ⟨a0, c0, hv0, hs0, _⟩ := hq0.sl
  rw [csP_len] at hv0
  subst hv0
  have HS0 := hide hs0
  have HB0 := hide hb0
  clear ho0 hb0 hq0 hs0 HZ
  go_wp2_with fail
  refine (hide (Bytes_any 1096897106 4 y0 (by omega) (by omega) (by omega))).out.mono ?_
  rintro e9 z0 ⟨r0, rfl, hr0, hzb0⟩
  obtain ⟨b0, d0, rfl, hbs0, _⟩ := hr0.sl
  have HW0 := hide (With_any a0 c0 (csP f x 0) b0 d0 (bytesOf 1096897106 4) 0 z0 (by rw [csP_len]; omega) (by rw [bytesOf_length]; omega) (by rw [csP_len, bytesOf_length]; omega) (HS0.out.below hzb0) hbs0)
  rw [csP_len, bytesOf_length] at HW0
  rw [bytesOf_length]
  have HBz0 := hide (HB0.out.trans (hzb0.mono HB0.out.size))
  clear hr0 hzb0 hbs0
  push_cast at HW0
  go_wp2_with fail
  refine HW0.out.mono ?_
  rintro e9 y1 ⟨v1, rfl, ho1, hb1⟩
  have hq1 : Own y1 z0.heap.size v1 (csP f x 1) := ho1
  have HX := hide hq1
  obtain ⟨a1, c1, hv1, hs1, _⟩ := hq1.sl
  rw [csP_len] at hv1
  subst hv1
  have HS1 := hide hs1
  have HB1 := hide (HBz0.out.trans (hb1.mono HBz0.out.size))
  clear ho1 hb1 hq1 hs1
  go_wp2_with fail
  refine (hide (Bytes_any 1631679090 4 y1 (by omega) (by omega) (by omega))).out.mono ?_
  rintro e9 z1 ⟨r1, rfl, hr1, hzb1⟩
  obtain ⟨b1, d1, rfl, hbs1, _⟩ := hr1.sl
  have HW1 := hide (With_any a1 c1 (csP f x 1) b1 d1 (bytesOf 1631679090 4) 484 z1 (by rw [csP_len]; omega) (by rw [bytesOf_length]; omega) (by rw [csP_len, bytesOf_length]; omega) (HS1.out.below hzb1) hbs1)
  rw [csP_len, bytesOf_length] at HW1
  rw [bytesOf_length]
  have HBz1 := hide (HB1.out.trans (hzb1.mono HB1.out.size))
  clear hr1 hzb1 hbs1
  push_cast at HW1
  go_wp2_with fail
  refine HW1.out.mono ?_
  rintro e9 y2 ⟨v2, rfl, ho2, hb2⟩
  have hq2 : Own y2 z1.heap.size v2 (csP f x 2) := ho2
  have HX := hide hq2
  obtain ⟨a2, c2, hv2, hs2, _⟩ := hq2.sl
  rw [csP_len] at hv2
  subst hv2
  have HS2 := hide hs2
  have HB2 := hide (HBz1.out.trans (hb2.mono HBz1.out.size))
  clear ho2 hb2 hq2 hs2
  go_wp2_with fail
  refine (hide (Bytes_any f 4 y2 (by omega) (by have := HF.out; omega) (by have := HF.out; omega))).out.mono ?_
  rintro e9 z2 ⟨r2, rfl, hr2, hzb2⟩
  obtain ⟨b2, d2, rfl, hbs2, _⟩ := hr2.sl
  have HW2 := hide (With_any a2 c2 (csP f x 2) b2 d2 (bytesOf f 4) 488 z2 (by rw [csP_len]; omega) (by rw [bytesOf_length]; omega) (by rw [csP_len, bytesOf_length]; omega) (HS2.out.below hzb2) hbs2)
  rw [csP_len, bytesOf_length] at HW2
  rw [bytesOf_length]
  have HBz2 := hide (HB2.out.trans (hzb2.mono HB2.out.size))
  clear hr2 hzb2 hbs2
  push_cast at HW2
  go_wp2_with fail
  refine HW2.out.mono ?_
  rintro e9 y3 ⟨v3, rfl, ho3, hb3⟩
  have hq3 : Own y3 z2.heap.size v3 (csP f x 3) := ho3
  have HX := hide hq3
  obtain ⟨a3, c3, hv3, hs3, _⟩ := hq3.sl
  rw [csP_len] at hv3
  subst hv3
  have HS3 := hide hs3
  have HB3 := hide (HBz2.out.trans (hb3.mono HBz2.out.size))
  clear ho3 hb3 hq3 hs3
  go_wp2_with fail
  refine (hide (Bytes_any x 4 y3 (by omega) (by have := HF.out; omega) (by have := HF.out; omega))).out.mono ?_
  rintro e9 z3 ⟨r3, rfl, hr3, hzb3⟩
  obtain ⟨b3, d3, rfl, hbs3, _⟩ := hr3.sl
  have HW3 := hide (With_any a3 c3 (csP f x 3) b3 d3 (bytesOf x 4) 492 z3 (by rw [csP_len]; omega) (by rw [bytesOf_length]; omega) (by rw [csP_len, bytesOf_length]; omega) (HS3.out.below hzb3) hbs3)
  rw [csP_len, bytesOf_length] at HW3
  rw [bytesOf_length]
  have HBz3 := hide (HB3.out.trans (hzb3.mono HB3.out.size))
  clear hr3 hzb3 hbs3
  push_cast at HW3
  go_wp2_with fail
  refine HW3.out.mono ?_
  rintro e9 y4 ⟨v4, rfl, ho4, hb4⟩
  have hq4 : Own y4 z3.heap.size v4 (csP f x 4) := ho4
  have HX := hide hq4
  obtain ⟨a4, c4, hv4, hs4, _⟩ := hq4.sl
  rw [csP_len] at hv4
  subst hv4
  have HS4 := hide hs4
  have HB4 := hide (HBz3.out.trans (hb4.mono HBz3.out.size))
  clear ho4 hb4 hq4 hs4
  go_wp2_with fail
  refine (hide (Bytes_any 2857697280 4 y4 (by omega) (by omega) (by omega))).out.mono ?_
  rintro e9 z4 ⟨r4, rfl, hr4, hzb4⟩
  obtain ⟨b4, d4, rfl, hbs4, _⟩ := hr4.sl
  have HW4 := hide (With_any a4 c4 (csP f x 4) b4 d4 (bytesOf 2857697280 4) 508 z4 (by rw [csP_len]; omega) (by rw [bytesOf_length]; omega) (by rw [csP_len, bytesOf_length]; omega) (HS4.out.below hzb4) hbs4)
  rw [csP_len, bytesOf_length] at HW4
  rw [bytesOf_length]
  have HBz4 := hide (HB4.out.trans (hzb4.mono HB4.out.size))
  clear hr4 hzb4 hbs4
  push_cast at HW4
  go_wp2_with fail
  refine HW4.out.mono ?_
  rintro e9 y5 ⟨v5, rfl, ho5, hb5⟩
  have hq5 : Own y5 z4.heap.size v5 (csP f x 5) := ho5
  have HX := hide hq5
  obtain ⟨a5, c5, hv5, hs5, _⟩ := hq5.sl
  rw [csP_len] at hv5
  subst hv5
  have HS5 := hide hs5
  have HB5 := hide (HBz4.out.trans (hb5.mono HBz4.out.size))
  clear ho5 hb5 hq5 hs5
  go_wp2_with fail
  go_ret
  refine ⟨⟨a5, c5, rfl, ?_⟩, HB5.out⟩
  rw [← csP_eq]
  exact HS5.out.lies
end Go.Proofs.YtcbbaoiefdbcpaaDoor.Oct
