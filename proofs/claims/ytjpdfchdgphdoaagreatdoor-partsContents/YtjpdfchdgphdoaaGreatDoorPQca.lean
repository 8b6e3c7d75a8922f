/- A path's bytes, as lists: no program; and how many they are (total). -/
import Derived.Test.YtjpdfchdgphdoaaGreatDoorPQfa
import Derived.Test.YtjpdfchdgphdoaaGreatDoorPQwb
namespace Go.Proofs.YtjpdfchdgphdoaaGreatDoor.Oct
open Go.RowKit

/-- A run's bytes. -/
def pieceF (d : List Int) (x y : Int) : Except Int (List Int) :=
  if x < 0 then .ok (List.replicate (y - x).toNat 0) else if y ≤ d.length then .ok ((d.drop x.toNat).take (y - x).toNat) else .error 4

def rdsF (d : List Int) : List (Int × Int) → List Int → Except Int (List Int)
  | [], out => .ok out
  | p :: R, out => match pieceF d p.1 p.2 with
    | .error c => .error c
    | .ok q => rdsF d R (out ++ q)

def totF (z : Int) : Int → List (Int × Int) → Option Int
  | s, [] => some s
  | s, p :: R => if p.2 < p.1 ∨ z - s < p.2 - p.1 then none else totF z (s + (p.2 - p.1)) R

def totZ (z : Int) (R : List (Int × Int)) : Option Int := if z < 0 ∨ 16777216 < z then none else totF z 0 R

def contP (d : List Int) (z : Int) (R : List (Int × Int)) : Except Int (List Int) :=
  match totZ z R with
  | none => .error 4
  | some s => match rdsF d R [] with
    | .error c => .error c
    | .ok out => if s < z then .error 23 else .ok out

def refF (d : List Int) (z : Int) : List (Int × Int) → List Int → Except Int (List Int)
  | [], out => if (out.length : Int) = z then .ok out else .error 23
  | p :: R, out => if p.2 < p.1 ∨ z - out.length < p.2 - p.1 then .error 4 else match pieceF d p.1 p.2 with
    | .error c => .error c
    | .ok q => refF d z R (out ++ q)

def contR (d : List Int) (z : Int) (R : List (Int × Int)) : Except Int (List Int) := if z < 0 ∨ 16777216 < z then .error 4 else refF d z R []

theorem pieceF_len {d : List Int} {x y : Int} {q : List Int} (h : pieceF d x y = .ok q) (hxy : x ≤ y) : (q.length : Int) = y - x := by
  unfold pieceF at h
  split at h
  · cases h; simp; omega
  · split at h
    · cases h; simp; omega
    · cases h

theorem pieceF_err {d : List Int} {x y c : Int} (h : pieceF d x y = .error c) : c = 4 := by
  unfold pieceF at h
  split at h
  · cases h
  · split at h
    · cases h
    · cases h; rfl

theorem cont_go (d : List Int) (z : Int) : ∀ (R : List (Int × Int)) (out : List Int), (out.length : Int) ≤ z →
    (match totF z out.length R with
      | none => .error 4
      | some s => match rdsF d R out with
        | .error c => .error c
        | .ok o => if s < z then .error 23 else .ok o) = refF d z R out
  | [], out, h => by
    simp only [totF, rdsF, refF]
    by_cases e : (out.length : Int) = z
    · rw [if_neg (by omega), if_pos e]
    · rw [if_pos (by omega), if_neg e]
  | p :: R, out, h => by
    simp only [totF, rdsF, refF]
    by_cases hb : p.2 < p.1 ∨ z - out.length < p.2 - p.1
    · rw [if_pos hb, if_pos hb]
    · rw [if_neg hb, if_neg hb]
      cases hq : pieceF d p.1 p.2 with
      | error c =>
        have := pieceF_err hq
        subst this
        simp only
        split <;> rfl
      | ok q =>
        simp only
        have hl := pieceF_len hq (by omega)
        have := cont_go d z R (out ++ q) (by simp; omega)
        rw [← this]
        simp only [List.length_append]
        rw [show ((out.length + q.length : Nat) : Int) = (out.length : Int) + (p.2 - p.1) by omega]

theorem cont_eq (d : List Int) (z : Int) (R : List (Int × Int)) : contP d z R = contR d z R := by
  unfold contP contR totZ
  by_cases h : z < 0 ∨ 16777216 < z
  · rw [if_pos h, if_pos h]
  · rw [if_neg h, if_neg h]
    exact cont_go d z R [] (by simp; omega)

/-- Numbers of runs that the statement looks at. -/
def NearC (R : List (Int × Int)) : Prop := ∀ p ∈ R, -5000 ≤ p.1 ∧ p.1 ≤ 100000 ∧ -5000 ≤ p.2 ∧ p.2 ≤ 100000

theorem totF_le {z : Int} : ∀ (R : List (Int × Int)) (s t : Int), totF z s R = some t → s ≤ z → s ≤ t ∧ t ≤ z
  | [], s, t, h, hs => by cases h; omega
  | p :: R, s, t, h, hs => by
    simp only [totF] at h
    split at h
    · cases h
    · have := totF_le R _ t h (by omega)
      omega

theorem drop_consE (R : List (Int × Int)) (k : Nat) (hk : k < R.length) : R.drop k = R.getD k (0, 0) :: R.drop (k + 1) := by
  rw [List.drop_eq_getElem_cons hk, List.getD_eq_getElem?_getD, List.getElem?_eq_getElem hk]
  rfl

theorem near_get {R : List (Int × Int)} (h : NearC R) (k : Nat) (hk : k < R.length) : -5000 ≤ (R.getD k (0, 0)).1 ∧ (R.getD k (0, 0)).1 ≤ 100000 ∧ -5000 ≤ (R.getD k (0, 0)).2 ∧ (R.getD k (0, 0)).2 ≤ 100000 :=
  h _ (by rw [List.getD_eq_getElem?_getD, List.getElem?_eq_getElem hk]; exact List.getElem_mem _)

/-- What total answers. -/
def TotE (z : Int) (R : List (Int × Int)) (e : Ending) : Prop := (∃ s, totZ z R = some s ∧ e = .returned (.tuple #[.int .i64 s, .bool true])) ∨ (totZ z R = none ∧ e = .returned (.tuple #[.int .i64 0, .bool false]))

theorem u64_sub (x y : Int) (hx : -5000 ≤ x ∧ x ≤ 100000) (hy : -5000 ≤ y ∧ y ≤ 100000) (h : x ≤ y) : IntKind.u64.wrap (IntKind.u64.wrap y - IntKind.u64.wrap x) = y - x := by
  simp only [IntKind.wrap, IntKind.signed, IntKind.bits] at *
  simp
  omega

theorem u64_pos (x : Int) (h : 0 ≤ x ∧ x ≤ 20000000) : IntKind.u64.wrap x = x := by
  simp only [IntKind.wrap, IntKind.signed, IntKind.bits] at *
  simp
  omega

set_option maxHeartbeats 8000000 in
set_option maxRecDepth 100000 in
theorem total_any (s : ByteArray) (k z : Int) (a : Option Addr) (n c : Nat) (R : List (Int × Int)) (w : World) (hn : n = R.length) (hR : LiesE w a R) (hN : NearC R) (hl : R.length ≤ 20) :
    Calls Tryz.prog 20 #[.agg #[.string s, .int .i64 k, .int .i64 z, .slice a n c]] w fun e w' => TotE z R e ∧ Below w.heap.size w w' := by
  obtain ⟨w1, hw1⟩ : ∃ w1, w1 = w.alloc (.cells #[.string s, .int .i64 k, .int .i64 z, .slice a n c] 42) := ⟨_, rfl⟩
  have hb1 : Below w.heap.size w w1 := by rw [hw1]; exact (Below.refl _ _).alloc (Nat.le_refl _) _
  have hk1 : Blk w1 w.heap.size #[.string s, .int .i64 k, .int .i64 z, .slice a n c] 42 := by rw [hw1]; exact Blk.new _ _ _
  have c2 : (w.alloc (.cells #[.string s, .int .i64 k, .int .i64 z, .slice a n c] 42)).cell? ⟨w.heap.size, 2, none⟩ = some (.int .i64 z) := by rw [← hw1]; exact hk1.cell 2 _ rfl
  have c3 : (w.alloc (.cells #[.string s, .int .i64 k, .int .i64 z, .slice a n c] 42)).cell? ⟨w.heap.size, 3, none⟩ = some (.slice a n c) := by rw [← hw1]; exact hk1.cell 3 _ rfl
  have HW1 := hide hw1
  have HB1 := hide hb1
  have HK1 := hide hk1
  have HR := hide (hR.below hb1)
  have HN := hide hN
  have HL := hide (show n ≤ R.length ∧ R.length ≤ n ∧ n ≤ 20 by omega)
  clear hw1 hb1 hk1 hR hN hn hl
  by_cases hz0 : z < 0
  · have HT : Hid (totZ z R = none) := hide (by unfold totZ; rw [if_pos (Or.inl hz0)])
    go_enter Tryz.func20, Tryz.ntmps20
    go_wp2_with fail
    rw [← HW1.out]
    go_ret2
    exact ⟨Or.inr ⟨HT.out, rfl⟩, HB1.out⟩
  by_cases hz1 : 16777216 < z
  · have HT : Hid (totZ z R = none) := hide (by unfold totZ; rw [if_pos (Or.inr hz1)])
    go_enter Tryz.func20, Tryz.ntmps20
    go_wp2_with fail
    rw [← HW1.out]
    go_ret2
    exact ⟨Or.inr ⟨HT.out, rfl⟩, HB1.out⟩
  have HT : Hid (totZ z R = totF z 0 R) := hide (by unfold totZ; rw [if_neg (by omega)])
  go_enter Tryz.func20, Tryz.ntmps20
  go_wp2_with fail
  rw [← HW1.out]
  clear c2 c3
  go_loopw [4, 19] (fun sv i wr => ∃ (j : Nat) (t : Int), j ≤ n ∧ i = .int .i64 (j : Int) ∧ sv = .int .i64 t ∧ totF z 0 R = totF z t (R.drop j) ∧ 0 ≤ t ∧ t ≤ z ∧ Below w1.heap.size w1 wr) (fun _ i _ => n - (intOf i).toNat)
  case atStart => exact ⟨0, 0, by omega, rfl, rfl, rfl, by omega, by omega, Below.refl _ _⟩
  case round =>
    obtain ⟨j, t, hj, rfl, rfl, ht, ht0, ht1, hbr⟩ := hrel
    have HBr := hide hbr
    have HTt := hide ht
    clear hbr ht
    by_cases hlt : j < n
    · have hjR : j < R.length := by have := HL.out; omega
      rcases HR.out.below HBr.out with hE | ⟨b, off, rfl, hblt, hc⟩
      · rw [hE] at hjR; simp at hjR
      obtain ⟨q0, q1⟩ := hc j hjR
      have hk := HK1.out.below HBr.out
      have hnr := near_get HN.out j hjR
      have HD : Hid (totF z t (R.drop j) = if (R.getD j (0, 0)).2 < (R.getD j (0, 0)).1 ∨ z - t < (R.getD j (0, 0)).2 - (R.getD j (0, 0)).1 then none else totF z (t + ((R.getD j (0, 0)).2 - (R.getD j (0, 0)).1)) (R.drop (j + 1))) := hide (by rw [drop_consE R j hjR]; rfl)
      clear hc hjR
      generalize R.getD j (0, 0) = p at *
      obtain ⟨x, y⟩ := p
      dsimp only at q0 q1 HD hnr
      obtain ⟨w2, hw2⟩ : ∃ w2, w2 = wr.alloc (.cells #[.int .i64 x, .int .i64 y] 24) := ⟨_, rfl⟩
      have hb2 : Below wr.heap.size wr w2 := by rw [hw2]; exact (Below.refl _ _).alloc (Nat.le_refl _) _
      have hx2 : Blk w2 wr.heap.size #[.int .i64 x, .int .i64 y] 24 := by rw [hw2]; exact Blk.new _ _ _
      have hk2 := hk.below hb2
      have x0 : (wr.alloc (.cells #[.int .i64 x, .int .i64 y] 24)).cell? ⟨wr.heap.size, 0, none⟩ = some (.int .i64 x) := by rw [← hw2]; exact hx2.cell 0 _ rfl
      have x1 : (wr.alloc (.cells #[.int .i64 x, .int .i64 y] 24)).cell? ⟨wr.heap.size, 1, none⟩ = some (.int .i64 y) := by rw [← hw2]; exact hx2.cell 1 _ rfl
      have k2 : (wr.alloc (.cells #[.int .i64 x, .int .i64 y] 24)).cell? ⟨w.heap.size, 2, none⟩ = some (.int .i64 z) := by rw [← hw2]; exact hk2.cell 2 _ rfl
      have HB2 := hide (HBr.out.trans (hb2.mono HBr.out.size))
      have HW2 := hide hw2
      have hj0 : (0 : Int) ≤ (j : Int) := by omega
      have hj1 : (j : Int) < (n : Int) := by omega
      have hj3 : (n : Int) ≤ 20 := by have := HL.out; omega
      have HLt := hide hlt
      clear hb2 hx2 hk2 hw2 hk hlt
      by_cases hyx : y < x
      · have HT2 : Hid (totZ z R = none) := hide (by rw [HT.out, HTt.out, HD.out, if_pos (Or.inl hyx)])
        go_wp2_with fail
        rw [← HW2.out]
        go_ret2
        exact ⟨Or.inr ⟨HT2.out, rfl⟩, HB1.out.trans (HB2.out.mono HB1.out.size)⟩
      have hu := u64_sub x y ⟨hnr.1, hnr.2.1⟩ hnr.2.2 (by omega)
      have hw3 : IntKind.i64.wrap (z - t) = z - t := by rw [IntKind.wrap_i64]; omega
      have hu2 := u64_pos (z - t) (by omega)
      by_cases hbig : z - t < y - x
      · have HT2 : Hid (totZ z R = none) := hide (by rw [HT.out, HTt.out, HD.out, if_pos (Or.inr hbig)])
        go_wp2_with fail
        rw [← HW2.out]
        go_ret2
        exact ⟨Or.inr ⟨HT2.out, rfl⟩, HB1.out.trans (HB2.out.mono HB1.out.size)⟩
      have HT2 : Hid (totF z 0 R = totF z (t + (y - x)) (R.drop (j + 1))) := hide (by rw [HTt.out, HD.out, if_neg (by omega)])
      have hw4 : IntKind.i64.wrap (y - x) = y - x := by rw [IntKind.wrap_i64]; omega
      have hw5 : IntKind.i64.wrap (t + (y - x)) = t + (y - x) := by rw [IntKind.wrap_i64]; omega
      have hb0 : 0 ≤ t + (y - x) := by omega
      have hb1 : t + (y - x) ≤ z := by omega
      go_wp2_with fail
      rw [← HW2.out]
      go_roundw
      case rel => exact ⟨j + 1, t + (y - x), by have := HLt.out; omega, by go_num, by go_num, HT2.out, by omega, by omega, HB2.out⟩
      case measure => have := HLt.out; simp [intOf]; omega
    · obtain rfl : j = n := by omega
      have HTe : Hid (totZ z R = some t) := hide (by
        rw [HT.out, HTt.out, List.drop_of_length_le (by have := HL.out; omega)]
        rfl)
      go_wp2_with fail
      go_ret2
      exact ⟨Or.inl ⟨t, HTe.out, rfl⟩, HB1.out.trans (HBr.out.mono HB1.out.size)⟩
end Go.Proofs.YtjpdfchdgphdoaaGreatDoor.Oct
