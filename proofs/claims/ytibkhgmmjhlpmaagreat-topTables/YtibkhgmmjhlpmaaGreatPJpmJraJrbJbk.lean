/- A block that holds one struct; results that lie in one. -/
import Derived.Test.YtibkhgmmjhlpmaaGreatPRdLowWrLst
import Derived.Test.YtibkhgmmjhlpmaaGreatPOnto
import Derived.Test.YtibkhgmmjhlpmaaGreatPAppChgDsk
import Derived.Test.YtibkhgmmjhlpmaaGreatChecked
import Derived.Laws.ResultCell
import Derived.Laws.Rows
namespace Go.Proofs.YtibkhgmmjhlpmaaGreat.Oct
open Go.RowKit

/-- A number's first bytes, the lowest first. -/
def leB (v : Int) : Nat → List Int
  | 0 => []
  | k + 1 => leB v k ++ [v / 2 ^ (8 * k) % 256]

theorem leB_length (v : Int) : ∀ k, (leB v k).length = k
  | 0 => rfl
  | k + 1 => by simp [leB, leB_length v k]

theorem leB_get (v : Int) : ∀ k i, i < k → (leB v k).getD i 0 = v / 2 ^ (8 * i) % 256
  | 0, i, h => by omega
  | k + 1, i, h => by
    rw [leB]
    by_cases he : i < k
    · rw [← leB_get v k i he]
      simp [List.getElem?_append_left, leB_length, he]
    · obtain rfl : i = k := by omega
      simp [leB_length]

theorem leB_byts (v : Int) : ∀ k, Byts (leB v k)
  | 0 => fun i => by simp [leB]
  | k + 1 => by
    rw [leB]
    refine (leB_byts v k).append (fun i => ?_)
    match i with
    | 0 => simp; omega
    | i + 1 => simp

theorem over_snocB (l : List Int) (p : Nat) (m : List Int) (x : Int) (h : p + m.length + 1 ≤ l.length) : over l p (m ++ [x]) = (over l p m).set (p + m.length) x := by
  have e1 : (l.take p).length = p := by simp; omega
  have e2 : l.drop (p + m.length) = l[p + m.length] :: l.drop (p + m.length + 1) := List.drop_eq_getElem_cons (by omega)
  unfold over
  rw [List.set_append_right _ _ (by omega), e1, Nat.add_sub_cancel_left, List.set_append_right _ _ (by omega), Nat.sub_self, e2]
  simp [Nat.add_assoc]

theorem over_leB (l : List Int) (p : Nat) (v : Int) : ∀ n, p + n ≤ l.length → over l p (leB v n) = putN l p v n
  | 0, _ => by simp [over, leB, putN]
  | n + 1, h => by rw [leB, over_snocB l p _ _ (by rw [leB_length]; omega), over_leB l p v n (by omega), leB_length, putN]

/-- Bytes laid at the end of a beginning. -/
theorem over_at (X m Y : List Int) (q : List Int) (h : m.length = q.length) : over (X ++ (m ++ Y)) X.length q = X ++ (q ++ Y) := by
  unfold over
  rw [List.take_left', List.drop_append]
  · congr 2
    have : (X ++ (m ++ Y)).drop (X.length + q.length) = Y := by
      rw [← List.append_assoc, show X.length + q.length = (X ++ m).length by simp [h], List.drop_left']
      rfl
    simp [h]
  · rfl

theorem num_part (X Z Y : List Int) : ∀ n, n ≤ Z.length → num (X ++ (Z ++ Y)) X.length n = num Z 0 n
  | 0, _ => rfl
  | n + 1, h => by
    rw [num, num, num_part X Z Y n (by omega)]
    congr 2
    have : n < Z.length := by omega
    simp [List.getElem?_append_right, List.getElem?_append_left, this]

theorem num_leB (v : Int) (n : Nat) (h0 : 0 ≤ v) (h1 : v < 256 ^ n) : num (leB v n) 0 n = v := by
  rw [num_of (leB v n) 0 v n (fun i hi => by rw [Nat.zero_add]; exact leB_get v n i hi)]
  exact Int.emod_eq_of_lt h0 h1

/-- Records: a place, bytes. -/
abbrev RD := Int × List Int

/-- As bytes. -/
def encR (r : RD) : List Int := leB (IntKind.u64.wrap r.1) 8 ++ (leB r.2.length 4 ++ r.2)
def encD (D : List RD) : List Int := D.flatMap encR
def lenD (D : List RD) : Nat := (D.map (fun r => 12 + r.2.length)).sum

theorem encR_length (r : RD) : (encR r).length = 12 + r.2.length := by simp [encR, leB_length]; omega
theorem encD_length (D : List RD) : (encD D).length = lenD D := by
  induction D with
  | nil => rfl
  | cons r D ih => simp only [encD, List.flatMap_cons, List.length_append, lenD, List.map_cons, List.sum_cons, encR_length] at *; omega

theorem lenD_append (D E : List RD) : lenD (D ++ E) = lenD D + lenD E := by simp [lenD]
theorem encD_append (D E : List RD) : encD (D ++ E) = encD D ++ encD E := by simp [encD]

theorem take_get {α : Type} (D : List α) (k : Nat) (hk : k < D.length) (z : α) : D.take (k + 1) = D.take k ++ [D.getD k z] := by
  rw [List.take_succ_eq_append_getElem hk]
  congr 2
  simp [hk]

theorem lenD_take (D : List RD) (k : Nat) (hk : k < D.length) (z : RD) : lenD (D.take (k + 1)) = lenD (D.take k) + (12 + (D.getD k z).2.length) := by
  rw [take_get D k hk z, lenD_append]
  simp only [lenD, List.map_cons, List.map_nil, List.sum_cons, List.sum_nil]
  omega

theorem encD_take (D : List RD) (k : Nat) (hk : k < D.length) (z : RD) : encD (D.take (k + 1)) = encD (D.take k) ++ encR (D.getD k z) := by
  rw [take_get D k hk z, encD_append]
  simp only [encD, List.flatMap_cons, List.flatMap_nil, List.append_nil]

theorem lenD_mono (D : List RD) (k : Nat) : lenD (D.take k) ≤ lenD D := by
  have : lenD D = lenD (D.take k) + lenD (D.drop k) := by rw [← lenD_append, List.take_append_drop]
  omega

theorem lenD_mem {D : List RD} {r : RD} (h : r ∈ D) : 12 + r.2.length ≤ lenD D := by
  induction D with
  | nil => cases h
  | cons x D ih =>
    have e : lenD (x :: D) = (12 + x.2.length) + lenD D := by simp [lenD]
    rcases List.mem_cons.1 h with rfl | h
    · omega
    · have := ih h; omega

theorem encD_byts {D : List RD} (h : ∀ r ∈ D, Byts r.2) : Byts (encD D) := by
  induction D with
  | nil => intro k; simp [encD]
  | cons r D ih =>
    have : encD (r :: D) = encR r ++ encD D := rfl
    rw [this]
    refine Byts.append ((leB_byts _ _).append ((leB_byts _ _).append (h r (by simp)))) (ih fun x hx => h x (by simp [hx]))

/-- A record behind others, of a row of noughts. -/
theorem enc_step1 (X : List Int) (T : Nat) (v : Int) (h : X.length + 8 ≤ T) : putN (X ++ List.replicate (T - X.length) 0) X.length v 8 = (X ++ leB v 8) ++ List.replicate (T - (X ++ leB v 8).length) 0 := by
  rw [← over_leB _ _ _ _ (by simp; omega)]
  have e : List.replicate (T - X.length) (0 : Int) = List.replicate 8 0 ++ List.replicate (T - X.length - 8) 0 := by rw [List.replicate_append_replicate]; congr 1; omega
  rw [e, over_at X _ _ _ (by simp [leB_length]), List.append_assoc, show T - (X ++ leB v 8).length = T - X.length - 8 by simp [leB_length]; omega]

theorem enc_step2 (X : List Int) (T : Nat) (v : Int) (h : X.length + 4 ≤ T) : putN (X ++ List.replicate (T - X.length) 0) X.length v 4 = (X ++ leB v 4) ++ List.replicate (T - (X ++ leB v 4).length) 0 := by
  rw [← over_leB _ _ _ _ (by simp; omega)]
  have e : List.replicate (T - X.length) (0 : Int) = List.replicate 4 0 ++ List.replicate (T - X.length - 4) 0 := by rw [List.replicate_append_replicate]; congr 1; omega
  rw [e, over_at X _ _ _ (by simp [leB_length]), List.append_assoc, show T - (X ++ leB v 4).length = T - X.length - 4 by simp [leB_length]; omega]

theorem enc_step3 (X q : List Int) (T : Nat) (h : X.length + q.length ≤ T) : over (X ++ List.replicate (T - X.length) 0) X.length q = (X ++ q) ++ List.replicate (T - (X ++ q).length) 0 := by
  have e : List.replicate (T - X.length) (0 : Int) = List.replicate q.length 0 ++ List.replicate (T - X.length - q.length) 0 := by rw [List.replicate_append_replicate]; congr 1; omega
  rw [e, over_at X _ _ _ (by simp), List.append_assoc, show T - (X ++ q).length = T - X.length - q.length by simp; omega]

theorem rep_length (X : List Int) (T : Nat) (h : X.length ≤ T) : (X ++ List.replicate (T - X.length) (0 : Int)).length = T := by simp; omega
end Go.Proofs.YtibkhgmmjhlpmaaGreat.Oct

namespace Go.Proofs.YtibkhgmmjhlpmaaGreat.Oct
open Go.RowKit Go.Deep

/-- A record, with the place of its bytes. -/
structure JR where
  at_ : Int
  a : Option Addr
  cap : Nat
  b : List Int

def JR.z : JR := ⟨0, none, 0, []⟩
def JR.dat (r : JR) : RD := (r.at_, r.b)

/-- Records lie from the address on. -/
def LiesJ (w : World) (a : Option Addr) (R : List JR) : Prop :=
  R = [] ∨ ∃ b off, a = some ⟨b, off, none⟩ ∧ b < w.heap.size ∧ ∀ k, k < R.length → w.cell? ⟨b, off + k * 2, none⟩ = some (.int .i64 (R.getD k JR.z).at_) ∧ w.cell? ⟨b, off + k * 2 + 1, none⟩ = some (.slice (R.getD k JR.z).a (R.getD k JR.z).b.length (R.getD k JR.z).cap) ∧ Sl w (R.getD k JR.z).a (R.getD k JR.z).cap (R.getD k JR.z).b

theorem LiesJ.below {w w' : World} {a : Option Addr} {R : List JR} (h : LiesJ w a R) (hb : Below w.heap.size w w') : LiesJ w' a R := by
  rcases h with rfl | ⟨b, off, rfl, hlt, hc⟩
  · exact Or.inl rfl
  · exact Or.inr ⟨b, off, rfl, Nat.lt_of_lt_of_le hlt hb.size, fun k hk => ⟨(hb.cell (p := ⟨b, off + k * 2, none⟩) hlt).trans (hc k hk).1, (hb.cell (p := ⟨b, off + k * 2 + 1, none⟩) hlt).trans (hc k hk).2.1, (hc k hk).2.2.below hb⟩⟩

theorem JR.dats (R : List JR) (k : Nat) : (R.map JR.dat).getD k (JR.dat JR.z) = (R.getD k JR.z).dat := by
  by_cases hk : k < R.length
  · simp [hk]
  · simp [List.getElem?_eq_none (show R.length ≤ k by omega)]

theorem lenJ_step (R : List JR) (k : Nat) (hk : k < R.length) : lenD ((R.map JR.dat).take (k + 1)) = lenD ((R.map JR.dat).take k) + (12 + (R.getD k JR.z).b.length) := by
  rw [lenD_take _ k (by simpa using hk) (JR.dat JR.z), JR.dats]
  rfl

theorem encJ_step (R : List JR) (k : Nat) (hk : k < R.length) : encD ((R.map JR.dat).take (k + 1)) = encD ((R.map JR.dat).take k) ++ encR (R.getD k JR.z).dat := by
  rw [encD_take _ k (by simpa using hk) (JR.dat JR.z), JR.dats]

theorem box2 (w : World) (t : TypeId) (x y : Value) : (w.alloc (.cells #[x, y] t)).cell? ⟨w.heap.size, 0, none⟩ = some x ∧ (w.alloc (.cells #[x, y] t)).cell? ⟨w.heap.size, 1, none⟩ = some y := by
  have h : (w.alloc (.cells #[x, y] t)).heap[w.heap.size]? = some (.cells #[x, y] t) := heap_alloc_new w _
  simp only [World.cell?, h]
  exact ⟨rfl, rfl⟩

set_option maxRecDepth 100000 in
set_option maxHeartbeats 2000000 in
theorem length_any (a : Option Addr) (cap : Nat) (R : List JR) (w : World) (h : LiesJ w a R) (hn : R.length ≤ 1000000) (hlen : lenD (R.map JR.dat) ≤ 4611686018427387904) :
    Calls Tryz.prog 73 #[.slice a R.length cap] w fun e w' => e = .returned (.int .i64 (lenD (R.map JR.dat))) ∧ Below w.heap.size w w' := by
  have HR := hide h
  have HM := hide (fun k => lenD_mono (R.map JR.dat) k)
  clear h
  go_enter Tryz.func73, Tryz.ntmps73
  go_wp2_with fail
  go_loopw [3, 8] (fun t i wr => ∃ k : Nat, k ≤ R.length ∧ i = .int .i64 (k : Int) ∧ t = .int .i64 (lenD ((R.map JR.dat).take k)) ∧ Below w.heap.size w wr) (fun _ i _ => R.length - (intOf i).toNat)
  case atStart => exact ⟨0, by omega, rfl, rfl, Below.refl _ _⟩
  case round =>
    obtain ⟨k, hk, rfl, rfl, hbel⟩ := hrel
    have HB := hide hbel
    clear hbel
    by_cases hlt : k < R.length
    · rcases HR.out with hE | ⟨b, off, rfl, hblt, hc⟩
      · rw [hE] at hlt; simp at hlt
      obtain ⟨q0, q1, _⟩ := hc k hlt
      have r0 := (HB.out.cell (p := ⟨b, off + k * 2, none⟩) hblt).trans q0
      have r1 := (HB.out.cell (p := ⟨b, off + k * 2 + 1, none⟩) hblt).trans q1
      have HS := hide (lenJ_step R k hlt)
      have h1 := HM.out (k + 1)
      rw [HS.out] at h1
      clear hc q0 q1
      generalize R.getD k JR.z = r at *
      generalize lenD ((R.map JR.dat).take k) = t at *
      generalize lenD ((R.map JR.dat)) = tt at *
      have HB2 := hide (HB.out.alloc HB.out.size (.cells #[.int .i64 r.at_, .slice r.a r.b.length r.cap] 125))
      go_wp2_with fail
      exact ⟨⟨k + 1, by omega, by congr 1 <;> omega, by rw [HS.out]; congr 1 <;> omega, HB2.out⟩, by simp [intOf]; omega⟩
    · obtain rfl : k = R.length := by omega
      have e : (R.map JR.dat).take R.length = R.map JR.dat := by rw [List.take_of_length_le (by simp)]
      rw [e]
      go_wp2_with fail
      go_ret
      exact ⟨rfl, HB.out⟩
end Go.Proofs.YtibkhgmmjhlpmaaGreat.Oct

namespace Go.Proofs.YtibkhgmmjhlpmaaGreat.Oct
open Go.RowKit Go.Deep

theorem encR_eq (r : JR) : encR r.dat = leB (IntKind.u64.wrap r.at_) 8 ++ (leB r.b.length 4 ++ r.b) := rfl

set_option maxRecDepth 100000 in
set_option maxHeartbeats 8000000 in
theorem Encode_any (a : Option Addr) (cap : Nat) (R : List JR) (w : World) (h : LiesJ w a R) (hn : R.length ≤ 1000000) (hlen : lenD (R.map JR.dat) ≤ 1000000) :
    Calls Tryz.prog 74 #[.slice a R.length cap] w fun e w' => ∃ v, e = .returned v ∧ Own w' w.heap.size v (encD (R.map JR.dat)) ∧ Below w.heap.size w w' := by
  have HR := hide h
  have HM := hide (fun k => lenD_mono (R.map JR.dat) k)
  have HL := hide (length_any a cap R w h hn (by omega))
  have HEl := hide (fun k => encD_length ((R.map JR.dat).take k))
  obtain ⟨T, hT⟩ : ∃ T, lenD (R.map JR.dat) = T := ⟨_, rfl⟩
  rw [hT] at HL hlen
  have HT := hide hT
  clear h hT
  go_enter Tryz.func74, Tryz.ntmps74
  go_wp2_with fail
  refine HL.out.mono ?_
  rintro e9 w1 ⟨rfl, hb1⟩
  have hmk := run_make_bytes w1 T (by omega)
  have HO := hide (Own.made w1 T (by unfold maxLen; omega))
  have hbm : Below w1.heap.size w1 (w1.alloc (.cells (madeCells #[.int .u8 0] T) 5)) := (Below.refl _ _).alloc (Nat.le_refl _) _
  have HB := hide (hb1.trans (hbm.mono hb1.size))
  have hs1 := hb1.size
  clear hb1 hbm HL
  go_wp2_with fail
  clear hmk
  have HO0 : Hid (Own (w1.alloc (.cells (madeCells #[.int .u8 0] T) 5)) w.heap.size (.slice (some ⟨w1.heap.size, 0, none⟩) T T) (encD ((R.map JR.dat).take 0) ++ List.replicate (T - (encD ((R.map JR.dat).take 0)).length) 0)) := hide (by simpa [encD] using HO.out.mono hs1)
  clear HO
  generalize w1.alloc (.cells (madeCells #[.int .u8 0] T) 5) = w2 at *
  go_loopw [5, 16] (fun t i wr => ∃ k : Nat, k ≤ R.length ∧ i = .int .i64 (k : Int) ∧ t = .int .i64 (lenD ((R.map JR.dat).take k)) ∧ Own wr w.heap.size (.slice (some ⟨w1.heap.size, 0, none⟩) T T) (encD ((R.map JR.dat).take k) ++ List.replicate (T - (encD ((R.map JR.dat).take k)).length) 0) ∧ Below w.heap.size w wr) (fun _ i _ => R.length - (intOf i).toNat)
  case atStart => exact ⟨0, by omega, rfl, rfl, HO0.out, HB.out⟩
  case round =>
    obtain ⟨k, hk, rfl, rfl, ho, hbel⟩ := hrel
    have HBl := hide hbel
    have HOw := hide ho
    clear hbel ho
    by_cases hlt : k < R.length
    · rcases HR.out with hE | ⟨b, off, rfl, hblt, hc⟩
      · rw [hE] at hlt; simp at hlt
      obtain ⟨q0, q1, q2⟩ := hc k hlt
      have r0 := (HBl.out.cell (p := ⟨b, off + k * 2, none⟩) hblt).trans q0
      have r1 := (HBl.out.cell (p := ⟨b, off + k * 2 + 1, none⟩) hblt).trans q1
      have HQ2 := hide q2
      have HS := hide (lenJ_step R k hlt)
      have HSE := hide (encJ_step R k hlt)
      have h1 := HM.out (k + 1)
      have hXl := HEl.out k
      rw [HS.out, HT.out] at h1
      clear hc q0 q1 q2
      generalize hr : R.getD k JR.z = r at *
      clear hr
      generalize lenD ((R.map JR.dat).take k) = t at *
      generalize encD ((R.map JR.dat).take k) = X at *
      subst hXl
      have HB2 := hide (HBl.out.alloc HBl.out.size (.cells #[.int .i64 r.at_, .slice r.a r.b.length r.cap] 125))
      have HO2 := hide (HOw.out.alloc (.cells #[.int .i64 r.at_, .slice r.a r.b.length r.cap] 125))
      obtain ⟨x0, x1⟩ := box2 wr 125 (.int .i64 r.at_) (.slice r.a r.b.length r.cap)
      have hXT : X.length + 12 + r.b.length ≤ T := by omega
      go_wp2_with fail
      have hsz3 : (wr.alloc (.cells #[.int .i64 r.at_, .slice r.a r.b.length r.cap] 125)).heap.size = wr.heap.size + 1 := by simp
      have hwr1 : w1.heap.size < wr.heap.size := by
        have := HOw.out.lt w1.heap.size rfl
        exact this.2
      generalize wr.alloc (.cells #[.int .i64 r.at_, .slice r.a r.b.length r.cap] 125) = w3 at *
      have hl1 : (X ++ List.replicate (T - X.length) (0 : Int)).length = T := rep_length X T (by omega)
      have HP1 := hide (Put64_yes w.heap.size w1.heap.size T (X ++ List.replicate (T - X.length) 0) X.length (IntKind.u64.wrap r.at_) w3 (by rw [hl1]; unfold maxLen; omega) (by rw [hl1]; omega) (by rw [hl1]; exact HO2.out))
      rw [hl1, enc_step1 X T _ (by omega)] at HP1
      refine HP1.out.mono ?_
      rintro e9 w4 ⟨rfl, ho4, hg4⟩
      have HO4 := hide ho4
      have HB4 := hide (HB2.out.grown hg4 HB2.out.size (by intro j hj; simp at hj; omega))
      have y0 := hg4.cell x0 (by simp; omega)
      have y1 := hg4.cell x1 (by simp; omega)
      clear ho4 hg4 HP1 x0 x1
      have e8 : X.length + 8 = (X ++ leB (IntKind.u64.wrap r.at_) 8).length := by simp [leB_length]
      have HE8 := hide e8
      have HE0 : Hid ((X ++ leB (IntKind.u64.wrap r.at_) 8) ++ leB (r.b.length : Int) 4 = X ++ (leB (IntKind.u64.wrap r.at_) 8 ++ leB (r.b.length : Int) 4)) := hide (List.append_assoc _ _ _)
      generalize X ++ leB (IntKind.u64.wrap r.at_) 8 = X2 at *
      clear e8
      have hu32 : IntKind.u32.wrap (r.b.length : Int) = (r.b.length : Int) := by rw [IntKind.wrap_u32]; omega
      go_wp2_with fail
      have hl2 : (X2 ++ List.replicate (T - X2.length) (0 : Int)).length = T := rep_length X2 T (by have := HE8.out; omega)
      have hx28 : ((X.length : Int) + 8) = ((X2.length : Nat) : Int) := by have := HE8.out; omega
      have HP2 := hide (Put32_yes w.heap.size w1.heap.size T (X2 ++ List.replicate (T - X2.length) 0) X2.length (r.b.length : Int) w4 (by rw [hl2]; unfold maxLen; omega) (by rw [hl2]; have := HE8.out; omega) (by rw [hl2]; exact HO4.out))
      rw [hl2, enc_step2 X2 T _ (by have := HE8.out; omega), ← hx28] at HP2
      refine HP2.out.mono ?_
      rintro e9 w5 ⟨rfl, ho5, hg5⟩
      have HO5 := hide ho5
      have HB5 := hide (HB4.out.grown hg5 HB4.out.size (by intro j hj; simp at hj; omega))
      have z0 := hg5.cell y0 (by simp; omega)
      have z1 := hg5.cell y1 (by simp; omega)
      clear ho5 hg5 HP2 y0 y1 hl2 hx28
      have e12 : X.length + 12 = (X2 ++ leB (r.b.length : Int) 4).length := by have := HE8.out; simp [leB_length]; omega
      have HE12 := hide e12
      have HEr : Hid (X ++ encR r.dat = (X2 ++ leB (r.b.length : Int) 4) ++ r.b) := hide (by
        rw [HE0.out, encR_eq]
        simp only [List.append_assoc])
      generalize X2 ++ leB (r.b.length : Int) 4 = X3 at *
      clear e12 HE0 HE8
      have hrb2 := (HQ2.out.below HB5.out).lies
      have HRB : Hid (Lies w5 r.a r.b) := hide hrb2
      have HLE : Hid (X.length + 12 + r.b.length ≤ (X3 ++ List.replicate (T - X3.length) (0 : Int)).length) := hide (by rw [rep_length X3 T (by have := HE12.out; omega)]; have := HE12.out; omega)
      have HG5 : Hid (∀ w8, w5.drew.grownBy w8 (Value.slice (some ⟨w1.heap.size, 0, none⟩) T T).ownBlock → w8.cell? ⟨wr.heap.size, 1, none⟩ = some (.slice r.a r.b.length r.cap) ∧ Below w.heap.size w w8) := hide (fun w8 h8 => by
        have h9 : w5.drew.grownBy w8 (some w1.heap.size) := h8
        refine ⟨h9.cell (a := ⟨wr.heap.size, 1, none⟩) z1 (by simp; omega), ?_⟩
        exact HB5.out.drew.grown h9 HB5.out.drew.size (by intro j hj; simp at hj; omega))
      have HFin : Hid (over (X3 ++ List.replicate (T - X3.length) 0) (X.length + 12) r.b = encD ((R.map JR.dat).take (k + 1)) ++ List.replicate (T - (encD ((R.map JR.dat).take (k + 1))).length) 0) := hide (by
        rw [HE12.out, enc_step3 X3 r.b T (by have := HE12.out; omega), HSE.out, HEr.out])
      have hw12 : IntKind.i64.wrap ((X.length : Int) + 12) = (X.length : Int) + 12 := by rw [IntKind.wrap_i64]; omega
      have hz1 : w5.drew.cell? ⟨wr.heap.size, 1, none⟩ = some (.slice r.a r.b.length r.cap) := z1
      clear hrb2 z0 z1 hl1
      have hwf : IntKind.i64.wrap (12 + (r.b.length : Int)) = 12 + (r.b.length : Int) := by rw [IntKind.wrap_i64]; omega
      have hwg : IntKind.i64.wrap ((X.length : Int) + (12 + (r.b.length : Int))) = (X.length : Int) + (12 + (r.b.length : Int)) := by rw [IntKind.wrap_i64]; omega
      have hq1 : (0 : Int) ≤ (X.length : Int) + 12 := by omega
      have hq2 : (X.length : Int) + 12 ≤ (T : Int) := by omega
      have hq3 : ((X.length : Int) + 12).toNat = X.length + 12 := by omega
      by_cases hend : T = X.length + 12
      · have hr0 : r.b = [] := List.length_eq_zero_iff.1 (by omega)
        have HR0 := hide hr0
        have HDL : Hid (r.b.length = Nat.min r.b.length 0) := hide (by rw [hr0]; rfl)
        clear hr0
        have HN := hide (show X.length + 12 = T from hend.symm)
        have HZ := hide (show (X.length : Int) + 12 = (T : Int) by omega)
        go_wp2_with fail
        go_region_held3 (fun w' => w'.cell? ⟨wr.heap.size, 1, none⟩ = some (.slice r.a r.b.length r.cap)) (first | go_keep | exact HKC.out.1)
          ((refine step_copy_any (by rfl) _ _ 29 29 (by rfl) Tryz.underlying29 size5 _ _ _ _ _ _ (by rfl) (by rfl) w.heap.size (X.length + 12) _ r.b (X3 ++ List.replicate (T - X3.length) 0) HO5.out.drew HRB.out.drew (fun g hq _ => absurd HR0.out hq) HDL.out HLE.out ?_; intro w8 ho8 hg8; have HKC := hide (HG5.out w8 hg8); have HO8 := hide ho8; clear hg8 ho8))
        all_goals
          rw [HZ.out, HN.out]
          clear hend
          go_wp2_with fail
          exact ⟨⟨k + 1, by omega, by congr 1 <;> omega, by rw [HS.out]; congr 1 <;> omega, by rw [← HFin.out]; exact HO8.out, HKC.out.2⟩, by simp [intOf]; omega⟩
      · have hend2 : ¬ ((T : Int) = (X.length : Int) + 12) := by omega
        have hend3 : ¬ (T = X.length + 12) := by omega
        have HDL : Hid (r.b.length = Nat.min r.b.length (T - (X.length + 12))) := hide (Nat.min_eq_left (by omega)).symm
        go_wp2_with fail
        go_region_held3 (fun w' => w'.cell? ⟨wr.heap.size, 1, none⟩ = some (.slice r.a r.b.length r.cap)) (first | go_keep | exact HKC.out.1)
          ((refine step_copy_any (by rfl) _ _ 29 29 (by rfl) Tryz.underlying29 size5 _ _ _ _ _ _ (by rfl) (by rfl) w.heap.size (X.length + 12) _ r.b (X3 ++ List.replicate (T - X3.length) 0) HO5.out.drew HRB.out.drew (fun g _ h => by simp [Value.ownBlock] at h; subst h; first | rfl | simp [Go.WideShapes.add_plain]) HDL.out HLE.out ?_; intro w8 ho8 hg8; have HKC := hide (HG5.out w8 hg8); have HO8 := hide ho8; clear hg8 ho8))
        all_goals
          go_wp2_with fail
          exact ⟨⟨k + 1, by omega, by congr 1 <;> omega, by rw [HS.out]; congr 1 <;> omega, by rw [← HFin.out]; exact HO8.out, HKC.out.2⟩, by simp [intOf]; omega⟩
    · obtain rfl : k = R.length := by omega
      have e : (R.map JR.dat).take R.length = R.map JR.dat := by rw [List.take_of_length_le (by simp)]
      rw [e] at HOw ⊢
      have e2 : (encD (R.map JR.dat)).length = T := by rw [encD_length, HT.out]
      rw [e2, Nat.sub_self, List.replicate_zero, List.append_nil] at HOw
      clear e e2
      go_wp2_with fail
      go_ret
      exact ⟨_, rfl, HOw.out, HBl.out⟩
end Go.Proofs.YtibkhgmmjhlpmaaGreat.Oct

namespace Go.Proofs.YtibkhgmmjhlpmaaGreat.Oct
open Go.RowKit

/-- A block's cells. -/
def Blk (u : World) (R : Nat) (cs : Array Value) (t : TypeId) : Prop := u.heap[R]? = some (.cells cs t (0, 0))
theorem Blk.lt {u : World} {R : Nat} {cs : Array Value} {t : TypeId} (h : Blk u R cs t) : R < u.heap.size := (Array.getElem?_eq_some_iff.1 h).1
theorem Blk.below {u u' : World} {R : Nat} {cs : Array Value} {t : TypeId} (h : Blk u R cs t) (hb : Below u.heap.size u u') : Blk u' R cs t := (hb.block R h.lt).trans h
theorem Blk.chg {X : Nat → Prop} {u u' : World} {R : Nat} {cs : Array Value} {t : TypeId} (h : Blk u R cs t) (hb : Chg X u u') (hx : ¬ X R) : Blk u' R cs t := (hb.block R h.lt hx).trans h
theorem Blk.drew {u : World} {R : Nat} {cs : Array Value} {t : TypeId} (h : Blk u R cs t) : Blk u.drew R cs t := h
theorem Blk.cell {u : World} {R : Nat} {cs : Array Value} {t : TypeId} (h : Blk u R cs t) (i : Nat) (v : Value) (hv : cs[i]? = some v) : u.cell? ⟨R, i, none⟩ = some v := by
  unfold Blk at h
  simp [World.cell?, h, hv]
theorem Blk.frozen {u : World} {R : Nat} {cs : Array Value} {t : TypeId} (h : Blk u R cs t) (i : Nat) : u.frozen? ⟨R, i, none⟩ = false := by
  unfold Blk at h
  simp [World.frozen?, h]
theorem Blk.set {u : World} {R : Nat} {cs : Array Value} {t : TypeId} (h : Blk u R cs t) (i : Nat) (v : Value) : Blk (u.setCell ⟨R, i, none⟩ v) R (cs.setIfInBounds i v) t := by
  unfold Blk at *
  simp [World.setCell, Array.getElem?_modify, h]
theorem Blk.other {u : World} {R R' : Nat} {cs : Array Value} {t : TypeId} (h : Blk u R cs t) (hne : R ≠ R') (i : Nat) (v : Value) : Blk (u.setCell ⟨R', i, none⟩ v) R cs t := by
  unfold Blk at *
  rw [← h]
  exact Below.heap_setCell _ _ _ _ hne
theorem Blk.new (w : World) (cs : Array Value) (t : TypeId) : Blk (w.alloc (.cells cs t)) w.heap.size cs t := heap_alloc_new w _

/-- A result of a struct in a block, and a value. -/
theorem ret_agg {fn : Func} {p u : Tmp} {ty : TypeId} (hr : fn.results = #[.cell p ty, .tmp u]) (tmps : Array Value) (w : World) (R : Nat) (cs : Array Value) (z : Value)
    (hp : tmps.getD p undef = .pointer (some ⟨R, 0, none⟩)) (hz : tmps.getD u undef = z) (hl : (loadVar ty ⟨R, 0, none⟩).run Tryz.prog w = .ok (.agg cs) w) :
    (results fn tmps).run Tryz.prog w = .ok (.tuple #[.agg cs, z]) w := by
  rw [results_cell_tmp hr, hp, hz]
  simp only [asAddr, Sem.run_pure, Result.andThen_ok]
  rw [hl]
  rfl
end Go.Proofs.YtibkhgmmjhlpmaaGreat.Oct
