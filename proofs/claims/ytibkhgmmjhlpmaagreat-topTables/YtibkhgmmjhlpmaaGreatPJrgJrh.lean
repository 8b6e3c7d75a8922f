/- The journal writes: bytes are settled; records are to be done. -/
import Derived.Test.YtibkhgmmjhlpmaaGreatPJlaJflJfmJfr
import Derived.Test.YtibkhgmmjhlpmaaGreatPJre
namespace Go.Proofs.YtibkhgmmjhlpmaaGreat.Oct
open Go.RowKit Go.Deep

theorem Jrn.cells {w : World} {J F : Nat} {p q n : Int} (h : Jrn w J F p q n) : w.cell? ⟨J, 0, none⟩ = some (.pointer (some ⟨F, 0, none⟩)) ∧ w.cell? ⟨J, 1, none⟩ = some (.int .i64 p) ∧ w.cell? ⟨J, 2, none⟩ = some (.int .i64 q) ∧ w.cell? ⟨J, 3, none⟩ = some (.int .u64 n) := by
  unfold Jrn at h
  simp [World.cell?, h]
theorem Jrn.chg {X : Nat → Prop} {w w' : World} {J F : Nat} {p q n : Int} (h : Jrn w J F p q n) (hc : Chg X w w') (hx : ¬ X J) : Jrn w' J F p q n := (hc.block J (Array.getElem?_eq_some_iff.1 h).1 hx).trans h
theorem Jrn.isLt {w : World} {J F : Nat} {p q n : Int} (h : Jrn w J F p q n) : J < w.heap.size := (Array.getElem?_eq_some_iff.1 h).1

theorem none_j (w : World) (J F p q : Nat) (n : Int) (h : Jrn w J F p q n) (hq : 0 < q) : Calls Tryz.prog 67 #[.pointer (some ⟨J, 0, none⟩)] w fun e w' => e = .returned (.bool false) ∧ w' = w := by
  obtain ⟨c0, c1, c2, c3⟩ := h.cells
  have hq0 : ¬ (q : Int) = 0 := by omega
  have hq1 : ((q : Int) == 0) = false := by simp; omega
  clear h
  go_enter Tryz.func67, Tryz.ntmps67
  go_wp2_with fail
  go_ret
  exact ⟨rfl, rfl⟩

theorem body_j (w : World) (J F p q : Nat) (n : Int) (h : Jrn w J F p q n) (hp : p ≤ 4194304) : Calls Tryz.prog 68 #[.pointer (some ⟨J, 0, none⟩)] w fun e w' => e = .returned (.int .i64 ((p : Int) + 512)) ∧ w' = w := by
  obtain ⟨c0, c1, c2, c3⟩ := h.cells
  clear h
  go_enter Tryz.func68, Tryz.ntmps68
  go_wp2_with fail
  go_ret
  exact ⟨rfl, rfl⟩

set_option maxHeartbeats 1000000 in
theorem room_j (w : World) (J F p q : Nat) (n : Int) (h : Jrn w J F p q n) (hp : p + 1024 ≤ q) (hq : q ≤ 4194304) : Calls Tryz.prog 41 #[.pointer (some ⟨J, 0, none⟩)] w fun e w' => e = .returned (.int .i64 ((q : Int) - ((p : Int) + 512))) ∧ Below w.heap.size w w' := by
  have HN := hide (none_j w J F p q n h (by omega))
  have HBd := fun u (hu : Jrn u J F p q n) => hide (body_j u J F p q n hu (by omega))
  obtain ⟨c0, c1, c2, c3⟩ := h.cells
  have HJ := hide h
  clear h
  go_enter Tryz.func41, Tryz.ntmps41
  go_wp2_with fail
  refine HN.out.mono ?_
  rintro e9 w1 ⟨rfl, h1⟩
  rw [h1]
  clear h1 w1
  have HJ := hide (show Jrn w.drew J F p q n from HJ.out)
  have HB := hide (Below.refl w.heap.size w).drew
  have hws : IntKind.i64.wrap ((q : Int) - ((p : Int) + 512)) = (q : Int) - ((p : Int) + 512) := by rw [IntKind.wrap_i64]; omega
  have d2 : w.drew.cell? ⟨J, 2, none⟩ = some (.int .i64 q) := c2
  go_wp2_with fail
  go_region_held3 (fun u => u.cell? ⟨J, 2, none⟩ = some (.int .i64 (q : Int))) (first | go_keep | exact HJ.out.cells.2.2.1) (first
    | (go_at_call 68; refine ((HBd _ HJ.out).out).mono ?_; rintro e9 w2 ⟨rfl, h2⟩; have HJ : Hid (Jrn w2 J F p q n) := hide (by rw [h2]; exact HJ.out); have HB : Hid (Below w.heap.size w w2) := hide (by rw [h2]; exact HB.out); clear h2))
  all_goals
    go_wp2_with fail
    go_ret
    exact ⟨rfl, HB.out⟩

/-- May a record not be written? -/
def barB (p q : Nat) (at_ : Int) (len : Nat) : Bool := decide (at_ < 0 ∨ 4194304 - (len : Int) < at_ ∨ (0 < len ∧ at_ < q ∧ (p : Int) < at_ + len))

set_option maxHeartbeats 4000000 in
set_option maxRecDepth 100000 in
theorem barred_j (w : World) (J F p q : Nat) (n : Int) (h : Jrn w J F p q n) (_ : q ≤ 4194304) (at_ : Int) (hat : -9223372036854775808 ≤ at_ ∧ at_ ≤ 9223372036854775807) (a : Option Addr) (len cap : Nat) (hl : len ≤ maxLen) :
    Calls Tryz.prog 72 #[.pointer (some ⟨J, 0, none⟩), .agg #[.int .i64 at_, .slice a len cap]] w fun e w' => e = .returned (.bool (barB p q at_ len)) ∧ Below w.heap.size w w' := by
  obtain ⟨c0, c1, c2, c3⟩ := (h.below ((Below.refl w.heap.size w).alloc (Nat.le_refl _) (.cells #[.int .i64 at_, .slice a len cap] 125))).cells
  have HB := hide ((Below.refl w.heap.size w).alloc (Nat.le_refl _) (.cells #[.int .i64 at_, .slice a len cap] 125))
  have hbx := Blk.new w #[.int .i64 at_, .slice a len cap] 125
  have x0 := hbx.cell 0 _ rfl
  have x1 := hbx.cell 1 _ rfl
  unfold maxLen at hl
  have hw1 : IntKind.i64.wrap (4194304 - (len : Int)) = 4194304 - (len : Int) := by rw [IntKind.wrap_i64]; omega
  clear h hbx
  by_cases h0 : at_ < 0
  · have e : barB p q at_ len = true := decide_eq_true (Or.inl h0)
    rw [e]
    go_enter Tryz.func72, Tryz.ntmps72
    go_wp2_with fail
    go_ret
    exact ⟨rfl, HB.out⟩
  have hd0 : decide (at_ < 0) = false := by simp; omega
  by_cases h1 : 4194304 - (len : Int) < at_
  · have e : barB p q at_ len = true := decide_eq_true (Or.inr (Or.inl h1))
    have hd1 : decide (4194304 - (len : Int) < at_) = true := by simp; omega
    rw [e]
    go_enter Tryz.func72, Tryz.ntmps72
    go_wp2_with fail
    go_ret
    exact ⟨rfl, HB.out⟩
  have hd1 : decide (4194304 - (len : Int) < at_) = false := by simp; omega
  have e : barB p q at_ len = (decide (0 < len) && decide (at_ < q) && decide ((p : Int) < at_ + len)) := by
    unfold barB
    by_cases g1 : 0 < len
    · by_cases g2 : at_ < q
      · by_cases g3 : (p : Int) < at_ + len
        · simp [g1, g2, g3]
        · simp [g1, g2, g3]; omega
      · simp [g1, g2]; omega
    · simp [g1]; omega
  have HBn := fun k => hide (show Below w.heap.size w ((w.alloc (.cells #[.int .i64 at_, .slice a len cap] 125)).drewN k) from ⟨HB.out.os, HB.out.tape, HB.out.output, HB.out.size, HB.out.block⟩)
  have hws : IntKind.i64.wrap (at_ + (len : Int)) = at_ + (len : Int) := by rw [IntKind.wrap_i64]; omega
  rw [e]
  clear e
  by_cases g1 : 0 < len
  · by_cases g2 : at_ < q
    · have e1 : (decide (0 < len) && decide (at_ < (q : Int)) && decide ((p : Int) < at_ + len)) = decide ((p : Int) < at_ + len) := by simp [g1, g2]
      have d1 : decide ((0 : Int) < (len : Int)) = true := by simp; omega
      have d2 : decide (at_ < (q : Int)) = true := by simp; omega
      rw [e1]
      clear e1
      go_enter Tryz.func72, Tryz.ntmps72
      go_wp2_with fail
      go_quiet (fail)
      go_wp2_with fail
      go_ret
      exact ⟨rfl, (HBn _).out⟩
    · have e1 : (decide (0 < len) && decide (at_ < (q : Int)) && decide ((p : Int) < at_ + len)) = false := by simp [g2]
      have d1 : decide ((0 : Int) < (len : Int)) = true := by simp; omega
      have d2 : decide (at_ < (q : Int)) = false := by simp; omega
      rw [e1]
      clear e1
      go_enter Tryz.func72, Tryz.ntmps72
      go_wp2_with fail
      go_quiet (fail)
      go_wp2_with fail
      go_ret
      exact ⟨rfl, (HBn _).out⟩
  · have e1 : (decide (0 < len) && decide (at_ < (q : Int)) && decide ((p : Int) < at_ + len)) = false := by simp [g1]
    have d1 : decide ((0 : Int) < (len : Int)) = false := by simp; omega
    rw [e1]
    clear e1
    go_enter Tryz.func72, Tryz.ntmps72
    go_wp2_with fail
    go_quiet (fail)
    go_wp2_with fail
    go_ret
    exact ⟨rfl, (HBn _).out⟩

/-- Is one of the first k barred? -/
def anyB (p q : Nat) (R : List JR) : Bool := R.any (fun r => barB p q r.at_ r.b.length)

set_option maxHeartbeats 4000000 in
set_option maxRecDepth 100000 in
theorem index_j (w : World) (J F p q : Nat) (n : Int) (h : Jrn w J F p q n) (hq : q ≤ 4194304) (a : Option Addr) (cap : Nat) (R : List JR) (hR : LiesJ w a R) (hat : ∀ r ∈ R, -9223372036854775808 ≤ r.at_ ∧ r.at_ ≤ 9223372036854775807) (hn : R.length ≤ 1000000) (hl : ∀ r ∈ R, r.b.length ≤ maxLen) :
    Calls Tryz.prog 93 #[.slice a R.length cap, .func (.func 72) #[.pointer (some ⟨J, 0, none⟩)] #[]] w fun e w' => (∃ i : Int, e = .returned (.int .i64 i) ∧ (decide (0 ≤ i) = anyB p q R)) ∧ Below w.heap.size w w' := by
  have HJ := hide h
  have HLn := hide hl
  have HR := hide hR
  have HA := hide hat
  clear h hR hat hl
  go_enter Tryz.func93, Tryz.ntmps93
  go_wp2_with fail
  go_loopw [8] (fun i wr => ∃ (k : Nat), k ≤ R.length ∧ i = .int .i64 (k : Int) ∧ anyB p q (R.take k) = false ∧ Below w.heap.size w wr) (fun i _ => R.length - (intOf i).toNat)
  case atStart => exact ⟨0, by omega, rfl, rfl, Below.refl _ _⟩
  case round =>
    obtain ⟨k, hk, rfl, hno, hbel⟩ := hrel
    have HB := hide hbel
    have HNo := hide hno
    clear hbel hno
    by_cases hlt : k < R.length
    · rcases HR.out with hE | ⟨b, off, rfl, hblt, hc⟩
      · rw [hE] at hlt; simp at hlt
      obtain ⟨q0, q1, q2⟩ := hc k hlt
      have r0 := (HB.out.cell (p := ⟨b, off + k * 2, none⟩) hblt).trans q0
      have r1 := (HB.out.cell (p := ⟨b, off + k * 2 + 1, none⟩) hblt).trans q1
      have hmem : R.getD k JR.z ∈ R := by
        have : R.getD k JR.z = R[k] := by simp [hlt]
        rw [this]
        exact List.getElem_mem _
      have HBa := hide (barred_j wr J F p q n (HJ.out.below HB.out) hq (R.getD k JR.z).at_ (HA.out _ hmem) (R.getD k JR.z).a (R.getD k JR.z).b.length (R.getD k JR.z).cap (HLn.out _ hmem))
      have HSt : Hid (anyB p q (R.take (k + 1)) = barB p q (R.getD k JR.z).at_ (R.getD k JR.z).b.length) := hide (by
        have := HNo.out
        unfold anyB at *
        rw [take_get R k hlt JR.z, List.any_append, this]
        simp)
      have HIn : Hid (barB p q (R.getD k JR.z).at_ (R.getD k JR.z).b.length = true → anyB p q R = true) := hide (fun e => List.any_eq_true.2 ⟨_, hmem, e⟩)
      clear hc q0 q1 q2 hmem
      generalize R.getD k JR.z = r at *
      go_wp2_with fail
      refine HBa.out.mono ?_
      rintro e9 w2 ⟨rfl, hb2⟩
      have HB2 := hide (HB.out.trans (hb2.mono HB.out.size))
      clear hb2
      cases hbr : barB p q r.at_ r.b.length with
      | true =>
        have HY := hide (HIn.out hbr)
        clear hbr
        go_wp2_with fail
        go_ret
        exact ⟨⟨_, rfl, by rw [HY.out]; simp⟩, HB2.out⟩
      | false =>
        rw [hbr] at HSt
        clear hbr
        go_wp2_with fail
        exact ⟨⟨k + 1, by omega, by congr 1 <;> omega, HSt.out, HB2.out⟩, by simp [intOf]; omega⟩
    · obtain rfl : k = R.length := by omega
      rw [List.take_length] at HNo
      go_wp2_with fail
      go_ret
      exact ⟨⟨-1, rfl, by rw [HNo.out]; decide⟩, HB.out⟩

theorem contains_j (w : World) (J F p q : Nat) (n : Int) (h : Jrn w J F p q n) (hq : q ≤ 4194304) (a : Option Addr) (cap : Nat) (R : List JR) (hR : LiesJ w a R) (hat : ∀ r ∈ R, -9223372036854775808 ≤ r.at_ ∧ r.at_ ≤ 9223372036854775807) (hn : R.length ≤ 1000000) (hl : ∀ r ∈ R, r.b.length ≤ maxLen) :
    Calls Tryz.prog 71 #[.slice a R.length cap, .func (.func 72) #[.pointer (some ⟨J, 0, none⟩)] #[]] w fun e w' => e = .returned (.bool (anyB p q R)) ∧ Below w.heap.size w w' := by
  have HI := hide (index_j w J F p q n h hq a cap R hR hat hn hl)
  clear h hR hat hl
  go_enter Tryz.func71, Tryz.ntmps71
  go_wp2_with fail
  refine HI.out.mono ?_
  rintro e9 w2 ⟨⟨i, rfl, hi⟩, hb2⟩
  have HB := hide hb2
  have HI2 := hide hi
  clear hb2 hi
  go_wp2_with fail
  go_ret
  exact ⟨by rw [← HI2.out]; rfl, HB.out⟩
end Go.Proofs.YtibkhgmmjhlpmaaGreat.Oct

namespace Go.Proofs.YtibkhgmmjhlpmaaGreat.Oct
open Go.RowKit Go.Deep

set_option maxHeartbeats 2000000 in
set_option maxRecDepth 100000 in
theorem settle_j (w : World) (J F p q : Nat) (nu : Int) (hJ : Jrn w J F p q nu) (X : Nat → Prop) (f : Fs) (A : A3) (k n : Nat) (h : Fl w X F f A k n) (hXJ : ¬ X J) (t : Nat) (a : Option Addr) (cap : Nat) (b : List Int) (hb : Lies w a b) (hx : b ≠ [] → ∀ x, a = some x → ¬ X x.block) (hp : t + b.length ≤ 4194304) (hn : n + b.length + 1 ≤ 900000) :
    Calls Tryz.prog 75 #[.pointer (some ⟨J, 0, none⟩), .int .i64 t, .slice a b.length cap] w fun e w' => e = .returned (.int .i64 (cod 2 k)) ∧ Ran w w' X F A k n [.wr t b, .fl] := by
  have HW := hide (write_fl w X F f A k n h (by omega) t a cap b hb hx hp)
  have HJ := hide hJ
  have HXJ := hide hXJ
  obtain ⟨c0, c1, c2, c3⟩ := hJ.cells
  clear h hJ hb hx hXJ
  go_enter Tryz.func75, Tryz.ntmps75
  go_wp2_with fail
  refine HW.out.mono ?_
  rintro e9 w1 ⟨rfl, hr1⟩
  by_cases hk : 1 ≤ k
  · rw [cod_ok hk]
    obtain ⟨X1, f1, h1, hx1, hc1⟩ := hr1
    have HJ1 := hide (HJ.out.chg hc1 HXJ.out)
    have HF1 := hide (flush_fl w1 X1 F f1 _ _ _ h1 (by simp [costs, AO.cost]; omega))
    have HM : Hid (∀ w2, Ran w1 w2 X1 F _ _ _ [.fl] → Ran w w2 X F A k n ([.wr t b] ++ [.fl])) := hide (fun w2 h2 => Ran.more h1 hx1 hc1 h2)
    clear c0 c1 c2 c3
    obtain ⟨c0, c1, c2, c3⟩ := HJ1.out.cells
    clear h1 hx1 hc1
    go_wp2_with fail
    refine HF1.out.mono ?_
    rintro e9 w2 ⟨rfl, hr2⟩
    have HR2 := hide (HM.out w2 hr2)
    clear hr2
    have e2 : cod 1 (k - [AO.wr t b].length) = cod 2 k := by
      unfold cod
      simp only [List.length_cons, List.length_nil]
      by_cases h2 : 2 ≤ k
      · rw [if_pos h2, if_pos (by omega)]
      · rw [if_neg h2, if_neg (by omega)]
    rw [e2]
    clear e2
    go_wp2_with fail
    go_ret
    exact ⟨rfl, HR2.out⟩
  · rw [cod_no hk]
    have HR2 := hide (hr1.stop (by simpa using hk) [.fl])
    clear hr1
    go_wp2_with fail
    go_ret
    refine ⟨?_, HR2.out⟩
    rw [cod_no (show ¬ 2 ≤ k by omega)]
    rfl
end Go.Proofs.YtibkhgmmjhlpmaaGreat.Oct
