/- What is pending in a journal. -/
import Derived.Test.YtibkhgmmjhlpmaaGreatPJrjJrkJrl
namespace Go.Proofs.YtibkhgmmjhlpmaaGreat.Oct
open Go.RowKit Go.Deep

/-- A journal's first sector; its body, by the sign. -/
def jFst (S : List Int) (p : Nat) : List Int := (S.drop p).take 512
def jBod (S : List Int) (p : Nat) : List Int := (S.drop (p + 512)).take (num (jFst S p) 16 4).toNat

open Classical in
/-- The records that are to be done. -/
noncomputable def pnd (S : List Int) (p q : Nat) : Option (List RD) :=
  if isSgn (jFst S p) then cntD p q (num (jFst S p) 12 4) (num (jFst S p) 20 4) (jBod S p) else none

open Classical in
/-- How many reads that takes. -/
noncomputable def rdsN (S : List Int) (p : Nat) : Nat := if isSgn (jFst S p) then 2 else 1

theorem drewB {n : Nat} {w w' : World} (hb : Below n w w') (k : Nat) : Below n w (w'.drewN k) := ⟨hb.os, hb.tape, hb.output, hb.size, hb.block⟩

theorem OwnK.mono {w : World} {B B' : Nat} {v : Value} {R : List JR} (h : OwnK w B v R) (hb : B' ≤ B) : OwnK w B' v R :=
  ⟨⟨h.row.1, (h.row.2).imp id (fun ⟨g, cap, cur, h1, h2, h3⟩ => ⟨g, cap, cur, h1, Nat.le_trans hb h2, h3⟩)⟩, fun r hr => ⟨(h.far r hr).1, fun hne => by
    obtain ⟨g, h1, h2, h3⟩ := (h.far r hr).2 hne
    exact ⟨g, h1, Nat.le_trans hb h2, h3⟩⟩⟩

theorem OwnK.chg {X : Nat → Prop} {w w' : World} {B : Nat} {v : Value} {R : List JR} (h : OwnK w B v R) (hc : Chg X w w') (hx : ∀ i, B ≤ i → ¬ X i) : OwnK w' B v R :=
  ⟨ownsRow_chg h.row hc (fun g hg => hx g (World.ownsRow.lt h.row g hg).1), fun r hr => by
    refine ⟨?_, fun hne => ?_⟩
    · have hs := (h.far r hr).1
      refine ⟨hs.le, hs.max, hs.none, ?_⟩
      by_cases hbn : r.b = []
      · rw [hbn]; exact Lies.nil _ _
      · obtain ⟨g, h1, h2, h3, h4⟩ := (h.far r hr).2 hbn
        exact hs.lies.chg hc (fun x hx9 => by rw [h1] at hx9; cases hx9; exact hx g h2)
    · obtain ⟨g, h1, h2, h3, h4⟩ := (h.far r hr).2 hne
      exact ⟨g, h1, h2, Nat.lt_of_lt_of_le h3 hc.size, h4⟩⟩

theorem five0 {u : World} {J F p q G : Nat} {nu : Int} {x0 x1 x2 x3 : Value} (h : Jrn u J F p q nu) (hb : Blk u G #[x0, x1, x2, x3] 133) :
    u.cell? ⟨J, 0, none⟩ = some (.pointer (some ⟨F, 0, none⟩)) ∧ u.cell? ⟨G, 0, none⟩ = some x0 ∧ u.cell? ⟨G, 1, none⟩ = some x1 ∧ u.cell? ⟨G, 2, none⟩ = some x2 ∧ u.cell? ⟨G, 3, none⟩ = some x3 :=
  ⟨h.cells.1, hb.cell 0 _ rfl, hb.cell 1 _ rfl, hb.cell 2 _ rfl, hb.cell 3 _ rfl⟩

theorem two0 {u : World} {J F p q : Nat} {nu : Int} (h : Jrn u J F p q nu) :
    u.cell? ⟨J, 0, none⟩ = some (.pointer (some ⟨F, 0, none⟩)) ∧ u.cell? ⟨J, 1, none⟩ = some (.int .i64 (p : Int)) :=
  ⟨h.cells.1, h.cells.2.1⟩

set_option maxHeartbeats 8000000 in
set_option maxRecDepth 100000 in
theorem pending_j (w : World) (J F p q : Nat) (nu : Int) (hJ : Jrn w J F p q nu) (hp : p + 1024 ≤ q) (X : Nat → Prop) (f : Fs) (A : A3) (k n : Nat) (h : Fl w X F f A k n) (hq : q ≤ A.S.length) (hXJ : ¬ X J) (hby : Byts A.S) (hnn : n ≤ 800000) (hq2 : q - p ≤ 900000)
    (hsg : isSgn (jFst A.S p) → num (jFst A.S p) 16 4 ≤ (q : Int) - ((p : Int) + 512) ∧ num (jFst A.S p) 12 4 ≤ ((q : Int) - ((p : Int) + 512)) / 12) :
    Calls Tryz.prog 55 #[.pointer (some ⟨J, 0, none⟩)] w fun e w' => (∃ nu' f', Fl w' X F f' A (k - rdsN A.S p) (n + 2) ∧ Chg (fun i => X i ∨ i = J) w w' ∧ Jrn w' J F p q nu') ∧
      ((¬ rdsN A.S p ≤ k ∧ e = .returned (.tuple #[.slice none 0 0, .bool false, .int .i64 5])) ∨
       (rdsN A.S p ≤ k ∧ pnd A.S p q = none ∧ e = .returned (.tuple #[.slice none 0 0, .bool false, .int .i64 0])) ∨
       (rdsN A.S p ≤ k ∧ ∃ R v, pnd A.S p q = some (R.map JR.dat) ∧ e = .returned (.tuple #[v, .bool true, .int .i64 0]) ∧ OwnK w' w.heap.size v R)) := by
  have hqs := h.s
  have HNo := hide (none_j w J F p q nu hJ (by omega))
  have HRd1 : 1 ≤ k → ∀ u, Below w.heap.size w u → Hid (Calls Tryz.prog 79 #[.pointer (some ⟨F, 0, none⟩), .int .i64 p, .int .i64 512] u fun e w' => ∃ a c, e = .returned (.tuple #[.slice a 512 c, .int .i64 0]) ∧ Lies w' a (jFst A.S p) ∧ (∃ f', Fl w' X F f' A (k - 1) (n + 1) ∧ Chg X u w')) := fun hk u hu => hide (by
    have := read_fl u X F f A k n (h.below hu) (by omega) p 512 (by omega) (by omega)
    refine this.mono ?_
    rintro e9 w9 ⟨h1, ⟨_, v, rfl, ho⟩ | ⟨h0, _⟩⟩
    · obtain ⟨a, c, rfl, hl, _⟩ := ho.form
      have hl5 : ((A.S.drop p).take 512).length = 512 := by simp; omega
      exact ⟨a, c, by rw [hl5], hl, h1⟩
    · omega)
  have HRd0 : k = 0 → ∀ u, Below w.heap.size w u → Hid (Calls Tryz.prog 79 #[.pointer (some ⟨F, 0, none⟩), .int .i64 p, .int .i64 512] u fun e w' => e = .returned (.tuple #[.slice none 0 0, .int .i64 5]) ∧ (∃ f', Fl w' X F f' A (k - 1) (n + 1) ∧ Chg X u w')) := fun hk u hu => hide (by
    have := read_fl u X F f A k n (h.below hu) (by omega) p 512 (by omega) (by omega)
    refine this.mono ?_
    rintro e9 w9 ⟨h1, ⟨h0, _⟩ | ⟨_, rfl⟩⟩
    · omega
    · exact ⟨rfl, h1⟩)
  have HJ := hide hJ
  have HX := hide hXJ
  have HFl := hide h
  have HBy := hide hby
  have HSg := hide hsg
  have hfl : (jFst A.S p).length = 512 := by unfold jFst; simp; omega
  have HFb : Hid (Byts (jFst A.S p)) := hide ((hby.drop p).take 512)
  have hJd : Jrn w.drew J F p q nu := hJ
  have HJw := hide hJ.isLt
  obtain ⟨d0, d1⟩ := two0 hJd
  clear hJ h hXJ hby hsg hJd
  by_cases hk : 1 ≤ k
  rotate_left
  · have hk0 : k = 0 := by omega
    have HR := HRd0 hk0
    have HNn : Hid (¬ rdsN A.S p ≤ k) := hide (by
      unfold rdsN
      split <;> omega)
    clear HRd1 HRd0
    go_enter Tryz.func55, Tryz.ntmps55
    go_wp2_with fail
    refine HNo.out.mono ?_
    rintro e9 w9 ⟨rfl, h9⟩
    rw [h9]
    clear h9 w9
    have HB0 := hide (Below.refl w.heap.size w).drew
    go_wp2_with fail
    go_region_held3 (fun u => u.cell? ⟨J, 0, none⟩ = some (.pointer (some ⟨F, 0, none⟩)) ∧ u.cell? ⟨J, 1, none⟩ = some (.int .i64 (p : Int))) (first | go_keep | exact HK.out) (first
      | (go_at_call 79; refine ((HR _ HB0.out).out).mono ?_; rintro e9 w1 ⟨rfl, ⟨f1, hf1, hc1⟩⟩; have hJ1 := HJ.out.chg ((Chg.of_below HB0.out).trans hc1) HX.out; have HK := hide (two0 hJ1); have HJ1 := hide hJ1; have HF1 := hide hf1; have HC1 := hide ((Chg.of_below (X := X) HB0.out).trans hc1); clear hf1 hc1 hJ1))
    all_goals
      go_wp2_with fail
      go_ret3
      refine ⟨⟨nu, f1, ?_, HC1.out.mono (fun i _ h => Or.inl h), HJ1.out⟩, Or.inl ⟨HNn.out, rfl⟩⟩
      rw [show k - rdsN A.S p = k - 1 by omega]
      exact HF1.out.mono (by omega)
  have HR := HRd1 hk
  clear HRd1 HRd0
  go_enter Tryz.func55, Tryz.ntmps55
  go_wp2_with fail
  refine HNo.out.mono ?_
  rintro e9 w9 ⟨rfl, h9⟩
  rw [h9]
  clear h9 w9
  have HB0 := hide (Below.refl w.heap.size w).drew
  go_wp2_with fail
  go_region_held3 (fun u => u.cell? ⟨J, 0, none⟩ = some (.pointer (some ⟨F, 0, none⟩)) ∧ u.cell? ⟨J, 1, none⟩ = some (.int .i64 (p : Int))) (first | go_keep | exact HK.out) (first
    | (go_at_call 79; refine ((HR _ HB0.out).out).mono ?_; rintro e9 w1 ⟨a1, c1, rfl, hl1, ⟨f1, hf1, hc1⟩⟩; have hJ1 := HJ.out.chg ((Chg.of_below HB0.out).trans hc1) HX.out; have HK := hide (two0 hJ1); have HJ1 := hide hJ1; have HF1 := hide hf1; have HC1 := hide ((Chg.of_below (X := X) HB0.out).trans hc1); have HL1 := hide hl1; clear hl1; clear hf1 hc1 hJ1))
  all_goals
    have HSi := hide (signIn_any a1 c1 (jFst A.S p) w1 hfl HFb.out HL1.out)
    go_wp2_with fail
    refine HSi.out.mono ?_
    rintro e9 w2 ⟨hb2, ⟨hno, rfl⟩ | ⟨hyes, rfl⟩⟩
    · have HNn : Hid (rdsN A.S p = 1 ∧ pnd A.S p q = none) := hide ⟨if_neg hno, if_neg hno⟩
      have HB2 := hide hb2
      have HF3 := hide ((HF1.out.below hb2).below ((Below.refl _ _).alloc (Nat.le_refl _) (.cells #[.int .u64 0, .int .u32 0, .int .u32 0, .int .u32 0] 133)))
      have HB3 := hide (hb2.alloc hb2.size (.cells #[.int .u64 0, .int .u32 0, .int .u32 0, .int .u32 0] 133))
      clear hb2 hno
      go_wp2_with fail
      generalize w2.alloc (.cells #[.int .u64 0, .int .u32 0, .int .u32 0, .int .u32 0] 133) = w3 at *
      go_quiet (fail)
      go_wp2_with fail
      go_ret3
      refine ⟨⟨nu, f1, ?_, (HC1.out.trans (Chg.of_below (drewB HB3.out _))).mono (fun i _ h => Or.inl h), HJ1.out.below (drewB HB3.out _)⟩, Or.inr (Or.inl ⟨by rw [HNn.out.1]; exact hk, HNn.out.2, rfl⟩)⟩
      rw [HNn.out.1]
      exact (HF3.out.below (drewB (Below.refl _ _) _)).mono (by omega)
    · have hsg := HSg.out hyes
      have HRn : Hid (rdsN A.S p = 2) := hide (if_pos hyes)
      have HPn : Hid (pnd A.S p q = cntD p q (num (jFst A.S p) 12 4) (num (jFst A.S p) 20 4) (jBod A.S p)) := hide (if_pos hyes)
      have g3 := num_lt (jFst A.S p) 16 HFb.out 4
      have g2 := num_lt (jFst A.S p) 12 HFb.out 4
      have HBd0 : Hid (jBod A.S p = (A.S.drop (p + 512)).take (num (jFst A.S p) 16 4).toNat) := hide rfl
      generalize num (jFst A.S p) 4 8 = x1 at *
      generalize num (jFst A.S p) 12 4 = x2 at *
      generalize num (jFst A.S p) 16 4 = x3 at *
      generalize num (jFst A.S p) 20 4 = x4 at *
      have g3b : x3 < 4294967296 := by have := g3.2; simpa using this
      have g2b : x2 < 4294967296 := by have := g2.2; simpa using this
      obtain ⟨m, rfl⟩ := Int.eq_ofNat_of_zero_le g3.1
      obtain ⟨c, rfl⟩ := Int.eq_ofNat_of_zero_le g2.1
      obtain ⟨hs1, hs2⟩ := hsg
      rw [Int.toNat_natCast] at HBd0
      have hbx := Blk.new w2 #[.int .u64 x1, .int .u32 (c : Int), .int .u32 (m : Int), .int .u32 x4] 133
      have HB3 := hide (hb2.alloc hb2.size (.cells #[.int .u64 x1, .int .u32 (c : Int), .int .u32 (m : Int), .int .u32 x4] 133))
      have HX3 := hide hbx
      have hs12 := hb2.size
      clear hb2 hyes hbx g3 g2
      go_wp2_with fail
      generalize w2.alloc (.cells #[.int .u64 x1, .int .u32 (c : Int), .int .u32 (m : Int), .int .u32 x4] 133) = w3 at *
      have HJ := hide (show Jrn w3.drew J F p q nu from HJ1.out.below HB3.out.drew)
      have HX0 := HX
      have HX := hide HX3.out.drew
      have HB := hide HB3.out.drew
      have HRo := fun u (hu : Jrn u J F p q nu) => hide (room_j u J F p q nu hu hp (by omega))
      have hwc : IntKind.i64.wrap (c : Int) = c := by rw [IntKind.wrap_i64]; omega
      have hwm : IntKind.i64.wrap (m : Int) = m := by rw [IntKind.wrap_i64]; omega
      have hq9 : ((q : Int) - ((p : Int) + 512)).tdiv 12 = ((q : Int) - ((p : Int) + 512)) / 12 := Int.tdiv_eq_ediv_of_nonneg (by omega)
      have hwq : IntKind.i64.wrap (((q : Int) - ((p : Int) + 512)) / 12) = ((q : Int) - ((p : Int) + 512)) / 12 := by rw [IntKind.wrap_i64]; omega
      have hd1 : decide ((q : Int) - ((p : Int) + 512) < (m : Int)) = false := by simp; omega
      have hd2 : decide (((q : Int) - ((p : Int) + 512)) / 12 < (c : Int)) = false := by simp; omega
      obtain ⟨s0, s1, s2, s3, s4⟩ := six HJ.out HX.out
      go_wp2_with fail
      go_region_held3 (fun u => u.cell? ⟨J, 1, none⟩ = some (.int .i64 (p : Int)) ∧ u.cell? ⟨w2.heap.size, 0, none⟩ = some (.int .u64 x1) ∧ u.cell? ⟨w2.heap.size, 1, none⟩ = some (.int .u32 (c : Int)) ∧ u.cell? ⟨w2.heap.size, 2, none⟩ = some (.int .u32 (m : Int)) ∧ u.cell? ⟨w2.heap.size, 3, none⟩ = some (.int .u32 x4)) (first | go_keep | exact six HJ.out HX.out) (first
        | (go_at_call 41; refine ((HRo _ HJ.out).out).mono ?_; rintro e9 w4 ⟨rfl, hb4⟩; have HJ := hide (HJ.out.below hb4); have HX := hide (HX.out.below hb4); have HB := hide (HB.out.trans (hb4.mono HB.out.size)); clear hb4))
      have HBo := fun u (hu : Jrn u J F p q nu) => hide (body_j u J F p q nu hu (by omega))
      have HXl : Hid (¬ X w2.heap.size) := hide (fun e => by have := HF1.out.x _ e; omega)
      have HXJ := hide HX0.out
      have HJ := hide (show Jrn w4.drew J F p q nu from HJ.out)
      have HX := hide HX.out.drew
      have HB := hide HB.out.drew
      clear s0 s1 s2 s3 s4
      obtain ⟨s0, s1, s2, s3, s4⟩ := five0 HJ.out HX.out
      have HNum := hide (And.intro hq (And.intro hq2 (And.intro hqs (And.intro hs12 (And.intro g3b (And.intro g2b (And.intro hnn (And.intro hp (And.intro hs1 hs2)))))))))
      clear hq hq2 hqs hs12 g3b g2b hnn hp hs1 hs2 hfl
      by_cases hk2 : 2 ≤ k
      rotate_left
      · have HR2 : ∀ u, Below w1.heap.size w1 u → Hid (Calls Tryz.prog 79 #[.pointer (some ⟨F, 0, none⟩), .int .i64 ((p : Int) + 512), .int .i64 m] u fun e w' => e = .returned (.tuple #[.slice none 0 0, .int .i64 5]) ∧ (∃ f', Fl w' X F f' A (k - 1 - 1) (n + 1 + 1) ∧ Chg X u w')) := fun u hu => hide (by
          have hN := HNum.out
          have := read_fl u X F f1 A (k - 1) (n + 1) (HF1.out.below hu) (by omega) (p + 512) m (by omega) (by omega)
          rw [show ((p + 512 : Nat) : Int) = (p : Int) + 512 by omega] at this
          refine this.mono ?_
          rintro e9 w9 ⟨h1, ⟨h0, _⟩ | ⟨_, rfl⟩⟩
          · omega
          · exact ⟨rfl, h1⟩)
        go_wp2_with fail
        go_region_held3 (fun u => u.cell? ⟨J, 0, none⟩ = some (.pointer (some ⟨F, 0, none⟩)) ∧ u.cell? ⟨w2.heap.size, 0, none⟩ = some (.int .u64 x1) ∧ u.cell? ⟨w2.heap.size, 1, none⟩ = some (.int .u32 (c : Int)) ∧ u.cell? ⟨w2.heap.size, 2, none⟩ = some (.int .u32 (m : Int)) ∧ u.cell? ⟨w2.heap.size, 3, none⟩ = some (.int .u32 x4)) (first | go_keep | exact five0 HJ.out HX.out | exact HK.out) (first
          | (go_at_call 68; refine ((HBo _ HJ.out).out).mono ?_; rintro e9 w5 ⟨rfl, h5⟩; have HJ : Hid (Jrn w5 J F p q nu) := hide (by rw [h5]; exact HJ.out); have HX : Hid (Blk w5 w2.heap.size #[.int .u64 x1, .int .u32 (c : Int), .int .u32 (m : Int), .int .u32 x4] 133) := hide (by rw [h5]; exact HX.out); have HB : Hid (Below w1.heap.size w1 w5) := hide (by rw [h5]; exact HB.out); clear h5)
          | (go_at_call 79; refine ((HR2 _ HB.out).out).mono ?_; rintro e9 w6 ⟨rfl, ⟨f6, hf6, hc6⟩⟩; have hJ6 := HJ.out.chg hc6 HXJ.out; have hX6 := HX.out.chg hc6 (fun e => HXl.out e); have HK := hide (five0 hJ6 hX6); have HJ6 := hide hJ6; have HX6 := hide hX6; have HF6 := hide hf6; have HC6 := hide ((Chg.of_below (X := X) HB.out).trans hc6); clear hf6 hc6 hJ6 hX6))
        all_goals
          go_wp2_with fail
          go_ret3
          refine ⟨⟨nu, f6, ?_, (HC1.out.trans HC6.out).mono (fun i _ h => Or.inl h), HJ6.out⟩, Or.inl ⟨by rw [HRn.out]; exact hk2, rfl⟩⟩
          rw [HRn.out, show k - 2 = k - 1 - 1 by omega]
          exact HF6.out.mono (by omega)
      · have HR2 : ∀ u, Below w1.heap.size w1 u → Hid (Calls Tryz.prog 79 #[.pointer (some ⟨F, 0, none⟩), .int .i64 ((p : Int) + 512), .int .i64 m] u fun e w' => ∃ a cc, e = .returned (.tuple #[.slice a m cc, .int .i64 0]) ∧ Sl w' a cc (jBod A.S p) ∧ (∃ f', Fl w' X F f' A (k - 1 - 1) (n + 1 + 1) ∧ Chg X u w')) := fun u hu => hide (by
          have hN := HNum.out
          have := read_fl u X F f1 A (k - 1) (n + 1) (HF1.out.below hu) (by omega) (p + 512) m (by omega) (by omega)
          rw [show ((p + 512 : Nat) : Int) = (p : Int) + 512 by omega] at this
          refine this.mono ?_
          rintro e9 w9 ⟨h1, ⟨_, v, rfl, ho⟩ | ⟨h0, _⟩⟩
          · obtain ⟨a, cc, rfl, hl, _⟩ := ho.sl
            have hl5 : ((A.S.drop (p + 512)).take m).length = m := by simp; omega
            exact ⟨a, cc, by rw [hl5], by rw [HBd0.out]; exact hl, h1⟩
          · omega)
        go_wp2_with fail
        go_region_held3 (fun u => u.cell? ⟨J, 0, none⟩ = some (.pointer (some ⟨F, 0, none⟩)) ∧ u.cell? ⟨w2.heap.size, 0, none⟩ = some (.int .u64 x1) ∧ u.cell? ⟨w2.heap.size, 1, none⟩ = some (.int .u32 (c : Int)) ∧ u.cell? ⟨w2.heap.size, 2, none⟩ = some (.int .u32 (m : Int)) ∧ u.cell? ⟨w2.heap.size, 3, none⟩ = some (.int .u32 x4)) (first | go_keep | exact five0 HJ.out HX.out | exact HK.out) (first
          | (go_at_call 68; refine ((HBo _ HJ.out).out).mono ?_; rintro e9 w5 ⟨rfl, h5⟩; have HJ : Hid (Jrn w5 J F p q nu) := hide (by rw [h5]; exact HJ.out); have HX : Hid (Blk w5 w2.heap.size #[.int .u64 x1, .int .u32 (c : Int), .int .u32 (m : Int), .int .u32 x4] 133) := hide (by rw [h5]; exact HX.out); have HB : Hid (Below w1.heap.size w1 w5) := hide (by rw [h5]; exact HB.out); clear h5)
          | (go_at_call 79; refine ((HR2 _ HB.out).out).mono ?_; rintro e9 w6 ⟨a6, c6, rfl, hl6, ⟨f6, hf6, hc6⟩⟩; have hJ6 := HJ.out.chg hc6 HXJ.out; have hX6 := HX.out.chg hc6 (fun e => HXl.out e); have HK := hide (five0 hJ6 hX6); have HJ6 := hide hJ6; have HX6 := hide hX6; have HF6 := hide hf6; have HC6 := hide ((Chg.of_below (X := X) HB.out).trans hc6); have HL6 := hide hl6; clear hl6; clear hf6 hc6 hJ6 hX6))
        all_goals
          have hbl : (jBod A.S p).length = m := by have hN := HNum.out; rw [HBd0.out]; simp; omega
          have HCt := hide (counting_j w6 J F p q nu HJ6.out (by have hN := HNum.out; omega) x1 c (m : Int) x4 (by have hN := HNum.out; omega) a6 c6 (jBod A.S p) (by have hN := HNum.out; omega) (by rw [HBd0.out]; exact (HBy.out.drop _).take _) HL6.out)
          rw [hbl] at HCt
          clear hbl s0 s1 s2 s3 s4
          obtain ⟨s0, s1, s2, s3, s4⟩ := HK.out
          go_wp2_with fail
          refine HCt.out.mono ?_
          rintro e9 w7 ⟨hb7, ⟨hno, rfl⟩ | ⟨R, v, hyes, rfl, hown⟩⟩
          · have HF7 := hide (HF6.out.below hb7)
            have HJ7 := hide (HJ6.out.below hb7)
            have HC7 := hide ((HC1.out.trans HC6.out).trans (Chg.of_below hb7))
            have HNo := hide (HPn.out.trans hno)
            clear hb7 hno
            go_wp2_with fail
            go_ret3
            refine ⟨⟨nu, f6, ?_, HC7.out.mono (fun i _ h => Or.inl h), HJ7.out⟩, Or.inr (Or.inl ⟨by rw [HRn.out]; exact hk2, HNo.out, rfl⟩)⟩
            rw [HRn.out, show k - 2 = k - 1 - 1 by omega]
            exact HF7.out.mono (by omega)
          · have HYs := hide (HPn.out.trans hyes)
            have hJl := HJ6.out.isLt
            have hs6 : w.heap.size ≤ w6.heap.size := Nat.le_trans HC1.out.size HC6.out.size
            have hJw : J < w.heap.size := by
              have h1 := HNum.out
              exact HJw.out
            have hJ7 := HJ6.out.below hb7
            have hX7 := HX6.out.below hb7
            have hcJ : Chg (fun i => i = J) w7 (w7.setCell ⟨J, 3, none⟩ (.int .u64 x1)) := (Chg.refl _ _).setCell J 3 _ (fun _ => rfl)
            have HOw : Hid (OwnK (w7.setCell ⟨J, 3, none⟩ (.int .u64 x1)) w.heap.size v R) := hide ((hown.mono hs6).chg hcJ (fun i hi e => by omega))
            have HF8 := hide ((HF6.out.below hb7).chg hcJ (fun i _ hi e => HXJ.out (e ▸ hi)))
            have HJ8 := hide (hJ7.num x1)
            have HC8 : Hid (Chg (fun i => X i ∨ i = J) w (w7.setCell ⟨J, 3, none⟩ (.int .u64 x1))) := hide ((((HC1.out.trans HC6.out).trans (Chg.of_below hb7)).mono (fun i _ h => Or.inl h)).trans (hcJ.mono (fun i _ h => Or.inr h)))
            have t0 := hX7.cell 0 _ rfl
            have c3 := hJ7.cells.2.2.2
            have f3 : w7.frozen? ⟨J, 3, none⟩ = false := Blk.frozen (show Blk w7 J _ _ from hJ7) 3
            obtain ⟨av, cv, rfl, _⟩ := hown.form
            clear hb7 hyes hown hJ7 hX7 hcJ
            go_wp2_with fail
            go_ret3
            refine ⟨⟨x1, f6, ?_, HC8.out, HJ8.out⟩, Or.inr (Or.inr ⟨by rw [HRn.out]; exact hk2, R, _, HYs.out, rfl, HOw.out⟩)⟩
            rw [HRn.out, show k - 2 = k - 1 - 1 by omega]
            exact HF8.out.mono (by omega)
end Go.Proofs.YtibkhgmmjhlpmaaGreat.Oct
