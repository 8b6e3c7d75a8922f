/- Changes and their file as one; Get. -/
import Derived.Test.YtibkhgmmjhlpmaaGreatPTyl
import Derived.Test.YtibkhgmmjhlpmaaGreatPJroJpdJrp
import Derived.Test.YtibkhgmmjhlpmaaGreatPJlaJflJfmJfr
namespace Go.Proofs.YtibkhgmmjhlpmaaGreat.Oct
open Go.RowKit Go.Deep

/-- Changes, their journal and their file. -/
structure Txq (w : World) (T J F : Nat) (X : Nat → Prop) (f : Fs) (A : A3) (k n : Nat) (vb vm va : Value) (B M : Int → List Int) (p q : Nat) (nu : Int) : Prop where
  tx : Txs w T J vb vm va false
  ov : Ovr w vb vm B M
  mm : (vb = .map none ∧ vm = .map none) ∨ ∃ r1 r2, vb = .map (some r1) ∧ vm = .map (some r2) ∧ r1 ≠ r2
  jr : Jrn w J F p q nu
  fl : Fl w X F f A k n
  xT : ¬ X T
  xJ : ¬ X J
  xM : ∀ r, vb = .map (some r) ∨ vm = .map (some r) → ¬ X r
  jt : J ≠ T

theorem Jrn.cell0 {w : World} {J F : Nat} {p q n : Int} (h : Jrn w J F p q n) : w.cell? ⟨J, 0, none⟩ = some (.pointer (some ⟨F, 0, none⟩)) := by
  unfold Jrn at h
  simp [World.cell?, h]

theorem Txq.chg {w w' : World} {T J F : Nat} {X Y : Nat → Prop} {f : Fs} {A : A3} {k n : Nat} {vb vm va : Value} {B M : Int → List Int} {p q : Nat} {nu : Int} (h : Txq w T J F X f A k n vb vm va B M p q nu) (hc : Chg Y w w') (hT : ¬ Y T) (hJ : ¬ Y J) (hM : ∀ r, vb = .map (some r) ∨ vm = .map (some r) → ¬ Y r) (hX : ∀ k, k < w.heap.size → X k → ¬ Y k) : Txq w' T J F X f A k n vb vm va B M p q nu :=
  ⟨(hc.block T h.tx.lt hT).trans h.tx, h.ov.chg hc hM, h.mm, (hc.block J h.jr.lt hJ).trans h.jr, h.fl.chg hc hX, h.xT, h.xJ, h.xM, h.jt⟩

theorem Txq.below {w w' : World} {T J F : Nat} {X : Nat → Prop} {f : Fs} {A : A3} {k n : Nat} {vb vm va : Value} {B M : Int → List Int} {p q : Nat} {nu : Int} (h : Txq w T J F X f A k n vb vm va B M p q nu) (hb : Below w.heap.size w w') : Txq w' T J F X f A k n vb vm va B M p q nu :=
  h.chg (Chg.of_below (X := fun _ => False) hb) (fun h => h) (fun h => h) (fun _ _ h => h) (fun _ _ _ h => h)

/-- What the file's own changes leave of it. -/
theorem Txq.file {w w' : World} {T J F : Nat} {X X' : Nat → Prop} {f f' : Fs} {A A' : A3} {k n k' n' : Nat} {vb vm va : Value} {B M : Int → List Int} {p q : Nat} {nu : Int} (h : Txq w T J F X f A k n vb vm va B M p q nu) (hc : Chg X w w') (hf : Fl w' X' F f' A' k' n') (hx : ∀ i, X' i → X i ∨ w.heap.size ≤ i) : Txq w' T J F X' f' A' k' n' vb vm va B M p q nu :=
  ⟨(hc.block T h.tx.lt h.xT).trans h.tx, h.ov.chg hc h.xM, h.mm, (hc.block J h.jr.lt h.xJ).trans h.jr, hf, fun e => (hx _ e).elim h.xT (fun e => by have := h.tx.lt; omega), fun e => (hx _ e).elim h.xJ (fun e => by have := h.jr.lt; omega),
   fun r hr e => (hx _ e).elim (h.xM r hr) (fun e => by
     have : r < w.heap.size := hr.elim (fun e => (h.ov.b.lt r e).1) (fun e => (h.ov.m.lt r e).1)
     omega), h.jt⟩

theorem none_tx (w : World) (T J : Nat) (vb vm va : Value) (d : Bool) (h : Txs w T J vb vm va d) : Calls Tryz.prog 65 #[.pointer (some ⟨T, 0, none⟩)] w fun e w' => e = .returned (.bool false) ∧ w' = w := by
  obtain ⟨c0, c1, c2, c3, c4⟩ := h.cell
  clear h
  go_enter Tryz.func65, Tryz.ntmps65
  go_wp2_with fail
  go_ret
  exact ⟨rfl, rfl⟩

theorem open_tx (w : World) (T J : Nat) (vb vm va : Value) (h : Txs w T J vb vm va false) : Calls Tryz.prog 39 #[.pointer (some ⟨T, 0, none⟩)] w fun e w' => e = .returned (.int .i64 0) ∧ w' = w := by
  have HN := hide (none_tx w T J vb vm va false h)
  obtain ⟨c0, c1, c2, c3, c4⟩ := h.cell
  clear h
  go_enter Tryz.func39, Tryz.ntmps39
  go_wp2_with fail
  refine HN.out.mono ?_
  rintro e w' ⟨rfl, h2⟩
  subst h2
  go_wp2_with fail
  go_ret
  exact ⟨rfl, rfl⟩

theorem outside_no (w : World) (t n : Nat) (h : t + n ≤ 4194304) : Calls Tryz.prog 63 #[.int .i64 t, .int .i64 n] w fun e w' => e = .returned (.bool false) ∧ w' = w := by
  have h1 : decide ((t : Int) < 0) = false := by simp
  have h2 : decide ((n : Int) < 0) = false := by simp
  have h3 : decide ((4194304 : Int) - (t : Int) < (n : Int)) = false := by simp; omega
  go_enter Tryz.func63, Tryz.ntmps63
  go_wp2_with fail
  go_ret
  exact ⟨by first | rfl | simp [h3], rfl⟩

/-- A byte of a file as it becomes; beyond its end 0. -/
def seeT (S : List Int) (B M : Int → List Int) (p : Nat) : Int := valT B M p (S.getD p 0)

/-- How many operations a Get takes. -/
def rdc (S : List Int) (t m : Nat) : Nat := if 0 < m ∧ t < S.length then 1 else 0

set_option maxRecDepth 100000 in
set_option maxHeartbeats 8000000 in
theorem get_q (w : World) (T J F : Nat) (X : Nat → Prop) (f : Fs) (A : A3) (k n : Nat) (vb vm va : Value) (B M : Int → List Int) (p q : Nat) (nu : Int) (h : Txq w T J F X f A k n vb vm va B M p q nu) (hn : n ≤ 900000) (t m : Nat) (htn : t + m ≤ 4194304) :
    Calls Tryz.prog 47 #[.pointer (some ⟨T, 0, none⟩), .int .i64 t, .int .i64 m] w fun e w' => (∃ f', Txq w' T J F X f' A (k - rdc A.S t m) (n + 1) vb vm va B M p q nu) ∧ Chg X w w' ∧
      ((rdc A.S t m ≤ k ∧ ∃ v l, e = .returned (.tuple #[v, .int .i64 0]) ∧ Own w' w.heap.size v l ∧ l.length = m ∧ ∀ i, i < m → l.getD i 0 = seeT A.S B M (t + i)) ∨ (¬ rdc A.S t m ≤ k ∧ e = .returned (.tuple #[.slice none 0 0, .int .i64 5]))) := by
  have HH := hide h
  have HNo := hide (none_tx w T J vb vm _ false h.tx)
  have HOu := hide (outside_no w t m htn)
  have hmk := run_make_bytes w m (by omega)
  have HOm := hide (Own.made w m (by unfold maxLen; omega))
  have hb1 : Below w.heap.size w (w.alloc (.cells (madeCells #[.int .u8 0] m) 5)) := (Below.refl _ _).alloc (Nat.le_refl _) _
  have h1 := h.below hb1
  have HH1 := hide h1
  have HB1 := hide hb1
  have HLn := hide (len_fl _ X F f A k n h1.fl)
  obtain ⟨c0, c1, c2, c3, c4⟩ := h1.tx.cell
  have cJ := h1.jr.cell0
  have hTl := h.tx.lt
  have hSl := h.fl.s
  obtain ⟨w1, hw1⟩ : ∃ w1, w1 = w.alloc (.cells (madeCells #[.int .u8 0] m) 5) := ⟨_, rfl⟩
  have hsz1 : w1.heap.size = w.heap.size + 1 := by rw [hw1]; simp
  rw [← hw1] at HOm HH1 HB1 HLn c0 c1 c2 c3 c4 cJ hmk
  clear hw1
  have hXl := h.fl.x
  have HXl := hide hXl
  have HEnd : Hid (∀ (w2 : World) (f' : Fs) (k2 n2 : Nat) (l0 : List Int), Txq w2 T J F X f' A k2 n2 vb vm va B M p q nu → Own w2 w.heap.size (.slice (some ⟨w.heap.size, 0, none⟩) m m) l0 → l0.length = m → (∀ i, i < m → l0.getD i 0 = A.S.getD (t + i) 0) → Chg X w w2 → Calls Tryz.prog 80 #[.pointer (some ⟨T, 0, none⟩), .int .i64 t, .slice (some ⟨w.heap.size, 0, none⟩) m m] w2 fun e w' => e = .returned (.tuple #[]) ∧ ∃ l, Own w' w.heap.size (.slice (some ⟨w.heap.size, 0, none⟩) m m) l ∧ l.length = m ∧ (∀ i, i < m → l.getD i 0 = seeT A.S B M (t + i)) ∧ Txq w' T J F X f' A k2 n2 vb vm va B M p q nu ∧ Chg X w w') := hide (by
    intro w2 f' k2 n2 l0 hst ho hl hv hc
    refine (change_any w2 T J vb vm _ false B M hst.tx hst.ov w.heap.size w.heap.size m m l0 ho hl.symm t htn (by omega)).mono ?_
    rintro e w3 ⟨rfl, ⟨l', ho', hl', hv'⟩, hc'⟩
    refine ⟨rfl, l', ho', hl', fun i hi => ?_, hst.chg hc' (by omega) ?_ ?_ ?_, hc.andThen hc' (fun i hi e => by omega)⟩
    · rw [hv' i hi, hv i hi]
      rfl
    · have := HH.out.jr.lt
      omega
    · rintro r hr
      have : r < w.heap.size := hr.elim (fun e => (HH.out.ov.b.lt r e).1) (fun e => (HH.out.ov.m.lt r e).1)
      omega
    · intro k _ hk
      have := HXl.out k hk
      omega)
  clear h h1 hb1 hXl
  go_enter Tryz.func47, Tryz.ntmps47
  go_wp2_with fail
  refine HNo.out.mono ?_
  rintro e9 w9 ⟨rfl, h9⟩
  subst h9
  go_wp2_with fail
  refine HOu.out.mono ?_
  rintro e9 w9 ⟨rfl, h9⟩
  subst h9
  go_wp2_with fail
  refine HLn.out.mono ?_
  rintro e9 w10 ⟨rfl, h10⟩
  subst h10
  have hJ := HH1.out.jr.lt
  have hTl1 := HH1.out.tx.lt
  by_cases hin : 0 < m ∧ t < A.S.length
  · have Hrd : Hid (rdc A.S t m = 1) := hide (if_pos hin)
    obtain ⟨u, hu⟩ : ∃ u, u = min m (A.S.length - t) := ⟨_, rfl⟩
    have HR := hide (read_fl w10 X F f A k n HH1.out.fl hn t u (by omega) (by omega))
    have hub : 0 < u ∧ u ≤ m ∧ t + u ≤ A.S.length := by omega
    have HM := hide hu
    have HIn := hide hin
    have hsel : ((A.S.length : Int) - (t : Int) < (m : Int) ∧ (A.S.length : Int) - (t : Int) = (u : Int)) ∨ (¬ (A.S.length : Int) - (t : Int) < (m : Int) ∧ m = u) := by omega
    have hu3 : (0 : Int) < (u : Int) := by omega
    clear hu hin
    rcases hsel with ⟨hmn, hm2⟩ | ⟨hmn, hm2⟩
    · rw [hm2] at hmn
      go_wp2_with fail
      refine HR.out.mono ?_
      rintro e9 w11 ⟨⟨f11, hf11, hc11⟩, ⟨hk1, v, rfl, ho11⟩ | ⟨hk0, rfl⟩⟩
      · obtain ⟨a, cap, rfl, hl, _⟩ := ho11.form
        have hseg : ((A.S.drop t).take u).length = u := by simp; omega
        rw [hseg]
        have ht11 : Txq w11 T J F X f11 A (k - 1) (n + 1) vb vm va B M p q nu := HH1.out.file hc11 hf11 (fun i hi => Or.inl hi)
        have hO11 := HOm.out.chg hc11 (fun g hg e => by simp [Value.ownBlock] at hg; have := HXl.out g e; omega)
        have hrl : (List.replicate m (0 : Int)).length = m := List.length_replicate
        obtain ⟨w12, hcp, ho12, hg12⟩ := run_copy_lies (P := Tryz.prog) (dT := 29) (sT := 29) (ty := 3) Tryz.underlying29 size5 w11 w9.heap.size w9.heap.size 0 m m m m cap (some ⟨w9.heap.size, 0, none⟩) a ((A.S.drop t).take u) (List.replicate m 0) hO11 hrl.symm hl (fun _ => rfl) (by omega) (by omega)
        rw [hseg] at hcp
        have hcp2 : (Builtin.copy_ #[29, 29] 3 #[.slice (some ⟨w9.heap.size, 0, none⟩) m m, .slice a u cap]).run Tryz.prog w11 = .ok (.int .i64 (u : Int)) w12 := hcp
        have ht12 : Txq w12 T J F X f11 A (k - 1) (n + 1) vb vm va B M p q nu := ht11.chg (Chg.of_grown hg12) (by simp; omega) (by have := HH.out.jr.lt; simp; omega) (fun r hr e => by
          have : r < w9.heap.size := hr.elim (fun e => (HH.out.ov.b.lt r e).1) (fun e => (HH.out.ov.m.lt r e).1)
          simp at e; omega) (fun k _ hk e => by have := HXl.out k hk; simp at e; omega)
        have hov : (over (List.replicate m 0) 0 ((A.S.drop t).take u)).length = m := by rw [over_length (by omega)]; exact hrl
        have HE := hide (HEnd.out w12 f11 (k - 1) (n + 1) _ ht12 ho12 hov (fun i hi => by
          unfold over
          simp only [List.take_zero, List.nil_append, Nat.zero_add]
          rw [List.getD_eq_getElem?_getD, List.getElem?_append, hseg]
          by_cases him : i < u
          · rw [if_pos him, List.getElem?_take, if_pos him, List.getElem?_drop, List.getD_eq_getElem?_getD]
          · rw [if_neg him, List.getElem?_drop, List.getElem?_replicate, List.getD_eq_getElem?_getD, List.getElem?_eq_none (by have := HM.out; omega)]
            split <;> rfl) (((Chg.of_below HB1.out).trans hc11).andThen (Chg.of_grown hg12) (fun i hi e => by simp at e; omega)))
        have Hk1 := hide hk1
        clear hcp ht11 ht12 ho12 hg12 hO11 hl hf11 hc11 hov hseg hrl ho11 hk1
        go_wp2_with fail
        refine HE.out.mono ?_
        rintro e9 w13 ⟨rfl, l, ho13, hl13, hv13, ht13, hc13⟩
        have HF13 := hide (And.intro ho13 (And.intro hl13 hv13))
        have HT13 := hide ht13
        have HC13 := hide hc13
        clear ho13 hl13 hv13 ht13 hc13
        go_wp2_with fail
        go_ret2
        refine ⟨⟨f11, ?_⟩, HC13.out, Or.inl ⟨by rw [Hrd.out]; exact Hk1.out, _, l, rfl, HF13.out⟩⟩
        rw [Hrd.out]
        exact HT13.out
      · have ht11 : Hid (Txq w11 T J F X f11 A (k - 1) (n + 1) vb vm va B M p q nu) := hide (HH1.out.file hc11 hf11 (fun i hi => Or.inl hi))
        have HC11 : Hid (Chg X w9 w11) := hide ((Chg.of_below HB1.out).trans hc11)
        have Hk0 := hide hk0
        clear hf11 hc11 hk0
        go_wp2_with fail
        go_ret2
        exact ⟨⟨f11, by rw [Hrd.out]; exact ht11.out⟩, HC11.out, Or.inr ⟨by rw [Hrd.out]; have := Hk0.out; omega, rfl⟩⟩
    · subst hm2
      go_wp2_with fail
      refine HR.out.mono ?_
      rintro e9 w11 ⟨⟨f11, hf11, hc11⟩, ⟨hk1, v, rfl, ho11⟩ | ⟨hk0, rfl⟩⟩
      · obtain ⟨a, cap, rfl, hl, _⟩ := ho11.form
        have hseg : ((A.S.drop t).take m).length = m := by simp; omega
        rw [hseg]
        have ht11 : Txq w11 T J F X f11 A (k - 1) (n + 1) vb vm va B M p q nu := HH1.out.file hc11 hf11 (fun i hi => Or.inl hi)
        have hO11 := HOm.out.chg hc11 (fun g hg e => by simp [Value.ownBlock] at hg; have := HXl.out g e; omega)
        have hrl : (List.replicate m (0 : Int)).length = m := List.length_replicate
        obtain ⟨w12, hcp, ho12, hg12⟩ := run_copy_lies (P := Tryz.prog) (dT := 29) (sT := 29) (ty := 3) Tryz.underlying29 size5 w11 w9.heap.size w9.heap.size 0 m m m m cap (some ⟨w9.heap.size, 0, none⟩) a ((A.S.drop t).take m) (List.replicate m 0) hO11 hrl.symm hl (fun _ => rfl) (by omega) (by omega)
        rw [hseg] at hcp
        have hcp2 : (Builtin.copy_ #[29, 29] 3 #[.slice (some ⟨w9.heap.size, 0, none⟩) m m, .slice a m cap]).run Tryz.prog w11 = .ok (.int .i64 (m : Int)) w12 := hcp
        have ht12 : Txq w12 T J F X f11 A (k - 1) (n + 1) vb vm va B M p q nu := ht11.chg (Chg.of_grown hg12) (by simp; omega) (by have := HH.out.jr.lt; simp; omega) (fun r hr e => by
          have : r < w9.heap.size := hr.elim (fun e => (HH.out.ov.b.lt r e).1) (fun e => (HH.out.ov.m.lt r e).1)
          simp at e; omega) (fun k _ hk e => by have := HXl.out k hk; simp at e; omega)
        have hov : (over (List.replicate m 0) 0 ((A.S.drop t).take m)).length = m := by rw [over_length (by omega)]; exact hrl
        have HE := hide (HEnd.out w12 f11 (k - 1) (n + 1) _ ht12 ho12 hov (fun i hi => by
          unfold over
          simp only [List.take_zero, List.nil_append, Nat.zero_add]
          rw [List.getD_eq_getElem?_getD, List.getElem?_append, hseg]
          by_cases him : i < m
          · rw [if_pos him, List.getElem?_take, if_pos him, List.getElem?_drop, List.getD_eq_getElem?_getD]
          · rw [if_neg him, List.getElem?_drop, List.getElem?_replicate, List.getD_eq_getElem?_getD, List.getElem?_eq_none (by have := HM.out; omega)]
            split <;> rfl) (((Chg.of_below HB1.out).trans hc11).andThen (Chg.of_grown hg12) (fun i hi e => by simp at e; omega)))
        have Hk1 := hide hk1
        clear hcp ht11 ht12 ho12 hg12 hO11 hl hf11 hc11 hov hseg hrl ho11 hk1
        go_wp2_with fail
        refine HE.out.mono ?_
        rintro e9 w13 ⟨rfl, l, ho13, hl13, hv13, ht13, hc13⟩
        have HF13 := hide (And.intro ho13 (And.intro hl13 hv13))
        have HT13 := hide ht13
        have HC13 := hide hc13
        clear ho13 hl13 hv13 ht13 hc13
        go_wp2_with fail
        go_ret2
        refine ⟨⟨f11, ?_⟩, HC13.out, Or.inl ⟨by rw [Hrd.out]; exact Hk1.out, _, l, rfl, HF13.out⟩⟩
        rw [Hrd.out]
        exact HT13.out
      · have ht11 : Hid (Txq w11 T J F X f11 A (k - 1) (n + 1) vb vm va B M p q nu) := hide (HH1.out.file hc11 hf11 (fun i hi => Or.inl hi))
        have HC11 : Hid (Chg X w9 w11) := hide ((Chg.of_below HB1.out).trans hc11)
        have Hk0 := hide hk0
        clear hf11 hc11 hk0
        go_wp2_with fail
        go_ret2
        exact ⟨⟨f11, by rw [Hrd.out]; exact ht11.out⟩, HC11.out, Or.inr ⟨by rw [Hrd.out]; have := Hk0.out; omega, rfl⟩⟩
  · have Hrd : Hid (rdc A.S t m = 0) := hide (if_neg hin)
    have hHE := HEnd.out w10 f k n (List.replicate m 0) HH1.out HOm.out List.length_replicate (fun i hi => by
      rw [List.getD_eq_getElem?_getD, List.getElem?_replicate, if_pos hi, List.getD_eq_getElem?_getD, List.getElem?_eq_none (by omega)]
      rfl) (Chg.of_below HB1.out)
    have HE := hide hHE
    clear hHE
    by_cases hmn : (A.S.length : Int) - (t : Int) < (m : Int)
    · have hz : ¬ (0 : Int) < (A.S.length : Int) - (t : Int) := by omega
      clear hin
      go_wp2_with fail
      refine HE.out.mono ?_
      rintro e9 w13 ⟨rfl, l, ho13, hl13, hv13, ht13, hc13⟩
      have HF13 := hide (And.intro ho13 (And.intro hl13 hv13))
      have HT13 := hide ht13
      have HC13 := hide hc13
      clear ho13 hl13 hv13 ht13 hc13
      go_wp2_with fail
      go_ret2
      refine ⟨⟨f, ?_⟩, HC13.out, Or.inl ⟨by rw [Hrd.out]; omega, _, l, rfl, HF13.out⟩⟩
      rw [Hrd.out]
      exact ⟨HT13.out.tx, HT13.out.ov, HT13.out.mm, HT13.out.jr, HT13.out.fl.mono (by omega), HT13.out.xT, HT13.out.xJ, HT13.out.xM, HT13.out.jt⟩
    · have hz : ¬ (0 : Int) < (m : Int) := by omega
      clear hin
      go_wp2_with fail
      refine HE.out.mono ?_
      rintro e9 w13 ⟨rfl, l, ho13, hl13, hv13, ht13, hc13⟩
      have HF13 := hide (And.intro ho13 (And.intro hl13 hv13))
      have HT13 := hide ht13
      have HC13 := hide hc13
      clear ho13 hl13 hv13 ht13 hc13
      go_wp2_with fail
      go_ret2
      refine ⟨⟨f, ?_⟩, HC13.out, Or.inl ⟨by rw [Hrd.out]; omega, _, l, rfl, HF13.out⟩⟩
      rw [Hrd.out]
      exact ⟨HT13.out.tx, HT13.out.ov, HT13.out.mm, HT13.out.jr, HT13.out.fl.mono (by omega), HT13.out.xT, HT13.out.xJ, HT13.out.xM, HT13.out.jt⟩
end Go.Proofs.YtibkhgmmjhlpmaaGreat.Oct
