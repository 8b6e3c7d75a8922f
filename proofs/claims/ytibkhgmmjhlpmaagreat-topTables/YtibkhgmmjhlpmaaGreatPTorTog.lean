/- Get and Put of changes (as Tqg, over Tor). -/
import Derived.Test.YtibkhgmmjhlpmaaGreatPTyg
namespace Go.Proofs.YtibkhgmmjhlpmaaGreat.Oct
open Go.RowKit Go.Deep

theorem Fil.below {w w' : World} {X : Nat → Prop} {F : Nat} {f : Fs} {S T : List Int} {R : List Wr} (h : Fil w X F f S T R) (hb : Below w.heap.size w w') : Fil w' X F f S T R :=
  h.chg (Chg.of_below (X := fun _ => False) hb) (fun _ _ _ h => h)

set_option maxHeartbeats 2000000 in
set_option maxRecDepth 100000 in
theorem read_in (w : World) (X : Nat → Prop) (F : Nat) (f : Fs) (S T : List Int) (R : List Wr) (h : Fil w X F f S T R) (hops : 0 ≤ f.ops ∧ f.ops < 1000000) (hq : f.refuse = 0 ∧ (f.stop = 0 ∨ 1000000 < f.stop)) (hs : S.length ≤ 4194304) (t m : Nat) (hm : 0 < m) (htm : t + m ≤ S.length) :
    Calls Tryz.prog 79 #[.pointer (some ⟨F, 0, none⟩), .int .i64 t, .int .i64 m] w fun e w' => ∃ a cap, e = .returned (.tuple #[.slice a m cap, .int .i64 0]) ∧ Lies w' a ((S.drop t).take m) ∧ (∀ x, a = some x → w.heap.size ≤ x.block) ∧ Fil w' X F { f with ops := f.ops + 1 } S T R ∧ Chg (fun k => k = F) w w' := by
  have HF := hide h
  have hsaid : f.said = 0 := by unfold Fs.said; rw [if_neg (by omega)]
  have hask : f.asked = { f with ops := f.ops + 1 } := by
    unfold Fs.asked
    have : decide (0 < f.stop ∧ f.stop ≤ f.ops + 1) = false := by simp; omega
    rw [this]
    simp
  have HA := hide (ask_file w F f h.at_ (by omega))
  rw [hsaid, hask] at HA
  clear h hask hsaid
  go_enter Tryz.func79, Tryz.ntmps79
  go_wp2_with fail
  refine HA.out.mono ?_
  rintro e w1 ⟨rfl, ha1, hc1⟩
  have hf1 := HF.out.fields hc1 ha1 rfl rfl rfl
  have HF1 := hide hf1
  have HC1 := hide hc1
  have h0 := hf1.at_.cell.1
  obtain ⟨a1, c1, e1, hs1, _⟩ := hf1.seen.sl
  rw [e1] at h0
  have hcl := hs1.le
  have hcm := hs1.max
  unfold maxLen at hcm
  have g4 : wrap64 ((S.length : Int) - (t : Int)) = (S.length : Int) - (t : Int) := by unfold wrap64; omega
  have g5 : wrap64 ((t : Int) + (m : Int)) = ((t + m : Nat) : Int) := by unfold wrap64; omega
  obtain ⟨b, off, rfl, hbl, hcc⟩ : ∃ b off, a1 = some ⟨b, off, none⟩ ∧ b < w1.heap.size ∧ ∀ k, k < S.length → w1.cell? ⟨b, off + k, none⟩ = some (.int .u8 (S.getD k 0)) := by
    rcases hs1.lies with h | h
    · rw [h] at htm; simp at htm; omega
    · exact h
  have hl9 : Lies w1 (some ⟨b, off + t, none⟩) ((S.drop t).take m) := Lies.of_part (Lies.mk hcc) t m
  have hlen : ((S.drop t).take m).length = m := by simp; omega
  have hcl9 := fun c => clone_any w1 (some ⟨b, off + t, none⟩) c ((S.drop t).take m) hl9 (by omega)
  rw [hlen] at hcl9
  have HCl := hide hcl9
  have HLen := hide hlen
  have hct : ¬ c1 = t := by omega
  clear hf1 hc1 ha1 hs1 e1 hcl9 hl9 hcc hlen
  go_wp2_with fail
  refine (HCl.out _).mono ?_
  rintro e w2 ⟨v2, rfl, ho2, hb2⟩
  obtain ⟨a2, c2, rfl, hl2, _, _, _, hp2⟩ := ho2.form
  rw [HLen.out]
  have HL2 := hide hl2
  have HP2 := hide hp2
  have HB2 := hide hb2
  clear ho2 hl2 hp2 hb2
  go_wp2_with fail
  go_ret2
  refine ⟨a2, c2, rfl, HL2.out, fun x hx => ?_, HF1.out.below HB2.out, HC1.out.trans (Chg.of_below HB2.out)⟩
  obtain ⟨g, hg, h1, h2⟩ := HP2.out (by intro e; have := HLen.out; rw [e] at this; simp at this; omega)
  rw [hg] at hx
  cases hx
  exact Nat.le_trans HC1.out.size h1

theorem z5_getQ (i : Nat) : Z5.getD i 0 = 0 := by
  unfold Z5
  rw [List.getD_eq_getElem?_getD, List.getElem?_replicate]
  split <;> rfl

theorem Jrn.cell {w : World} {J F : Nat} {p q n : Int} (h : Jrn w J F p q n) : w.cell? ⟨J, 0, none⟩ = some (.pointer (some ⟨F, 0, none⟩)) := by
  unfold Jrn at h
  simp [World.cell?, h]

/-- A journal with any number. -/
def Jrx (w : World) (J F : Nat) (p q : Int) : Prop := ∃ nu, Jrn w J F p q nu

theorem Jrx.lt {w : World} {J F : Nat} {p q : Int} (h : Jrx w J F p q) : J < w.heap.size := by
  obtain ⟨nu, h⟩ := h
  exact h.lt
theorem Jrx.cell {w : World} {J F : Nat} {p q : Int} (h : Jrx w J F p q) : w.cell? ⟨J, 0, none⟩ = some (.pointer (some ⟨F, 0, none⟩)) := by
  obtain ⟨nu, h⟩ := h
  exact h.cell
theorem Jrx.chg {Y : Nat → Prop} {w w' : World} {J F : Nat} {p q : Int} (h : Jrx w J F p q) (hc : Chg Y w w') (hJ : ¬ Y J) : Jrx w' J F p q := by
  obtain ⟨nu, h⟩ := h
  exact ⟨nu, (hc.block J h.lt hJ).trans h⟩

/-- The changes of a file, and the file: their blocks are apart. -/
structure Tst (w : World) (T J F : Nat) (X : Nat → Prop) (f : Fs) (S : List Int) (vb vm : Value) (B M : Int → List Int) (p q : Int) : Prop where
  tx : Txs w T J vb vm (.slice none 0 0) false
  ov : Ovr w vb vm B M
  mm : (vb = .map none ∧ vm = .map none) ∨ ∃ r1 r2, vb = .map (some r1) ∧ vm = .map (some r2) ∧ r1 ≠ r2
  jr : Jrx w J F p q
  fil : Fil w X F f S S []
  xT : ¬ X T
  xJ : ¬ X J
  xM : ∀ r, vb = .map (some r) ∨ vm = .map (some r) → ¬ X r
  jt : J ≠ T
  fq : f.refuse = 0 ∧ (f.stop = 0 ∨ 1000000 < f.stop)
  fo : 0 ≤ f.ops
  fw : 0 ≤ f.wrote ∧ f.wrote ≤ 100000
  neg : ∀ s : Int, ¬ (0 ≤ s ∧ s < 8192) → M s = Z5
  two : ∀ q, mkT M q = 0 ∨ mkT M q = 2

/-- What changes nothing of it leaves it. -/
theorem Tst.chg {w w' : World} {T J F : Nat} {X Y : Nat → Prop} {f : Fs} {S : List Int} {vb vm : Value} {B M : Int → List Int} {p q : Int} (h : Tst w T J F X f S vb vm B M p q) (hc : Chg Y w w') (hT : ¬ Y T) (hJ : ¬ Y J) (hM : ∀ r, vb = .map (some r) ∨ vm = .map (some r) → ¬ Y r) (hX : ∀ k, k < w.heap.size → X k → ¬ Y k) : Tst w' T J F X f S vb vm B M p q :=
  ⟨(hc.block T h.tx.lt hT).trans h.tx, h.ov.chg hc hM, h.mm, h.jr.chg hc hJ, h.fil.chg hc hX, h.xT, h.xJ, h.xM, h.jt, h.fq, h.fo, h.fw, h.neg, h.two⟩

theorem Tst.below {w w' : World} {T J F : Nat} {X : Nat → Prop} {f : Fs} {S : List Int} {vb vm : Value} {B M : Int → List Int} {p q : Int} (h : Tst w T J F X f S vb vm B M p q) (hb : Below w.heap.size w w') : Tst w' T J F X f S vb vm B M p q :=
  h.chg (Chg.of_below (X := fun _ => False) hb) (fun h => h) (fun h => h) (fun _ _ h => h) (fun _ _ _ h => h)
end Go.Proofs.YtibkhgmmjhlpmaaGreat.Oct

namespace Go.Proofs.YtibkhgmmjhlpmaaGreat.Oct
open Go.RowKit Go.Deep

set_option maxRecDepth 100000 in
set_option maxHeartbeats 8000000 in
theorem get_tx (w : World) (T J F : Nat) (X : Nat → Prop) (f : Fs) (S : List Int) (vb vm : Value) (B M : Int → List Int) (p q : Int) (h : Tst w T J F X f S vb vm B M p q) (hS : S.length ≤ 4194304) (hops : f.ops < 1000000) (hXl : ∀ k, X k → k < w.heap.size) (t n : Nat) (htn : t + n ≤ 4194304) :
    Calls Tryz.prog 47 #[.pointer (some ⟨T, 0, none⟩), .int .i64 t, .int .i64 n] w fun e w' => ∃ v l f', e = .returned (.tuple #[v, .int .i64 0]) ∧ Own w' w.heap.size v l ∧ l.length = n ∧ (∀ i, i < n → l.getD i 0 = seeT S B M (t + i)) ∧ Tst w' T J F X f' S vb vm B M p q ∧ f'.ops ≤ f.ops + 1 ∧ Chg (fun k => k = F) w w' := by
  have HH := hide h
  have HNo := hide (none_tx w T J vb vm _ false h.tx)
  have HOu := hide (outside_no w t n htn)
  have hmk := run_make_bytes w n (by omega)
  have HOm := hide (Own.made w n (by unfold maxLen; omega))
  have hb1 : Below w.heap.size w (w.alloc (.cells (madeCells #[.int .u8 0] n) 5)) := (Below.refl _ _).alloc (Nat.le_refl _) _
  have h1 := h.below hb1
  have HH1 := hide h1
  have HB1 := hide hb1
  have HLn := hide (len_file _ X F f S S [] h1.fil)
  obtain ⟨c0, c1, c2, c3, c4⟩ := h1.tx.cell
  have cJ := h1.jr.cell
  have hTl := h.tx.lt
  obtain ⟨w1, hw1⟩ : ∃ w1, w1 = w.alloc (.cells (madeCells #[.int .u8 0] n) 5) := ⟨_, rfl⟩
  have hsz1 : w1.heap.size = w.heap.size + 1 := by rw [hw1]; simp
  rw [← hw1] at HOm HH1 HB1 HLn c0 c1 c2 c3 c4 cJ hmk
  clear hw1
  have HXl := hide hXl
  have HEnd : Hid (∀ (w2 : World) (f' : Fs) (l0 : List Int), Tst w2 T J F X f' S vb vm B M p q → Own w2 w.heap.size (.slice (some ⟨w.heap.size, 0, none⟩) n n) l0 → l0.length = n → (∀ i, i < n → l0.getD i 0 = S.getD (t + i) 0) → f'.ops ≤ f.ops + 1 → Chg (fun k => k = F) w w2 → Calls Tryz.prog 80 #[.pointer (some ⟨T, 0, none⟩), .int .i64 t, .slice (some ⟨w.heap.size, 0, none⟩) n n] w2 fun e w' => e = .returned (.tuple #[]) ∧ ∃ l f', Own w' w.heap.size (.slice (some ⟨w.heap.size, 0, none⟩) n n) l ∧ l.length = n ∧ (∀ i, i < n → l.getD i 0 = seeT S B M (t + i)) ∧ Tst w' T J F X f' S vb vm B M p q ∧ f'.ops ≤ f.ops + 1 ∧ Chg (fun k => k = F) w w') := hide (by
    intro w2 f' l0 hst ho hl hv hf hc
    refine (change_any w2 T J vb vm _ false B M hst.tx hst.ov w.heap.size w.heap.size n n l0 ho hl.symm t htn (by omega)).mono ?_
    rintro e w3 ⟨rfl, ⟨l', ho', hl', hv'⟩, hc'⟩
    refine ⟨rfl, l', f', ho', hl', fun i hi => ?_, hst.chg hc' (by omega) ?_ ?_ ?_, hf, hc.andThen hc' (fun i hi e => by omega)⟩
    · rw [hv' i hi, hv i hi]
      rfl
    · have := HH.out.jr.lt
      omega
    · rintro r hr
      have : r < w.heap.size := hr.elim (fun e => (HH.out.ov.b.lt r e).1) (fun e => (HH.out.ov.m.lt r e).1)
      omega
    · intro k _ hk
      have := HXl.out k hk
      omega)
  clear h h1 hb1 hXl
  go_enter Tryz.func47, Tryz.ntmps47
  go_wp2_with fail
  refine HNo.out.mono ?_
  rintro e9 w9 ⟨rfl, h9⟩
  subst h9
  go_wp2_with fail
  refine HOu.out.mono ?_
  rintro e9 w9 ⟨rfl, h9⟩
  subst h9
  go_wp2_with fail
  refine HLn.out.mono ?_
  rintro e9 w10 ⟨rfl, h10⟩
  subst h10
  have hJ := HH1.out.jr.lt
  have hTl1 := HH1.out.tx.lt
  by_cases hin : 0 < n ∧ t < S.length
  · obtain ⟨m, hm⟩ : ∃ m, m = min n (S.length - t) := ⟨_, rfl⟩
    have HR := hide (read_in w10 X F f S S [] HH1.out.fil ⟨HH1.out.fo, hops⟩ HH1.out.fq hS t m (by omega) (by omega))
    have hmb : 0 < m ∧ m ≤ n ∧ t + m ≤ S.length := by omega
    have HM := hide hm
    by_cases hmn : (S.length : Int) - (t : Int) < (n : Int)
    · have hm2 : (S.length : Int) - (t : Int) = (m : Int) := by omega
      have hm3 : (0 : Int) < (m : Int) := by omega
      clear hm
      rw [hm2] at hmn
      go_wp2_with fail
      refine HR.out.mono ?_
      rintro e9 w11 ⟨a, cap, rfl, hl, hp, hf, hc⟩
      have hgF : w9.heap.size ≠ F := by have := HH.out.fil.at_.lt; omega
      have hO11 := HOm.out.chg hc (fun g hg e => by simp [Value.ownBlock] at hg; omega)
      have hseg : ((S.drop t).take m).length = m := by simp; omega
      have hrl : (List.replicate n (0 : Int)).length = n := List.length_replicate
      obtain ⟨w12, hcp, ho12, hg12⟩ := run_copy_lies (P := Tryz.prog) (dT := 29) (sT := 29) (ty := 3) Tryz.underlying29 size5 w11 w9.heap.size w9.heap.size 0 n n n n cap (some ⟨w9.heap.size, 0, none⟩) a ((S.drop t).take m) (List.replicate n 0) hO11 hrl.symm hl (fun _ => rfl) (by omega) (by omega)
      rw [hseg] at hcp
      have hcp2 : (Builtin.copy_ #[29, 29] 3 #[.slice (some ⟨w9.heap.size, 0, none⟩) n n, .slice a m cap]).run Tryz.prog w11 = .ok (.int .i64 (m : Int)) w12 := hcp
      have hst11 : Tst w11 T J F X { f with ops := f.ops + 1 } S vb vm B M p q := ⟨(hc.block T hTl1 (fun e => HH1.out.xT (e ▸ HH1.out.fil.xF))).trans HH1.out.tx, HH1.out.ov.chg hc (fun r hr e => HH1.out.xM r hr (e ▸ HH1.out.fil.xF)), HH1.out.mm, HH1.out.jr.chg hc (fun e => HH1.out.xJ (e ▸ HH1.out.fil.xF)), hf, HH1.out.xT, HH1.out.xJ, HH1.out.xM, HH1.out.jt, HH1.out.fq, by have := HH1.out.fo; simp; omega, HH1.out.fw, HH1.out.neg, HH1.out.two⟩
      have hgl := HH.out.tx.lt
      have hst12 : Tst w12 T J F X { f with ops := f.ops + 1 } S vb vm B M p q := hst11.chg (Chg.of_grown hg12) (by simp; omega) (by have := HH.out.jr.lt; simp; omega) (fun r hr e => by
        have : r < w9.heap.size := hr.elim (fun e => (HH.out.ov.b.lt r e).1) (fun e => (HH.out.ov.m.lt r e).1)
        simp at e; omega) (fun k _ hk e => by have := HXl.out k hk; simp at e; omega)
      have hov : (over (List.replicate n 0) 0 ((S.drop t).take m)).length = n := by rw [over_length (by omega)]; exact hrl
      have HE := hide (HEnd.out w12 { f with ops := f.ops + 1 } _ hst12 ho12 hov (fun i hi => by
        unfold over
        simp only [List.take_zero, List.nil_append, Nat.zero_add]
        rw [List.getD_eq_getElem?_getD, List.getElem?_append, hseg]
        by_cases him : i < m
        · rw [if_pos him, List.getElem?_take, if_pos him, List.getElem?_drop, List.getD_eq_getElem?_getD]
        · rw [if_neg him, List.getElem?_drop, List.getElem?_replicate, List.getD_eq_getElem?_getD, List.getElem?_eq_none (by have := HM.out; omega)]
          split <;> rfl) (by simp) (((Chg.of_below HB1.out).trans hc).andThen (Chg.of_grown hg12) (fun i hi e => by simp at e; omega)))
      clear hcp hst11 hst12 ho12 hg12 hO11 hl hp hf hc hov hseg hrl
      go_wp2_with fail
      refine HE.out.mono ?_
      rintro e9 w13 ⟨rfl, l, f', ho13, hl13, hv13, ht13, hf13, hc13⟩
      have HF13 := hide (And.intro ho13 (And.intro hl13 (And.intro hv13 (And.intro ht13 (And.intro hf13 hc13)))))
      clear ho13 hl13 hv13 ht13 hf13 hc13
      go_wp2_with fail
      go_ret2
      exact ⟨_, l, f', rfl, HF13.out⟩
    · have hm2 : m = n := by omega
      subst hm2
      have hm3 : (0 : Int) < (m : Int) := by omega
      clear hm
      go_wp2_with fail
      refine HR.out.mono ?_
      rintro e9 w11 ⟨a, cap, rfl, hl, hp, hf, hc⟩
      have hgF : w9.heap.size ≠ F := by have := HH.out.fil.at_.lt; omega
      have hO11 := HOm.out.chg hc (fun g hg e => by simp [Value.ownBlock] at hg; omega)
      have hseg : ((S.drop t).take m).length = m := by simp; omega
      have hrl : (List.replicate m (0 : Int)).length = m := List.length_replicate
      obtain ⟨w12, hcp, ho12, hg12⟩ := run_copy_lies (P := Tryz.prog) (dT := 29) (sT := 29) (ty := 3) Tryz.underlying29 size5 w11 w9.heap.size w9.heap.size 0 m m m m cap (some ⟨w9.heap.size, 0, none⟩) a ((S.drop t).take m) (List.replicate m 0) hO11 hrl.symm hl (fun _ => rfl) (by omega) (by omega)
      rw [hseg] at hcp
      have hcp2 : (Builtin.copy_ #[29, 29] 3 #[.slice (some ⟨w9.heap.size, 0, none⟩) m m, .slice a m cap]).run Tryz.prog w11 = .ok (.int .i64 (m : Int)) w12 := hcp
      have hst11 : Tst w11 T J F X { f with ops := f.ops + 1 } S vb vm B M p q := ⟨(hc.block T hTl1 (fun e => HH1.out.xT (e ▸ HH1.out.fil.xF))).trans HH1.out.tx, HH1.out.ov.chg hc (fun r hr e => HH1.out.xM r hr (e ▸ HH1.out.fil.xF)), HH1.out.mm, HH1.out.jr.chg hc (fun e => HH1.out.xJ (e ▸ HH1.out.fil.xF)), hf, HH1.out.xT, HH1.out.xJ, HH1.out.xM, HH1.out.jt, HH1.out.fq, by have := HH1.out.fo; simp; omega, HH1.out.fw, HH1.out.neg, HH1.out.two⟩
      have hgl := HH.out.tx.lt
      have hst12 : Tst w12 T J F X { f with ops := f.ops + 1 } S vb vm B M p q := hst11.chg (Chg.of_grown hg12) (by simp; omega) (by have := HH.out.jr.lt; simp; omega) (fun r hr e => by
        have : r < w9.heap.size := hr.elim (fun e => (HH.out.ov.b.lt r e).1) (fun e => (HH.out.ov.m.lt r e).1)
        simp at e; omega) (fun k _ hk e => by have := HXl.out k hk; simp at e; omega)
      have hov : (over (List.replicate m 0) 0 ((S.drop t).take m)).length = m := by rw [over_length (by omega)]; exact hrl
      have HE := hide (HEnd.out w12 { f with ops := f.ops + 1 } _ hst12 ho12 hov (fun i hi => by
        unfold over
        simp only [List.take_zero, List.nil_append, Nat.zero_add]
        rw [List.getD_eq_getElem?_getD, List.getElem?_append, hseg]
        by_cases him : i < m
        · rw [if_pos him, List.getElem?_take, if_pos him, List.getElem?_drop, List.getD_eq_getElem?_getD]
        · rw [if_neg him, List.getElem?_drop, List.getElem?_replicate, List.getD_eq_getElem?_getD, List.getElem?_eq_none (by have := HM.out; omega)]
          split <;> rfl) (by simp) (((Chg.of_below HB1.out).trans hc).andThen (Chg.of_grown hg12) (fun i hi e => by simp at e; omega)))
      clear hcp hst11 hst12 ho12 hg12 hO11 hl hp hf hc hov hseg hrl
      go_wp2_with fail
      refine HE.out.mono ?_
      rintro e9 w13 ⟨rfl, l, f', ho13, hl13, hv13, ht13, hf13, hc13⟩
      have HF13 := hide (And.intro ho13 (And.intro hl13 (And.intro hv13 (And.intro ht13 (And.intro hf13 hc13)))))
      clear ho13 hl13 hv13 ht13 hf13 hc13
      go_wp2_with fail
      go_ret2
      exact ⟨_, l, f', rfl, HF13.out⟩
  · have hHE := HEnd.out w10 f (List.replicate n 0) HH1.out HOm.out List.length_replicate (fun i hi => by
      rw [List.getD_eq_getElem?_getD, List.getElem?_replicate, if_pos hi, List.getD_eq_getElem?_getD, List.getElem?_eq_none (by omega)]
      rfl) (by omega) (Chg.of_below HB1.out)
    have HE := hide hHE
    clear hHE
    by_cases hmn : (S.length : Int) - (t : Int) < (n : Int)
    · have hz : ¬ (0 : Int) < (S.length : Int) - (t : Int) := by omega
      go_wp2_with fail
      refine HE.out.mono ?_
      rintro e9 w13 ⟨rfl, l, f', ho13, hl13, hv13, ht13, hf13, hc13⟩
      have HF13 := hide (And.intro ho13 (And.intro hl13 (And.intro hv13 (And.intro ht13 (And.intro hf13 hc13)))))
      clear ho13 hl13 hv13 ht13 hf13 hc13
      go_wp2_with fail
      go_ret2
      exact ⟨_, l, f', rfl, HF13.out⟩
    · have hz : ¬ (0 : Int) < (n : Int) := by omega
      go_wp2_with fail
      refine HE.out.mono ?_
      rintro e9 w13 ⟨rfl, l, f', ho13, hl13, hv13, ht13, hf13, hc13⟩
      have HF13 := hide (And.intro ho13 (And.intro hl13 (And.intro hv13 (And.intro ht13 (And.intro hf13 hc13)))))
      clear ho13 hl13 hv13 ht13 hf13 hc13
      go_wp2_with fail
      go_ret2
      exact ⟨_, l, f', rfl, HF13.out⟩

set_option maxRecDepth 100000 in
set_option maxHeartbeats 8000000 in
theorem put_tx (w : World) (T J F : Nat) (X : Nat → Prop) (f : Fs) (S : List Int) (vb vm : Value) (B M : Int → List Int) (p q : Int) (h : Tst w T J F X f S vb vm B M p q) (hXl : ∀ k, X k → k < w.heap.size) (a : Option Addr) (cap n : Nat) (pl : List Int) (hn : n = pl.length) (hl : Lies w a pl) (hcap : n ≤ cap ∧ cap ≤ 9223372036854775807)
    (hlT : ∀ x, a = some x → x.block ≠ T ∧ ∀ r, vb = .map (some r) ∨ vm = .map (some r) → x.block ≠ r) (t : Nat) (htn : t + n ≤ 4194304) :
    Calls Tryz.prog 36 #[.pointer (some ⟨T, 0, none⟩), .int .i64 t, .slice a n cap] w fun e w' => e = .returned (.int .i64 0) ∧ (∃ vb' vm' B' M', Tst w' T J F X f S vb' vm' B' M' p q ∧ (∀ x y, valT B' M' x y = if t ≤ x ∧ x < t + n then pl.getD (x - t) 0 else valT B M x y) ∧ ∀ r, vb' = .map (some r) ∨ vm' = .map (some r) → (vb = .map (some r) ∨ vm = .map (some r)) ∨ w.heap.size ≤ r) ∧ Chg (fun k => k = T ∨ vb = .map (some k) ∨ vm = .map (some k)) w w' := by
  have HH := hide h
  have HOp := hide (open_tx w T J vb vm _ h.tx)
  have HOu := hide (outside_no w t n htn)
  have HLy := hide (lay_by 2 (by omega) w T J vb vm _ false B M h.tx h.ov h.mm a cap n pl hn hl hcap (fun _ => hlT) t htn)
  have HXl := hide hXl
  clear h hl hlT hn hXl
  go_enter Tryz.func36, Tryz.ntmps36
  go_wp2_with fail
  refine HOp.out.mono ?_
  rintro e9 w9 ⟨rfl, h9⟩
  subst h9
  go_wp2_with fail
  refine HOu.out.mono ?_
  rintro e9 w9 ⟨rfl, h9⟩
  subst h9
  go_wp2_with fail
  refine HLy.out.mono ?_
  rintro e9 w10 ⟨rfl, ⟨r1, r2, B', M', ht, ho, hr, hrr, hv⟩, hc⟩
  have HRr := hide hrr
  have HT := hide ht
  have HO := hide ho
  have HV := hide hv
  have HC := hide hc
  clear ht ho hv hc hrr
  go_wp2_with fail
  go_ret
  have hnY : ∀ k, k < w9.heap.size → X k → ¬ (k = T ∨ vb = .map (some k) ∨ vm = .map (some k)) := fun k _ hk e => by
    rcases e with rfl | e | e
    · exact HH.out.xT hk
    · exact HH.out.xM k (Or.inl e) hk
    · exact HH.out.xM k (Or.inr e) hk
  have hJn : ¬ (J = T ∨ vb = .map (some J) ∨ vm = .map (some J)) := fun e => by
    obtain ⟨nu9, hj9⟩ := HH.out.jr
    have hj : w9.heap[J]? = _ := hj9
    rcases e with e | e | e
    · exact HH.out.jt e
    · obtain ⟨_, es, c, he⟩ := HH.out.ov.b.lt J e
      rw [he] at hj; cases hj
    · obtain ⟨_, es, c, he⟩ := HH.out.ov.m.lt J e
      rw [he] at hj; cases hj
  have hr12 : ∀ r, (r = r1 ∨ r = r2) → ¬ X r := by
    intro r hrr hx
    rcases HRr.out r hrr with h | h
    · exact HH.out.xM r h hx
    · have := HXl.out r hx
      omega
  refine ⟨rfl, ⟨.map (some r1), .map (some r2), B', M', ⟨HT.out, HO.out, Or.inr ⟨r1, r2, rfl, rfl, hr⟩, HH.out.jr.chg HC.out hJn, HH.out.fil.chg HC.out hnY, HH.out.xT, HH.out.xJ, fun r e => hr12 r (by simpa [eq_comm] using e), HH.out.jt, HH.out.fq, HH.out.fo, HH.out.fw, fun s hs => (HV.out.2.2 s hs).trans (HH.out.neg s hs), fun z => by
    rw [HV.out.2.1 z]
    have := HH.out.two z
    split <;> omega⟩, HV.out.1, fun r e => HRr.out r (by simpa [eq_comm] using e)⟩, HC.out⟩

/-- The changes as a Commit takes them, where the file is to stop behind k operations. -/
theorem Tst.txk {w w' : World} {T J F : Nat} {X : Nat → Prop} {f f' : Fs} {S : List Int} {vb vm : Value} {B M : Int → List Int} {p q : Nat} {k n : Nat} (h : Tst w T J F X f S vb vm B M p q) (hc : Chg X w w') (hf : Fl w' X F f' ⟨S, S, []⟩ k n) : ∃ nu, Txq w' T J F X f' ⟨S, S, []⟩ k n vb vm (.slice none 0 0) B M p q nu := by
  obtain ⟨nu, hj⟩ := h.jr
  have hF : Chg (fun i => X i) w w' := hc
  exact ⟨nu, (hc.block T h.tx.lt h.xT).trans h.tx, h.ov.chg hc h.xM, h.mm, (hc.block J hj.lt h.xJ).trans hj, hf, h.xT, h.xJ, h.xM, h.jt⟩

theorem Tst.fl {w : World} {T J F : Nat} {X : Nat → Prop} {f : Fs} {S : List Int} {vb vm : Value} {B M : Int → List Int} {p q : Int} (h : Tst w T J F X f S vb vm B M p q) (hXl : ∀ k, X k → k < w.heap.size) (hS : S.length ≤ 4194304) (n : Nat) (hn : f.ops ≤ n) (hn2 : 100000 ≤ n) : ∃ k, Fl w X F f ⟨S, S, []⟩ k n := by
  have hf := h.fq
  have hw := h.fw
  have ho := h.fo
  rcases hf.2 with h0 | h0
  · exact ⟨2000000, ⟨[], h.fil, rfl⟩, hXl, ⟨ho, hn⟩, ⟨hw.1, by omega⟩, hS, hS, by simp, fun d hd => (by cases hd), hf.1, Or.inl ⟨h0, by omega⟩⟩
  · exact ⟨(max (f.stop - 1 - f.ops) 0).toNat, ⟨[], h.fil, rfl⟩, hXl, ⟨ho, hn⟩, ⟨hw.1, by omega⟩, hS, hS, by simp, fun d hd => (by cases hd), hf.1, Or.inr ⟨by omega, by omega⟩⟩

/-- A byte that the changes leave as it is has no mark. -/
theorem out_mk {B M : Int → List Int} {x : Nat} (h : ∀ y, valT B M x y = y) : mkT M x = 0 := by
  have h0 := h 0
  have h1 := h 1
  unfold valT at h0 h1
  unfold mkT
  by_cases e : (M ((x / 512 : Nat) : Int)).getD (x % 512) 0 = 0
  · exact e
  · rw [if_neg e] at h0 h1
    rw [h0] at h1
    cases h1
end Go.Proofs.YtibkhgmmjhlpmaaGreat.Oct
