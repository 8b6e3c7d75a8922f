/- A file is read within its bytes; the changes of a file, as a whole (as Txr, with what a Commit asks). -/
import Derived.Test.YtiokjlckngkhnaaGreatPTyg
namespace Go.Proofs.YtiokjlckngkhnaaGreat.Oct
open Go.RowKit Go.Deep

theorem Fil.below {w w' : World} {X : Nat → Prop} {F : Nat} {f : Fs} {S T : List Int} {R : List Wr} (h : Fil w X F f S T R) (hb : Below w.heap.size w w') : Fil w' X F f S T R :=
  h.chg (Chg.of_below (X := fun _ => False) hb) (fun _ _ _ h => h)

set_option maxHeartbeats 2000000 in
set_option maxRecDepth 100000 in
theorem read_in (w : World) (X : Nat → Prop) (F : Nat) (f : Fs) (S T : List Int) (R : List Wr) (h : Fil w X F f S T R) (hops : 0 ≤ f.ops ∧ f.ops < 1000000) (hq : f.refuse = 0 ∧ f.stop = 0) (hs : S.length ≤ 4194304) (t m : Nat) (hm : 0 < m) (htm : t + m ≤ S.length) :
    Calls Tryz.prog 66 #[.pointer (some ⟨F, 0, none⟩), .int .i64 t, .int .i64 m] w fun e w' => ∃ a cap, e = .returned (.tuple #[.slice a m cap, .int .i64 0]) ∧ Lies w' a ((S.drop t).take m) ∧ (∀ x, a = some x → w.heap.size ≤ x.block) ∧ Fil w' X F { f with ops := f.ops + 1 } S T R ∧ Chg (fun k => k = F) w w' := by
  have HF := hide h
  have hsaid : f.said = 0 := by unfold Fs.said; rw [if_neg (by omega)]
  have hask : f.asked = { f with ops := f.ops + 1 } := by
    unfold Fs.asked
    have : decide (0 < f.stop ∧ f.stop ≤ f.ops + 1) = false := by simp; omega
    rw [this]
    simp
  have HA := hide (ask_file w F f h.at_ (by omega))
  rw [hsaid, hask] at HA
  clear h hask hsaid
  go_enter Tryz.func66, Tryz.ntmps66
  go_wp2_with fail
  refine HA.out.mono ?_
  rintro e w1 ⟨rfl, ha1, hc1⟩
  have hf1 := HF.out.fields hc1 ha1 rfl rfl rfl
  have HF1 := hide hf1
  have HC1 := hide hc1
  have h0 := hf1.at_.cell.1
  obtain ⟨a1, c1, e1, hs1, _⟩ := hf1.seen.sl
  rw [e1] at h0
  have hcl := hs1.le
  have hcm := hs1.max
  unfold maxLen at hcm
  have g4 : wrap64 ((S.length : Int) - (t : Int)) = (S.length : Int) - (t : Int) := by unfold wrap64; omega
  have g5 : wrap64 ((t : Int) + (m : Int)) = ((t + m : Nat) : Int) := by unfold wrap64; omega
  obtain ⟨b, off, rfl, hbl, hcc⟩ : ∃ b off, a1 = some ⟨b, off, none⟩ ∧ b < w1.heap.size ∧ ∀ k, k < S.length → w1.cell? ⟨b, off + k, none⟩ = some (.int .u8 (S.getD k 0)) := by
    rcases hs1.lies with h | h
    · rw [h] at htm; simp at htm; omega
    · exact h
  have hl9 : Lies w1 (some ⟨b, off + t, none⟩) ((S.drop t).take m) := Lies.of_part (Lies.mk hcc) t m
  have hlen : ((S.drop t).take m).length = m := by simp; omega
  have hcl9 := fun c => clone_any w1 (some ⟨b, off + t, none⟩) c ((S.drop t).take m) hl9 (by omega)
  rw [hlen] at hcl9
  have HCl := hide hcl9
  have HLen := hide hlen
  have hct : ¬ c1 = t := by omega
  clear hf1 hc1 ha1 hs1 e1 hcl9 hl9 hcc hlen
  go_wp2_with fail
  refine (HCl.out _).mono ?_
  rintro e w2 ⟨v2, rfl, ho2, hb2⟩
  obtain ⟨a2, c2, rfl, hl2, _, _, _, hp2⟩ := ho2.form
  rw [HLen.out]
  have HL2 := hide hl2
  have HP2 := hide hp2
  have HB2 := hide hb2
  clear ho2 hl2 hp2 hb2
  go_wp2_with fail
  go_ret2
  refine ⟨a2, c2, rfl, HL2.out, fun x hx => ?_, HF1.out.below HB2.out, HC1.out.trans (Chg.of_below HB2.out)⟩
  obtain ⟨g, hg, h1, h2⟩ := HP2.out (by intro e; have := HLen.out; rw [e] at this; simp at this; omega)
  rw [hg] at hx
  cases hx
  exact Nat.le_trans HC1.out.size h1

theorem z5_getQ (i : Nat) : Z5.getD i 0 = 0 := by
  unfold Z5
  rw [List.getD_eq_getElem?_getD, List.getElem?_replicate]
  split <;> rfl

/-- The changes of a file, and the file: their blocks are apart. -/
structure Tst (w : World) (T J F : Nat) (X : Nat → Prop) (f : Fs) (S : List Int) (vb vm : Value) (B M : Int → List Int) (p q : Int) : Prop where
  tx : Txs w T J vb vm (.slice none 0 0) false
  ov : Ovr w vb vm B M
  mm : (vb = .map none ∧ vm = .map none) ∨ ∃ r1 r2, vb = .map (some r1) ∧ vm = .map (some r2) ∧ r1 ≠ r2
  jr : Jrn w J F p q 0
  fil : Fil w X F f S S []
  xT : ¬ X T
  xJ : ¬ X J
  xM : ∀ r, vb = .map (some r) ∨ vm = .map (some r) → ¬ X r
  jt : J ≠ T
  fq : f.refuse = 0 ∧ f.stop = 0
  fo : 0 ≤ f.ops
  fw : f.wrote = 0
  neg : ∀ s : Int, ¬ (0 ≤ s ∧ s < 8192) → M s = Z5
  two : ∀ q, mkT M q = 0 ∨ mkT M q = 2

theorem Jrn.cell {w : World} {J F : Nat} {p q n : Int} (h : Jrn w J F p q n) : w.cell? ⟨J, 0, none⟩ = some (.pointer (some ⟨F, 0, none⟩)) := by
  unfold Jrn at h
  simp [World.cell?, h]

/-- What changes nothing of it leaves it. -/
theorem Tst.chg {w w' : World} {T J F : Nat} {X Y : Nat → Prop} {f : Fs} {S : List Int} {vb vm : Value} {B M : Int → List Int} {p q : Int} (h : Tst w T J F X f S vb vm B M p q) (hc : Chg Y w w') (hT : ¬ Y T) (hJ : ¬ Y J) (hM : ∀ r, vb = .map (some r) ∨ vm = .map (some r) → ¬ Y r) (hX : ∀ k, k < w.heap.size → X k → ¬ Y k) : Tst w' T J F X f S vb vm B M p q :=
  ⟨(hc.block T h.tx.lt hT).trans h.tx, h.ov.chg hc hM, h.mm, (hc.block J h.jr.lt hJ).trans h.jr, h.fil.chg hc hX, h.xT, h.xJ, h.xM, h.jt, h.fq, h.fo, h.fw, h.neg, h.two⟩

theorem Tst.below {w w' : World} {T J F : Nat} {X : Nat → Prop} {f : Fs} {S : List Int} {vb vm : Value} {B M : Int → List Int} {p q : Int} (h : Tst w T J F X f S vb vm B M p q) (hb : Below w.heap.size w w') : Tst w' T J F X f S vb vm B M p q :=
  h.chg (Chg.of_below (X := fun _ => False) hb) (fun h => h) (fun h => h) (fun _ _ h => h) (fun _ _ _ h => h)
end Go.Proofs.YtiokjlckngkhnaaGreat.Oct
