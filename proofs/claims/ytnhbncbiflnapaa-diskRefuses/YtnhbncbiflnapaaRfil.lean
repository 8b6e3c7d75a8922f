/- The reference's file: how it lies, and that its operations keep it so. -/
import Derived.Test.YtnhbncbiflnapaaRlay
import Derived.Test.YtnhbncbiflnapaaOpy
namespace Go.Proofs.Ytnhbncbiflnapaa.Oct
open Go.RowKit Go.Deep

structure Rf where
  vs : Value
  vr : Value
  ops : Int
  wrote : Int

def Rf.cells (m : Rf) : Array Value := #[m.vs, m.vr, .int .i64 m.ops, .int .i64 m.wrote, .int .i64 0, .int .i64 0]

def RAt (w : World) (M : Nat) (m : Rf) : Prop := w.heap[M]? = some (.cells m.cells 34 (0, 0))

theorem RAt.lt {w : World} {M : Nat} {m : Rf} (h : RAt w M m) : M < w.heap.size := (Array.getElem?_eq_some_iff.1 h).1

theorem RAt.chg {X : Nat → Prop} {w w' : World} {M : Nat} {m : Rf} (h : RAt w M m) (hg : Chg X w w') (hx : ¬ X M) : RAt w' M m := (hg.block M h.lt hx).trans h

theorem RAt.cell {w : World} {M : Nat} {m : Rf} (h : RAt w M m) : w.cell? ⟨M, 0, none⟩ = some m.vs ∧ w.cell? ⟨M, 1, none⟩ = some m.vr ∧ w.cell? ⟨M, 2, none⟩ = some (.int .i64 m.ops) ∧ w.cell? ⟨M, 3, none⟩ = some (.int .i64 m.wrote) ∧
    w.cell? ⟨M, 4, none⟩ = some (.int .i64 0) ∧ w.cell? ⟨M, 5, none⟩ = some (.int .i64 0) := by
  unfold RAt Rf.cells at h
  simp [World.cell?, h]

theorem RAt.frozen {w : World} {M : Nat} {m : Rf} (h : RAt w M m) (o : Nat) : w.frozen? ⟨M, o, none⟩ = false := by
  unfold RAt at h
  simp [World.frozen?, h]

theorem RAt.set {w : World} {M : Nat} {m : Rf} (h : RAt w M m) (o : Nat) (v : Value) : (w.setCell ⟨M, o, none⟩ v).heap[M]? = some (.cells (m.cells.setIfInBounds o v) 34 (0, 0)) := by
  unfold RAt at h
  have hF := (Array.getElem?_eq_some_iff.1 h).1
  have e : w.heap[M] = .cells m.cells 34 (0, 0) := by
    have := Array.getElem?_eq_some_iff.1 h
    exact this.2
  simp [World.setCell, hF, Array.getElem_modify, e]

theorem RAt.setvs {w : World} {M : Nat} {m : Rf} (h : RAt w M m) (v : Value) : RAt (w.setCell ⟨M, 0, none⟩ v) M { m with vs := v } := h.set 0 _
theorem RAt.setvr {w : World} {M : Nat} {m : Rf} (h : RAt w M m) (v : Value) : RAt (w.setCell ⟨M, 1, none⟩ v) M { m with vr := v } := h.set 1 _
theorem RAt.setops {w : World} {M : Nat} {m : Rf} (h : RAt w M m) (n : Int) : RAt (w.setCell ⟨M, 2, none⟩ (.int .i64 n)) M { m with ops := n } := h.set 2 _
theorem RAt.setwrote {w : World} {M : Nat} {m : Rf} (h : RAt w M m) (n : Int) : RAt (w.setCell ⟨M, 3, none⟩ (.int .i64 n)) M { m with wrote := n } := h.set 3 _

/-- Bytes that lie apart from what the reference's file writes. -/
def Apart (Z : Nat → Prop) (M : Nat) (vr : Value) (a : Option Addr) (l : List Int) : Prop := l ≠ [] → ∀ x, a = some x → Z x.block ∧ x.block ≠ M ∧ vr.ownBlock ≠ some x.block

structure Ref (w : World) (Y Z : Nat → Prop) (M : Nat) (m : Rf) (s : List Int) (R : List RW) (n : Nat) : Prop where
  at_ : RAt w M m
  yM : Y M
  safe : ∃ a c, m.vs = .slice a s.length c ∧ Sl w a c s ∧ Apart Z M m.vr a s
  sl : s.length ≤ 4194304
  row : w.ownsRow 0 68 3 m.vr R.length (R.flatMap RW.cells)
  yr : ∀ g, m.vr.ownBlock = some g → Y g ∧ g ≠ M
  ps : ∀ r ∈ R, Lies w r.a r.p ∧ Apart Z M m.vr r.a r.p ∧ r.at_ + r.p.length ≤ 4194304
  rl : R.length ≤ 2000 * n
  ops : 0 ≤ m.ops ∧ m.ops ≤ n
  wr : 0 ≤ m.wrote ∧ m.wrote ≤ n

theorem Lies.chg0 {X : Nat → Prop} {w w' : World} {a : Option Addr} {l : List Int} (h : Lies w a l) (hg : Chg X w w') (hne : l ≠ [] → ∀ x, a = some x → ¬ X x.block) : Lies w' a l := by
  by_cases hl : l = []
  · rw [hl]; exact Lies.nil _ _
  · exact h.chg hg (hne hl)

theorem Sl.chg0 {X : Nat → Prop} {w w' : World} {a : Option Addr} {c : Nat} {l : List Int} (h : Sl w a c l) (hg : Chg X w w') (hne : l ≠ [] → ∀ x, a = some x → ¬ X x.block) : Sl w' a c l := ⟨h.le, h.max, h.none, h.lies.chg0 hg hne⟩

theorem Ref.chg {w w' : World} {Y Z X : Nat → Prop} {M : Nat} {m : Rf} {s : List Int} {R : List RW} {n : Nat} (h : Ref w Y Z M m s R n) (hc : Chg X w w') (hx : ∀ k, X k → ¬ Y k ∧ ¬ Z k) : Ref w' Y Z M m s R n := by
  obtain ⟨a, c, h1, h2, h3⟩ := h.safe
  refine ⟨h.at_.chg hc (fun e => (hx _ e).1 h.yM), h.yM, ⟨a, c, h1, h2.chg0 hc (fun hl x hxa e => (hx _ e).2 (h3 hl x hxa).1), h3⟩, h.sl, ownsRow_chg h.row hc (fun g hg e => (hx _ e).1 (h.yr g hg).1), h.yr, fun r hr => ?_, h.rl, h.ops, h.wr⟩
  obtain ⟨q1, q2, q3⟩ := h.ps r hr
  exact ⟨q1.chg0 hc (fun hl x hxa e => (hx _ e).2 (q2 hl x hxa).1), q2, q3⟩

theorem Ref.mono {w : World} {Y Z Y' Z' : Nat → Prop} {M : Nat} {m : Rf} {s : List Int} {R : List RW} {n : Nat} (h : Ref w Y Z M m s R n) (hy : ∀ k, Y k → Y' k) (hz : ∀ k, Z k → Z' k) : Ref w Y' Z' M m s R n := by
  obtain ⟨a, c, h1, h2, h3⟩ := h.safe
  refine ⟨h.at_, hy _ h.yM, ⟨a, c, h1, h2, fun hl x hx => ⟨hz _ (h3 hl x hx).1, (h3 hl x hx).2⟩⟩, h.sl, h.row, fun g hg => ⟨hy _ (h.yr g hg).1, (h.yr g hg).2⟩, fun r hr => ?_, h.rl, h.ops, h.wr⟩
  obtain ⟨q1, q2, q3⟩ := h.ps r hr
  exact ⟨q1, fun hl x hx => ⟨hz _ (q2 hl x hx).1, (q2 hl x hx).2⟩, q3⟩

/-- Numbers of its own are changed. -/
theorem Ref.fields {w w' : World} {Y Z : Nat → Prop} {M : Nat} {m m' : Rf} {s : List Int} {R : List RW} {n n' : Nat} (h : Ref w Y Z M m s R n) (hc : Chg (fun k => k = M) w w') (ha : RAt w' M m') (e1 : m'.vs = m.vs) (e2 : m'.vr = m.vr) (hn : n ≤ n') (ho : 0 ≤ m'.ops ∧ m'.ops ≤ n') (hw : 0 ≤ m'.wrote ∧ m'.wrote ≤ n') : Ref w' Y Z M m' s R n' := by
  obtain ⟨a, c, h1, h2, h3⟩ := h.safe
  refine ⟨ha, h.yM, ⟨a, c, e1.trans h1, h2.chg0 hc (fun hl x hx e => (h3 hl x hx).2.1 e), by rw [e2]; exact h3⟩, h.sl, by rw [e2]; exact ownsRow_chg h.row hc (fun g hg e => (h.yr g hg).2 e), by rw [e2]; exact h.yr, fun r hr => ?_, by have := h.rl; omega, ho, hw⟩
  obtain ⟨q1, q2, q3⟩ := h.ps r hr
  exact ⟨q1.chg0 hc (fun hl x hx e => (q2 hl x hx).2.1 e), by rw [e2]; exact q2, q3⟩

/-- What an operation of the reference's leaves. -/
def RDid (w w' : World) (Y Z : Nat → Prop) (M n : Nat) : Prop :=
  ∃ m s R, Ref w' (fun q => Y q ∨ (w.heap.size ≤ q ∧ q < w'.heap.size)) (fun q => Z q ∨ (w.heap.size ≤ q ∧ q < w'.heap.size)) M m s R n ∧ Chg Y w w'

set_option maxHeartbeats 2000000 in
set_option maxRecDepth 100000 in
theorem rask (w : World) (Y Z : Nat → Prop) (M : Nat) (m : Rf) (s : List Int) (R : List RW) (n : Nat) (h : Ref w Y Z M m s R n) (hn : n ≤ 1000000) :
    Calls Try.prog 40 #[.pointer (some ⟨M, 0, none⟩)] w fun e w' => e = .returned (.int .i64 0) ∧ Ref w' Y Z M { m with ops := m.ops + 1 } s R (n + 1) ∧ Chg (fun k => k = M) w w' := by
  have c2 := h.at_.cell.2.2.1
  have z2 := h.at_.frozen 2
  have hops := h.ops
  have hwr := h.wr
  have hw : wrap64 (m.ops + 1) = m.ops + 1 := by unfold wrap64; omega
  have ha := h.at_.setops (m.ops + 1)
  have hc : Chg (fun k => k = M) w (w.setCell ⟨M, 2, none⟩ (.int .i64 (m.ops + 1))) := (Chg.refl _ _).setCell M 2 _ (fun _ => rfl)
  have hr := h.fields (m' := { m with ops := m.ops + 1 }) (n' := n + 1) hc ha rfl rfl (by omega) (by simp; omega) (by simp; omega)
  have c4 := ha.cell.2.2.2.2.1
  have c5 := ha.cell.2.2.2.2.2
  have c2' := ha.cell.2.2.1
  have HR := hide hr
  have HC := hide hc
  clear h hr hc ha
  go_enter Try.func40, Try.ntmps40
  go_wp2_with fail
  generalize w.setCell ⟨M, 2, none⟩ (.int .i64 (m.ops + 1)) = w1 at *
  go_quiet (fail)
  go_wp2_with fail
  go_ret
  exact ⟨rfl, HR.out.chg (X := fun _ => False) ((Chg.refl _ _).drewN _) (fun _ h => h.elim), HC.out.drewN _⟩

end Go.Proofs.Ytnhbncbiflnapaa.Oct
