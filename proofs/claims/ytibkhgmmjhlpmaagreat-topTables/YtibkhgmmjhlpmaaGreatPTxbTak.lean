/- Regions that draw their order, with guarded operations that are skipped: one operation is taken, or skipped, its place given. -/
import Derived.Test.YtibkhgmmjhlpmaaGreatPFilUse
import Derived.Test.YtibkhgmmjhlpmaaGreatPRdLowWrLst
import Derived.OrdersHeld
import Derived.Deep.RegionHeld3
import Derived.Test.YtibkhgmmjhlpmaaGreatPNumMem
namespace Go.Proofs.YtibkhgmmjhlpmaaGreat.Oct
open Go.RowKit Go.Deep

/-- A file's length. -/
theorem len_file (w : World) (X : Nat → Prop) (F : Nat) (f : Fs) (S T : List Int) (R : List Wr) (h : Fil w X F f S T R) :
    Calls Tryz.prog 54 #[.pointer (some ⟨F, 0, none⟩)] w fun e w' => e = .returned (.int .i64 S.length) ∧ w' = w := by
  have h0 := h.at_.cell.1
  obtain ⟨a, c, e, hs, _⟩ := h.seen.sl
  rw [e] at h0
  clear h hs
  go_enter Tryz.func54, Tryz.ntmps54
  go_wp2_with fail
  go_ret
  exact ⟨rfl, rfl⟩

/-- A journal's fields lie in block J. -/
def Jrn (w : World) (J F : Nat) (p q : Int) (n : Int) : Prop := w.heap[J]? = some (.cells #[.pointer (some ⟨F, 0, none⟩), .int .i64 p, .int .i64 q, .int .u64 n] 110 (0, 0))

theorem Jrn.below {w w' : World} {J F : Nat} {p q n : Int} (h : Jrn w J F p q n) (hb : Below w.heap.size w w') : Jrn w' J F p q n :=
  (hb.block J (Array.getElem?_eq_some_iff.1 h).1).trans h

set_option maxHeartbeats 1000000 in
theorem jnew_ok (w : World) (X : Nat → Prop) (F : Nat) (f : Fs) (S T : List Int) (R : List Wr) (h : Fil w X F f S T R) (p s : Nat) (hp : p % 512 = 0) (hs : s % 512 = 0) (hs2 : 1024 ≤ s) (hf : p + s ≤ S.length) (hS : S.length ≤ 4194304) :
    Calls Tryz.prog 25 #[.pointer (some ⟨F, 0, none⟩), .int .i64 p, .int .i64 s] w fun e w' => ∃ J, e = .returned (.tuple #[.pointer (some ⟨J, 0, none⟩), .int .i64 0]) ∧ w.heap.size ≤ J ∧ Jrn w' J F p (p + s) 0 ∧ Below w.heap.size w w' := by
  have HL := hide (len_file w X F f S T R h)
  generalize S.length = n at *
  have d1 : (p : Int).tmod 512 = 0 := by rw [Int.tmod_eq_emod_of_nonneg (by omega)]; omega
  have d2 : (s : Int).tmod 512 = 0 := by rw [Int.tmod_eq_emod_of_nonneg (by omega)]; omega
  have d3 : (p : Int) % 512 = 0 := by omega
  have d4 : (s : Int) % 512 = 0 := by omega
  clear h
  go_enter Tryz.func25, Tryz.ntmps25
  go_wp2_with fail
  refine HL.out.mono ?_
  rintro e9 w2 ⟨rfl, h2⟩
  subst h2
  go_wp2_with fail
  go_ret2
  exact ⟨_, rfl, Nat.le_refl _, heap_alloc_new _ _, (Below.refl _ _).alloc (Nat.le_refl _) _⟩

/-- Changes' fields lie in block T. -/
def Txs (w : World) (T J : Nat) (vb vm va : Value) (d : Bool) : Prop := w.heap[T]? = some (.cells #[.pointer (some ⟨J, 0, none⟩), vb, vm, va, .bool d] 92 (0, 0))

theorem Txs.below {w w' : World} {T J : Nat} {vb vm va : Value} {d : Bool} (h : Txs w T J vb vm va d) (hb : Below w.heap.size w w') : Txs w' T J vb vm va d :=
  (hb.block T (Array.getElem?_eq_some_iff.1 h).1).trans h

theorem Txs.lt {w : World} {T J : Nat} {vb vm va : Value} {d : Bool} (h : Txs w T J vb vm va d) : T < w.heap.size := (Array.getElem?_eq_some_iff.1 h).1
theorem Jrn.lt {w : World} {J F : Nat} {p q n : Int} (h : Jrn w J F p q n) : J < w.heap.size := (Array.getElem?_eq_some_iff.1 h).1

set_option maxHeartbeats 1000000 in
theorem begin_ok (w : World) (J : Nat) : Calls Tryz.prog 28 #[.pointer (some ⟨J, 0, none⟩)] w fun e w' => ∃ T, e = .returned (.tuple #[.pointer (some ⟨T, 0, none⟩), .int .i64 0]) ∧ w.heap.size ≤ T ∧ Txs w' T J (.map none) (.map none) (.slice none 0 0) false ∧ Below w.heap.size w w' := by
  go_enter Tryz.func28, Tryz.ntmps28
  go_wp2_with fail
  go_ret2
  exact ⟨_, rfl, Nat.le_refl _, heap_alloc_new _ _, (Below.refl _ _).alloc (Nat.le_refl _) _⟩

/-- Changes of a file that begin: their blocks are apart. -/
structure Bgn (w w' : World) (T J F : Nat) (p q : Int) (S : List Int) : Prop where
  below : Below w.heap.size w w'
  tx : Txs w' T J (.map none) (.map none) (.slice none 0 0) false
  jr : Jrn w' J F p q 0
  fil : ∃ v1 v2, Fil w' (fun k => w.heap.size ≤ k ∧ k < J) F ⟨v1, v2, .slice none 0 0, 0, 0, 0, 0, false⟩ S S []
  jt : J < T
  wj : w.heap.size ≤ J

end Go.Proofs.YtibkhgmmjhlpmaaGreat.Oct

namespace Go.Proofs.YtibkhgmmjhlpmaaGreat.Oct
open Go.RowKit

theorem any_take {P : Program} {md : Region.Mode} {ops : Array Oper} {Q : Exit → Act → World → Prop} {S : World → Prop} {fuel : Nat} {listed : Array Bool} {a : Act} {w : World} (i : Nat) (d : Option Tmp) (v : Value) {oi : Oper}
    (hi : ops[i]? = some oi) (hd : oi.dst = d) (hs : Region.noSelect ops = true) (hf : Region.free md ops listed i = true) (hr : (Region.ready md ops listed).contains i = true)
    (hQ : ∀ c a w, Q (.panic c) (a.put d v) w → Q (.panic c) a w) (hw : Region.wanted oi (yielded ops a.tmps) = true) (hS : S w) (hy : ∀ w, S w → (execOp a.eval oi).run P w = .ok (.value v) w)
    (h : wpAnyH P md ops Q S fuel (listed.setIfInBounds i true) (a.put d v) w) : wpAnyH P md ops Q S (fuel + 1) listed a w := by
  subst hd
  exact wpAnyH_take hi hs hf hr hQ (Or.inl ⟨hw, hy⟩) hS h

theorem any_skip {P : Program} {md : Region.Mode} {ops : Array Oper} {Q : Exit → Act → World → Prop} {S : World → Prop} {fuel : Nat} {listed : Array Bool} {a : Act} {w : World} (i : Nat) (d : Option Tmp) {oi : Oper}
    (hi : ops[i]? = some oi) (hd : oi.dst = d) (hs : Region.noSelect ops = true) (hf : Region.free md ops listed i = true) (hr : (Region.ready md ops listed).contains i = true)
    (hQ : ∀ c a w, Q (.panic c) (a.put d undef) w → Q (.panic c) a w) (hw : Region.wanted oi (yielded ops a.tmps) = false) (hS : S w)
    (h : wpAnyH P md ops Q S fuel (listed.setIfInBounds i true) (a.put d undef) w) : wpAnyH P md ops Q S (fuel + 1) listed a w := by
  subst hd
  exact wpAnyH_take hi hs hf hr hQ (Or.inr ⟨hw, rfl⟩) hS h
end Go.Proofs.YtibkhgmmjhlpmaaGreat.Oct
