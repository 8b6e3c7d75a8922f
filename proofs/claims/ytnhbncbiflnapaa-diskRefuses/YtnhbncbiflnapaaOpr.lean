/- Operations that came in: how they lie, how they are read; bools that came in. -/
import Derived.Test.YtnhbncbiflnapaaOpen
import Derived.Test.YtnhbncbiflnapaaCrs
import Derived.Lib.SmallJoins
import Derived.Deep.Slices
namespace Go.Proofs.Ytnhbncbiflnapaa.Oct
open Go.RowKit Go.Deep Go.ChangeShapes Go.WideShapes Go.ChangeAt

/-- An operation, with the place of its bytes. -/
structure GOp where
  kind : Int
  at_ : Int
  n : Int
  a : Option Addr
  cap : Nat
  b : List Int

def GOp.nil : GOp := ⟨0, 0, 0, none, 0, []⟩

def OpAt (w : World) (b off : Nat) (o : GOp) : Prop :=
  w.cell? ⟨b, off, none⟩ = some (.int .i64 o.kind) ∧ w.cell? ⟨b, off + 1, none⟩ = some (.int .i64 o.at_) ∧ w.cell? ⟨b, off + 2, none⟩ = some (.int .i64 o.n) ∧
  w.cell? ⟨b, off + 3, none⟩ = some (.slice o.a o.b.length o.cap) ∧ Sl w o.a o.cap o.b

def GOp.fit (o : GOp) : Prop :=
  (-9223372036854775808 ≤ o.kind ∧ o.kind ≤ 9223372036854775807) ∧ (-9223372036854775808 ≤ o.at_ ∧ o.at_ ≤ 9223372036854775807) ∧ (-9223372036854775808 ≤ o.n ∧ o.n ≤ 9223372036854775807) ∧ Byts o.b

/-- Operations, one behind the other, from the address on. -/
def Opr (w : World) (a : Option Addr) (L : List GOp) : Prop :=
  L = [] ∨ ∃ b off, a = some ⟨b, off, none⟩ ∧ b < w.heap.size ∧ ∀ r, r < L.length → OpAt w b (off + r * 4) (L.getD r GOp.nil)

def Fits (L : List GOp) : Prop := ∀ r, r < L.length → (L.getD r GOp.nil).fit

theorem OpAt.below {w w' : World} {b off : Nat} {o : GOp} (h : OpAt w b off o) (hlt : b < w.heap.size) (hb : Below w.heap.size w w') : OpAt w' b off o :=
  ⟨(hb.cell (p := ⟨b, off, none⟩) hlt).trans h.1, (hb.cell (p := ⟨b, off + 1, none⟩) hlt).trans h.2.1, (hb.cell (p := ⟨b, off + 2, none⟩) hlt).trans h.2.2.1, (hb.cell (p := ⟨b, off + 3, none⟩) hlt).trans h.2.2.2.1, h.2.2.2.2.below hb⟩

theorem Opr.below {w w' : World} {a : Option Addr} {L : List GOp} (h : Opr w a L) (hb : Below w.heap.size w w') : Opr w' a L := by
  rcases h with rfl | ⟨b, off, rfl, hlt, hc⟩
  · exact Or.inl rfl
  · exact Or.inr ⟨b, off, rfl, Nat.lt_of_lt_of_le hlt hb.size, fun r hr => (hc r hr).below hlt hb⟩

theorem cells3 : Try.prog.cellsOf 3 = 1 := by kernel_rfl
theorem cells2 : Try.prog.cellsOf 2 = 1 := by kernel_rfl
theorem cells4 : Try.prog.cellsOf 4 = 1 := by kernel_rfl
theorem cellsB : Try.prog.cellsOf 22 = 1 := by kernel_rfl
theorem cellsO : Try.prog.cellsOf 37 = 4 := by kernel_rfl

theorem spot_of {W : World} {a : Addr} {cs : List Value} (h1 : W.cells? 0 (a.add 0) 4 = some cs) : a.spot = none := by
  obtain ⟨_, hlen, hcell⟩ := World.cells?_some h1
  match cs, hlen with
  | [v0, v1, v2, v3], _ =>
    have q0 := hcell 0 (by omega)
    obtain ⟨b, off, spot⟩ := a
    simpa [Addr.add] using World.cell?_spot q0

theorem op_of {H : Type} {enc : TypeId × Value → H} {W : World} {n : Nat} {b off : Nat} {i : Nat} {cs : List Value} {x : DataW H × List MemPlace}
    (h1 : W.cells? 0 ((⟨b, off, none⟩ : Addr).add (i * 4)) 4 = some cs) (h2 : DataW.trod enc Try.prog W 0 (fun _ => true) true n 37 cs = some x) :
    ∃ o : GOp, OpAt W b (off + i * 4) o ∧ o.fit := by
  obtain ⟨_, hlen, hcell⟩ := World.cells?_some h1
  obtain ⟨y0, y1, y2, y3, k, _, _, g0, g1, g2, g3⟩ := Go.Joins.trod_struct4 Try.underlying37 h2
  match cs, hlen with
  | [v0, v1, v2, v3], _ =>
    simp only [cells3, cells2, cellsB] at g0 g1 g2 g3
    obtain ⟨k0, e0, w0⟩ := open_int_trod Try.underlying3 g0
    obtain ⟨k1, e1, w1⟩ := open_int_trod Try.underlying2 g1
    obtain ⟨k2, e2, w2⟩ := open_int_trod Try.underlying2 g2
    obtain ⟨a3, c3, l3, e3, _, hb3, _, hs3⟩ := open_bytes_trod g3
    have q0 := hcell 0 (by omega)
    have q1 := hcell 1 (by omega)
    have q2 := hcell 2 (by omega)
    have q3 := hcell 3 (by omega)
    subst e0 e1 e2 e3
    rw [add_plain, add_plain] at q0 q1 q2 q3
    exact ⟨⟨k0, k1, k2, a3, c3, l3⟩, ⟨q0, q1, q2, q3, hs3⟩, wf_i64 w0, wf_i64 w1, wf_i64 w2, hb3⟩

theorem open_ops_trod {H : Type} {enc : TypeId × Value → H} {W : World} {fuel : Nat} {v : Value} {x : DataW H × List MemPlace}
    (hf : DataW.trod enc Try.prog W 0 (fun _ => true) true fuel 23 [v] = some x) :
    ∃ a cap L, v = .slice a L.length cap ∧ L.length ≤ maxLen ∧ Fits L ∧ Opr W a L := by
  rcases open_slice Try.underlying23 hf with ⟨hcs, _⟩ | ⟨a, len, cap, m, n, D, Pl, hcs, _, hl, hm, hmm, _, hx⟩
  · simp at hcs
    subst hcs
    exact ⟨none, 0, [], rfl, by simp, fun r hr => by simp at hr, Or.inl rfl⟩
  · simp at hcs
    subst hcs
    simp only [if_true] at hmm
    rw [cellsO] at hx
    by_cases h0 : len = 0
    · subst h0
      exact ⟨some a, cap, [], rfl, by simp, fun r hr => by simp at hr, Or.inl rfl⟩
    haveI : Inhabited GOp := ⟨GOp.nil⟩
    have hs : a.spot = none := by
      obtain ⟨cs', h1, _⟩ := hx 0 (by omega)
      exact spot_of (by simpa using h1)
    obtain ⟨b, off, spot⟩ := a
    simp only at hs
    subst hs
    obtain ⟨q, hq⟩ := choose_lt (α := GOp) (p := fun i o => OpAt W b (off + i * 4) o ∧ o.fit) (fun i (hi : i < m) => by
      obtain ⟨cs', h1, h2⟩ := hx i hi
      exact op_of h1 h2)
    obtain ⟨L, hL⟩ : ∃ L, L = (List.range len).map q := ⟨_, rfl⟩
    have hlen : L.length = len := by rw [hL]; simp
    have hget : ∀ r, r < len → L.getD r GOp.nil = q r := fun r hr => by rw [hL]; simp [hr]
    refine ⟨some ⟨b, off, none⟩, cap, L, by rw [hlen], by omega, fun r hr => ?_, Or.inr ⟨b, off, rfl, lt_of_cell (hq 0 (by omega)).1.1, fun r hr => ?_⟩⟩
    · rw [hget r (by omega)]; exact (hq r (by omega)).2
    · rw [hget r (by omega)]; exact (hq r (by omega)).1

set_option maxRecDepth 100000 in
theorem open_ops {H : Type} {enc : TypeId × Value → H} {W : World} {base : Nat} {v : Value} {d : DataW H} {ps : List MemPlace}
    (hok : Value.okWide Try.prog W .any base 23 v) (h : DataW.Trod enc Try.prog W 0 (fun _ => true) true 23 v d ps) :
    ∃ a cap L, v = .slice a L.length cap ∧ L.length ≤ maxLen ∧ Fits L ∧ Opr W a L := by
  obtain ⟨a0, len, cap, rfl⟩ := okWide_slice Try.underlying23 hok
  obtain ⟨fuel, hf⟩ := h
  exact open_ops_trod (by simpa [Value.cells] using hf)

theorem open_bools_trod {H : Type} {enc : TypeId × Value → H} {W : World} {fuel : Nat} {v : Value} {x : DataW H × List MemPlace}
    (hf : DataW.trod enc Try.prog W 0 (fun _ => true) true fuel 24 [v] = some x) :
    ∃ a cap L, v = .slice a (List.length L) cap ∧ L.length ≤ maxLen ∧ LiesB W a L := by
  rcases open_slice1 Try.underlying24 cells4 hf with ⟨hcs, _⟩ | ⟨a, len, cap, m, n, V, D, Pl, hcs, _, hl, hm, hmm, _, hx⟩
  · simp at hcs
    subst hcs
    exact ⟨none, 0, [], rfl, by simp, Or.inl rfl⟩
  · simp at hcs
    subst hcs
    simp only [if_true] at hmm
    by_cases h0 : len = 0
    · subst h0
      exact ⟨some a, cap, [], rfl, by simp, Or.inl rfl⟩
    obtain ⟨b, off, spot⟩ := a
    have hs : spot = none := by simpa [Addr.add] using World.cell?_spot (hx 0 (by omega)).1
    subst hs
    obtain ⟨q, hq⟩ := choose_lt (α := Bool) (p := fun i x => W.cell? ⟨b, off + i, none⟩ = some (.bool x)) (fun i (hi : i < m) => by
      obtain ⟨h1, h2⟩ := hx i hi
      obtain ⟨x, hb, _⟩ := DataW.trod_bool Try.underlying4 h2
      simp at hb
      rw [hb, add_plain] at h1
      exact ⟨x, h1⟩)
    obtain ⟨L, hL⟩ : ∃ L, L = (List.range len).map q := ⟨_, rfl⟩
    have hlen : L.length = len := by rw [hL]; simp
    have hget : ∀ r, r < len → L.getD r false = q r := fun r hr => by rw [hL]; simp [hr]
    refine ⟨some ⟨b, off, none⟩, cap, L, by rw [hlen], by omega, Or.inr ⟨b, off, rfl, lt_of_cell (hq 0 (by omega)), fun r hr => ?_⟩⟩
    rw [hget r (by omega)]
    exact hq r (by omega)

set_option maxRecDepth 100000 in
theorem open_bools {H : Type} {enc : TypeId × Value → H} {W : World} {base : Nat} {v : Value} {d : DataW H} {ps : List MemPlace}
    (hok : Value.okWide Try.prog W .any base 24 v) (h : DataW.Trod enc Try.prog W 0 (fun _ => true) true 24 v d ps) :
    ∃ a cap L, v = .slice a (List.length L) cap ∧ L.length ≤ maxLen ∧ LiesB W a L := by
  obtain ⟨a0, len, cap, rfl⟩ := okWide_slice Try.underlying24 hok
  obtain ⟨fuel, hf⟩ := h
  exact open_bools_trod (by simpa [Value.cells] using hf)

end Go.Proofs.Ytnhbncbiflnapaa.Oct
