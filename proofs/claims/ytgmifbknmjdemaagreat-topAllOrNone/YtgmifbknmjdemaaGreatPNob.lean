/- Rows that came in: changes that are to be committed (places, and bytes for all of them). -/
import Derived.Test.YtgmifbknmjdemaaGreatPCrcOpenPtsMore
import Derived.Lib.SmallJoins
import Derived.Deep.Slices
namespace Go.Proofs.YtgmifbknmjdemaaGreat.Oct
open Go.RowKit Go.Deep Go.ChangeShapes Go.WideShapes Go.ChangeAt

/-- Ints lie from the address on. -/
def LiesQ (w : World) (a : Option Addr) (l : List Int) : Prop := l = [] ∨ ∃ b off, a = some ⟨b, off, none⟩ ∧ b < w.heap.size ∧ ∀ k, k < l.length → w.cell? ⟨b, off + k, none⟩ = some (.int .i64 (l.getD k 0))

/-- Changes, with the places of what they hold. -/
structure CH where
  a : Option Addr
  c : Nat
  P : List Int
  ma : Option Addr
  mc : Nat
  b : List Int

def CH.z : CH := ⟨none, 0, [], none, 0, []⟩

def ChAt (W : World) (b off : Nat) (o : CH) : Prop :=
  (W.cell? ⟨b, off, none⟩ = some (.slice o.a o.P.length o.c) ∧ W.cell? ⟨b, off + 1, none⟩ = some (.slice o.ma o.b.length o.mc)) ∧ LiesQ W o.a o.P ∧ Sl W o.ma o.mc o.b

def LiesC (w : World) (a : Option Addr) (L : List CH) : Prop := L = [] ∨ ∃ b off, a = some ⟨b, off, none⟩ ∧ b < w.heap.size ∧ ∀ k, k < L.length → ChAt w b (off + k * 2) (L.getD k CH.z)

theorem LiesQ.below {w w' : World} {a : Option Addr} {l : List Int} (h : LiesQ w a l) (hb : Below w.heap.size w w') : LiesQ w' a l := by
  rcases h with h | ⟨b, off, ha, hlt, hc⟩
  · exact Or.inl h
  · exact Or.inr ⟨b, off, ha, Nat.lt_of_lt_of_le hlt hb.size, fun k hk => (hb.cell (p := ⟨b, off + k, none⟩) hlt).trans (hc k hk)⟩

theorem LiesC.below {w w' : World} {a : Option Addr} {L : List CH} (h : LiesC w a L) (hb : Below w.heap.size w w') : LiesC w' a L := by
  rcases h with h | ⟨b, off, ha, hlt, hc⟩
  · exact Or.inl h
  · refine Or.inr ⟨b, off, ha, Nat.lt_of_lt_of_le hlt hb.size, fun k hk => ?_⟩
    obtain ⟨⟨h1, h2⟩, h3, h4⟩ := hc k hk
    exact ⟨⟨(hb.cell (p := ⟨b, off + k * 2, none⟩) hlt).trans h1, (hb.cell (p := ⟨b, off + k * 2 + 1, none⟩) hlt).trans h2⟩, h3.below hb, h4.below hb⟩

theorem cellsNi : Tryz.prog.cellsOf 3 = 1 := by kernel_rfl
theorem cellsNs : Tryz.prog.cellsOf 41 = 1 := by kernel_rfl
theorem cellsNb : Tryz.prog.cellsOf 24 = 1 := by kernel_rfl
theorem cellsNc : Tryz.prog.cellsOf 43 = 2 := by kernel_rfl

theorem spot_of2N {W : World} {a : Addr} {cs : List Value} (h1 : W.cells? 0 (a.add 0) 2 = some cs) : a.spot = none := by
  obtain ⟨_, hlen, hcell⟩ := World.cells?_some h1
  match cs, hlen with
  | [v0, v1], _ =>
    have q0 := hcell 0 (by omega)
    obtain ⟨b, off, spot⟩ := a
    simpa [Addr.add] using World.cell?_spot q0

set_option maxRecDepth 100000 in
theorem open_ints_trod {H : Type} {enc : TypeId × Value → H} {W : World} {fuel : Nat} {v : Value} {x : DataW H × List MemPlace}
    (hf : DataW.trod enc Tryz.prog W 0 (fun _ => true) true fuel 41 [v] = some x) :
    ∃ a cap L, v = .slice a (List.length L) cap ∧ L.length ≤ maxLen ∧ LiesQ W a L := by
  rcases open_slice1 Tryz.underlying41 cellsNi hf with ⟨hcs, _⟩ | ⟨a, len, cap, m, n, V, D, Pl, hcs, _, hl, hm, hmm, _, hx⟩
  · simp at hcs
    subst hcs
    exact ⟨none, 0, [], rfl, by simp, Or.inl rfl⟩
  · simp at hcs
    subst hcs
    simp only [if_true] at hmm
    by_cases h0 : len = 0
    · subst h0
      exact ⟨some a, cap, [], rfl, by simp, Or.inl rfl⟩
    obtain ⟨b, off, spot⟩ := a
    have hs : spot = none := by simpa [Addr.add] using World.cell?_spot (hx 0 (by omega)).1
    subst hs
    obtain ⟨q, hq⟩ := choose_lt (α := Int) (p := fun i x => W.cell? ⟨b, off + i, none⟩ = some (.int .i64 x)) (fun i (hi : i < m) => by
      obtain ⟨h1, h2⟩ := hx i hi
      obtain ⟨x, hb, _⟩ := DataW.trod_int Tryz.underlying3 h2
      simp at hb
      rw [hb, add_plain] at h1
      exact ⟨x, h1⟩)
    obtain ⟨L, hL⟩ : ∃ L, L = (List.range len).map q := ⟨_, rfl⟩
    have hlen : L.length = len := by rw [hL]; simp
    have hget : ∀ r, r < len → L.getD r 0 = q r := fun r hr => by rw [hL]; simp [hr]
    refine ⟨some ⟨b, off, none⟩, cap, L, by rw [hlen], by omega, Or.inr ⟨b, off, rfl, lt_of_cell (hq 0 (by omega)), fun r hr => ?_⟩⟩
    rw [hget r (by omega)]
    exact hq r (by omega)

set_option maxRecDepth 100000 in
theorem ch_of {H : Type} {enc : TypeId × Value → H} {W : World} {n : Nat} {b off : Nat} {i : Nat} {cs : List Value} {x : DataW H × List MemPlace}
    (h1 : W.cells? 0 ((⟨b, off, none⟩ : Addr).add (i * 2)) 2 = some cs) (h2 : DataW.trod enc Tryz.prog W 0 (fun _ => true) true n 43 cs = some x) :
    ∃ r : CH, ChAt W b (off + i * 2) r ∧ r.P.length ≤ maxLen ∧ Byts r.b := by
  obtain ⟨_, hlen, hcell⟩ := World.cells?_some h1
  obtain ⟨xs, m, _, _, _, hlen2, hall⟩ := DataW.trod_struct Tryz.underlying43 h2
  match xs, hlen2 with
  | [y0, y1], _ =>
  match cs, hlen with
  | [v0, v1], _ =>
    have g0 := hall 0 _ rfl
    have g1 := hall 1 _ rfl
    simp [cellsNs] at g0
    simp [cellsNb] at g1
    obtain ⟨a0, c0, l0, e0, hn0, hl0⟩ := open_ints_trod g0
    obtain ⟨a3, c3, l3, e3, _, hb3, _, hs3⟩ := open_bytes_trod g1
    have q0 := hcell 0 (by omega)
    have q1 := hcell 1 (by omega)
    subst e0 e3
    rw [add_plain, add_plain] at q0 q1
    exact ⟨⟨a0, c0, l0, a3, c3, l3⟩, ⟨⟨q0, q1⟩, hl0, hs3⟩, hn0, hb3⟩

set_option maxRecDepth 100000 in
theorem open_chs {H : Type} {enc : TypeId × Value → H} {W : World} {base : Nat} {v : Value} {d : DataW H} {ps : List MemPlace}
    (hok : Value.okWide Tryz.prog W .any base 22 v) (h : DataW.Trod enc Tryz.prog W 0 (fun _ => true) true 22 v d ps) :
    ∃ a cap, ∃ L : List CH, v = .slice a (List.length L) cap ∧ L.length ≤ maxLen ∧ (∀ r ∈ L, (CH.P r).length ≤ maxLen) ∧ (∀ r ∈ L, Byts (CH.b r)) ∧ LiesC W a L := by
  obtain ⟨a0, len, cap, rfl⟩ := okWide_slice Tryz.underlying22 hok
  obtain ⟨fuel, hf⟩ := h
  have hf : DataW.trod enc Tryz.prog W 0 (fun _ => true) true fuel 22 [.slice a0 len cap] = some (d, ps) := by simpa [Value.cells] using hf
  rcases open_slice Tryz.underlying22 hf with ⟨hcs, _⟩ | ⟨a, len, cap, m, n, D, Pl, hcs, _, hl, hm, hmm, _, hx⟩
  · simp at hcs
    obtain ⟨rfl, rfl, rfl⟩ := hcs
    exact ⟨none, 0, [], rfl, by simp, fun r hr => (by cases hr), fun r hr => (by cases hr), Or.inl rfl⟩
  · simp at hcs
    obtain ⟨rfl, rfl, rfl⟩ := hcs
    simp only [if_true] at hmm
    rw [cellsNc] at hx
    by_cases h0 : len = 0
    · subst h0
      exact ⟨some a, cap, [], rfl, by simp, fun r hr => (by cases hr), fun r hr => (by cases hr), Or.inl rfl⟩
    haveI : Inhabited CH := ⟨CH.z⟩
    have hs : a.spot = none := by
      obtain ⟨cs', h1, _⟩ := hx 0 (by omega)
      exact spot_of2N (by simpa using h1)
    obtain ⟨b, off, spot⟩ := a
    simp only at hs
    subst hs
    obtain ⟨q, hq⟩ := choose_lt (α := CH) (p := fun i o => ChAt W b (off + i * 2) o ∧ o.P.length ≤ maxLen ∧ Byts o.b) (fun i (hi : i < m) => by
      obtain ⟨cs', h1, h2⟩ := hx i hi
      exact ch_of h1 h2)
    obtain ⟨L, hL⟩ : ∃ L, L = (List.range len).map q := ⟨_, rfl⟩
    have hlen : L.length = len := by rw [hL]; simp
    have hget : ∀ r, r < len → L.getD r CH.z = q r := fun r hr => by rw [hL]; simp [hr]
    refine ⟨some ⟨b, off, none⟩, cap, L, by rw [hlen], by omega, fun r hr => ?_, fun r hr => ?_, Or.inr ⟨b, off, rfl, lt_of_cell (hq 0 (by omega)).1.1.1, fun r hr => ?_⟩⟩
    · rw [hL] at hr
      obtain ⟨k, hk, rfl⟩ := List.mem_map.1 hr
      exact (hq k (by have := List.mem_range.1 hk; omega)).2.1
    · rw [hL] at hr
      obtain ⟨k, hk, rfl⟩ := List.mem_map.1 hr
      exact (hq k (by have := List.mem_range.1 hk; omega)).2.2
    · rw [hget r (by omega)]; exact (hq r (by omega)).1
end Go.Proofs.YtgmifbknmjdemaaGreat.Oct
