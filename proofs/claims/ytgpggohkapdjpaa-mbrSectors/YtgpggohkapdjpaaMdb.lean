/- Rows that came in: entries that are laid on a disk. -/
import Derived.Test.YtgpggohkapdjpaaMbq
import Derived.Test.YtgpggohkapdjpaaOpen
import Derived.Lib.SmallJoins
import Derived.Deep.Slices
import Derived.Deep.Strs
namespace Go.Proofs.Ytgpggohkapdjpaa.Oct
open Go.RowKit Go.Deep Go.ChangeShapes Go.WideShapes Go.ChangeAt

theorem cellsMe : Try.prog.cellsOf 32 = 3 := by kernel_rfl
theorem cellsMl : Try.prog.cellsOf 61 = 3 := by kernel_rfl
theorem cellsMi : Try.prog.cellsOf 3 = 1 := by kernel_rfl
theorem cellsMj : Try.prog.cellsOf 2 = 1 := by kernel_rfl
theorem cellsMb : Try.prog.cellsOf 22 = 1 := by kernel_rfl
theorem cellsMs : Try.prog.cellsOf 24 = 1 := by kernel_rfl

theorem spot_of3 {W : World} {a : Addr} {cs : List Value} (h1 : W.cells? 0 (a.add 0) 3 = some cs) : a.spot = none := by
  obtain ⟨_, hlen, hcell⟩ := World.cells?_some h1
  match cs, hlen with
  | [v0, v1, v2], _ =>
    have q0 := hcell 0 (by omega)
    obtain ⟨b, off, spot⟩ := a
    simpa [Addr.add] using World.cell?_spot q0

set_option maxRecDepth 100000 in
theorem ment_of {H : Type} {enc : TypeId × Value → H} {W : World} {n : Nat} {b off : Nat} {i : Nat} {cs : List Value} {x : DataW H × List MemPlace}
    (h1 : W.cells? 0 ((⟨b, off, none⟩ : Addr).add (i * 3)) 3 = some cs) (h2 : DataW.trod enc Try.prog W 0 (fun _ => true) true n 32 cs = some x) :
    ∃ o : M3, W.cell? ⟨b, off + i * 3, none⟩ = some (.int .i64 o.1) ∧ W.cell? ⟨b, off + i * 3 + 1, none⟩ = some (.int .i64 o.2.1) ∧ W.cell? ⟨b, off + i * 3 + 2, none⟩ = some (.int .i64 o.2.2) := by
  obtain ⟨_, hlen, hcell⟩ := World.cells?_some h1
  obtain ⟨y0, y1, y2, k, _, _, g0, g1, g2⟩ := trod_struct3 Try.underlying32 h2
  match cs, hlen with
  | [v0, v1, v2], _ =>
    simp only [cellsMi, cellsMj] at g0 g1 g2
    obtain ⟨k0, e0, w0⟩ := open_int_trod Try.underlying3 g0
    obtain ⟨k1, e1, w1⟩ := open_int_trod Try.underlying2 g1
    obtain ⟨k2, e2, w2⟩ := open_int_trod Try.underlying2 g2
    have q0 := hcell 0 (by omega)
    have q1 := hcell 1 (by omega)
    have q2 := hcell 2 (by omega)
    subst e0 e1 e2
    rw [add_plain, add_plain] at q0 q1 q2
    exact ⟨(k0, k1, k2), q0, q1, q2⟩

theorem open_ments_trod {H : Type} {enc : TypeId × Value → H} {W : World} {fuel : Nat} {v : Value} {x : DataW H × List MemPlace}
    (hf : DataW.trod enc Try.prog W 0 (fun _ => true) true fuel 24 [v] = some x) :
    ∃ a cap L, v = .slice a (List.length L) cap ∧ L.length ≤ maxLen ∧ LiesM W a L := by
  rcases open_slice Try.underlying24 hf with ⟨hcs, _⟩ | ⟨a, len, cap, m, n, D, Pl, hcs, _, hl, hm, hmm, _, hx⟩
  · simp at hcs
    subst hcs
    exact ⟨none, 0, [], rfl, by simp, Or.inl rfl⟩
  · simp at hcs
    subst hcs
    simp only [if_true] at hmm
    rw [cellsMe] at hx
    by_cases h0 : len = 0
    · subst h0
      exact ⟨some a, cap, [], rfl, by simp, Or.inl rfl⟩
    have hs : a.spot = none := by
      obtain ⟨cs', h1, _⟩ := hx 0 (by omega)
      exact spot_of3 (by simpa using h1)
    obtain ⟨b, off, spot⟩ := a
    simp only at hs
    subst hs
    obtain ⟨q, hq⟩ := choose_lt (α := M3) (p := fun i o => W.cell? ⟨b, off + i * 3, none⟩ = some (.int .i64 o.1) ∧ W.cell? ⟨b, off + i * 3 + 1, none⟩ = some (.int .i64 o.2.1) ∧ W.cell? ⟨b, off + i * 3 + 2, none⟩ = some (.int .i64 o.2.2)) (fun i (hi : i < m) => by
      obtain ⟨cs', h1, h2⟩ := hx i hi
      exact ment_of h1 h2)
    obtain ⟨L, hL⟩ : ∃ L, L = (List.range len).map q := ⟨_, rfl⟩
    have hlen : L.length = len := by rw [hL]; simp
    have hget : ∀ r, r < len → L.getD r zm3 = q r := fun r hr => by rw [hL]; simp [hr]
    refine ⟨some ⟨b, off, none⟩, cap, L, by rw [hlen], by omega, Or.inr ⟨b, off, rfl, lt_of_cell (hq 0 (by omega)).1, fun r hr => ?_⟩⟩
    rw [hget r (by omega)]
    exact hq r (by omega)

def LaidAt (W : World) (b off : Nat) (o : LD) : Prop :=
  ((W.cell? ⟨b, off, none⟩ = some (.int .i64 o.at_) ∧ W.cell? ⟨b, off + 1, none⟩ = some (.slice o.a o.L.length o.c) ∧ W.cell? ⟨b, off + 2, none⟩ = some (.slice o.ma o.mb.length o.mc)) ∧
    LiesM W o.a o.L ∧ Lies W o.ma o.mb) ∧ o.L.length ≤ maxLen ∧ o.mb.length ≤ maxLen ∧ Byts o.mb

set_option maxRecDepth 100000 in
theorem laid_of {H : Type} {enc : TypeId × Value → H} {W : World} {n : Nat} {b off : Nat} {i : Nat} {cs : List Value} {x : DataW H × List MemPlace}
    (h1 : W.cells? 0 ((⟨b, off, none⟩ : Addr).add (i * 3)) 3 = some cs) (h2 : DataW.trod enc Try.prog W 0 (fun _ => true) true n 61 cs = some x) :
    ∃ o : LD, LaidAt W b (off + i * 3) o := by
  obtain ⟨_, hlen, hcell⟩ := World.cells?_some h1
  obtain ⟨y0, y1, y2, k, _, _, g0, g1, g2⟩ := trod_struct3 Try.underlying61 h2
  match cs, hlen with
  | [v0, v1, v2], _ =>
    simp only [cellsMi, cellsMs, cellsMb] at g0 g1 g2
    obtain ⟨k0, e0, w0⟩ := open_int_trod Try.underlying3 g0
    obtain ⟨a1, c1, l1, e1, hn1, hl1⟩ := open_ments_trod g1
    obtain ⟨a2, c2, l2, e2, hn2, hb2, hl2, _⟩ := open_bytes_trod g2
    have q0 := hcell 0 (by omega)
    have q1 := hcell 1 (by omega)
    have q2 := hcell 2 (by omega)
    subst e0 e1 e2
    rw [add_plain, add_plain] at q0 q1 q2
    exact ⟨⟨k0, a1, l1, c1, a2, l2, c2⟩, ⟨⟨q0, q1, q2⟩, hl1, hl2⟩, hn1, hn2, hb2⟩

def LaidFit (X : List LD) : Prop := (∀ x ∈ X, x.L.length ≤ maxLen ∧ x.mb.length ≤ maxLen) ∧ ∀ x ∈ X, Byts x.mb

theorem open_laids_trod {H : Type} {enc : TypeId × Value → H} {W : World} {fuel : Nat} {v : Value} {x : DataW H × List MemPlace}
    (hf : DataW.trod enc Try.prog W 0 (fun _ => true) true fuel 43 [v] = some x) :
    ∃ a cap L, v = .slice a (List.length L) cap ∧ L.length ≤ maxLen ∧ LaidFit L ∧ LiesL W a L := by
  rcases open_slice Try.underlying43 hf with ⟨hcs, _⟩ | ⟨a, len, cap, m, n, D, Pl, hcs, _, hl, hm, hmm, _, hx⟩
  · simp at hcs
    subst hcs
    exact ⟨none, 0, [], rfl, by simp, ⟨by simp, by simp⟩, Or.inl rfl⟩
  · simp at hcs
    subst hcs
    simp only [if_true] at hmm
    rw [cellsMl] at hx
    by_cases h0 : len = 0
    · subst h0
      exact ⟨some a, cap, [], rfl, by simp, ⟨by simp, by simp⟩, Or.inl rfl⟩
    haveI : Inhabited LD := ⟨LD.z⟩
    have hs : a.spot = none := by
      obtain ⟨cs', h1, _⟩ := hx 0 (by omega)
      exact spot_of3 (by simpa using h1)
    obtain ⟨b, off, spot⟩ := a
    simp only at hs
    subst hs
    obtain ⟨q, hq⟩ := choose_lt (α := LD) (p := fun i o => LaidAt W b (off + i * 3) o) (fun i (hi : i < m) => by
      obtain ⟨cs', h1, h2⟩ := hx i hi
      exact laid_of h1 h2)
    obtain ⟨L, hL⟩ : ∃ L, L = (List.range len).map q := ⟨_, rfl⟩
    have hlen : L.length = len := by rw [hL]; simp
    have hget : ∀ r, r < len → L.getD r LD.z = q r := fun r hr => by rw [hL]; simp [hr]
    have hmem : ∀ x ∈ L, ∃ r, r < len ∧ x = q r := fun x hx => by
      rw [hL] at hx
      obtain ⟨r, hr, rfl⟩ := List.mem_map.1 hx
      exact ⟨r, by simpa using hr, rfl⟩
    refine ⟨some ⟨b, off, none⟩, cap, L, by rw [hlen], by omega, ⟨fun x hx => ?_, fun x hx => ?_⟩, Or.inr ⟨b, off, rfl, lt_of_cell (hq 0 (by omega)).1.1.1, fun r hr => ?_⟩⟩
    · obtain ⟨r, hr, rfl⟩ := hmem x hx
      exact ⟨(hq r (by omega)).2.1, (hq r (by omega)).2.2.1⟩
    · obtain ⟨r, hr, rfl⟩ := hmem x hx
      exact (hq r (by omega)).2.2.2
    · rw [hget r (by omega)]
      exact (hq r (by omega)).1

set_option maxRecDepth 100000 in
theorem open_laids {H : Type} {enc : TypeId × Value → H} {W : World} {base : Nat} {v : Value} {d : DataW H} {ps : List MemPlace}
    (hok : Value.okWide Try.prog W .any base 43 v) (h : DataW.Trod enc Try.prog W 0 (fun _ => true) true 43 v d ps) :
    ∃ a cap L, v = .slice a (List.length L) cap ∧ L.length ≤ maxLen ∧ LaidFit L ∧ LiesL W a L := by
  obtain ⟨a0, len, cap, rfl⟩ := okWide_slice Try.underlying43 hok
  obtain ⟨fuel, hf⟩ := h
  exact open_laids_trod (by simpa [Value.cells] using hf)
end Go.Proofs.Ytgpggohkapdjpaa.Oct
