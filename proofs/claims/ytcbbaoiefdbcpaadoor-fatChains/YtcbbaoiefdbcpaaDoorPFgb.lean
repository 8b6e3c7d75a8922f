/- A volume behind patches, and numbers, that came in: opened. -/
import Derived.Test.YtcbbaoiefdbcpaaDoorPOpen
import Derived.Test.YtcbbaoiefdbcpaaDoorPFlbFlcFcw
import Derived.Lib.SmallJoins
import Derived.Deep.Slices
import Derived.Deep.Strs
namespace Go.Proofs.YtcbbaoiefdbcpaaDoor.Oct
open Go.RowKit Go.Deep Go.ChangeShapes Go.WideShapes Go.ChangeAt

/-- A patch: where, its bytes, whether the second table has it, too. -/
structure PX where
  at_ : Int
  a : Option Addr
  B : List Int
  c : Nat
  tw : Bool

def PX.z : PX := ⟨0, none, [], 0, false⟩

theorem cellsPx : Tryd.prog.cellsOf 57 = 3 := by kernel_rfl
theorem cellsPd : Tryd.prog.cellsOf 24 = 4 := by kernel_rfl
theorem cellsPi : Tryd.prog.cellsOf 3 = 1 := by kernel_rfl
theorem cellsPj : Tryd.prog.cellsOf 2 = 1 := by kernel_rfl
theorem cellsPb : Tryd.prog.cellsOf 26 = 1 := by kernel_rfl
theorem cellsPo : Tryd.prog.cellsOf 4 = 1 := by kernel_rfl
theorem cellsPs : Tryd.prog.cellsOf 22 = 1 := by kernel_rfl

/-- Such patches lie from the address on. -/
def LiesX (w : World) (p : Option Addr) (X : List PX) : Prop :=
  X = [] ∨ ∃ b off, p = some ⟨b, off, none⟩ ∧ b < w.heap.size ∧ ∀ k, k < X.length →
    (w.cell? ⟨b, off + k * 3, none⟩ = some (.int .i64 (X.getD k PX.z).at_) ∧ w.cell? ⟨b, off + k * 3 + 1, none⟩ = some (.slice (X.getD k PX.z).a (X.getD k PX.z).B.length (X.getD k PX.z).c) ∧ w.cell? ⟨b, off + k * 3 + 2, none⟩ = some (.bool (X.getD k PX.z).tw)) ∧
    Sl w (X.getD k PX.z).a (X.getD k PX.z).c (X.getD k PX.z).B

theorem LiesX.below {w w' : World} {p : Option Addr} {X : List PX} (h : LiesX w p X) (hb : Below w.heap.size w w') : LiesX w' p X := by
  rcases h with rfl | ⟨b, off, rfl, hlt, hc⟩
  · exact Or.inl rfl
  · exact Or.inr ⟨b, off, rfl, Nat.lt_of_lt_of_le hlt hb.size, fun k hk => ⟨⟨(hb.cell (p := ⟨b, off + k * 3, none⟩) hlt).trans (hc k hk).1.1, (hb.cell (p := ⟨b, off + k * 3 + 1, none⟩) hlt).trans (hc k hk).1.2.1, (hb.cell (p := ⟨b, off + k * 3 + 2, none⟩) hlt).trans (hc k hk).1.2.2⟩, (hc k hk).2.below hb⟩⟩

theorem spot_ofP {W : World} {a : Addr} {cs : List Value} (h1 : W.cells? 0 (a.add 0) 3 = some cs) : a.spot = none := by
  obtain ⟨_, hlen, hcell⟩ := World.cells?_some h1
  match cs, hlen with
  | [v0, v1, v2], _ =>
    have q0 := hcell 0 (by omega)
    obtain ⟨b, off, spot⟩ := a
    simpa [Addr.add] using World.cell?_spot q0

def PXAt (W : World) (b off : Nat) (o : PX) : Prop :=
  ((W.cell? ⟨b, off, none⟩ = some (.int .i64 o.at_) ∧ W.cell? ⟨b, off + 1, none⟩ = some (.slice o.a o.B.length o.c) ∧ W.cell? ⟨b, off + 2, none⟩ = some (.bool o.tw)) ∧ Sl W o.a o.c o.B) ∧ o.B.length ≤ maxLen ∧ Byts o.B

set_option maxRecDepth 100000 in
theorem px_of {H : Type} {enc : TypeId × Value → H} {W : World} {n : Nat} {b off : Nat} {i : Nat} {cs : List Value} {x : DataW H × List MemPlace}
    (h1 : W.cells? 0 ((⟨b, off, none⟩ : Addr).add (i * 3)) 3 = some cs) (h2 : DataW.trod enc Tryd.prog W 0 (fun _ => true) true n 57 cs = some x) :
    ∃ o : PX, PXAt W b (off + i * 3) o := by
  obtain ⟨_, hlen, hcell⟩ := World.cells?_some h1
  obtain ⟨y0, y1, y2, k, _, _, g0, g1, g2⟩ := trod_struct3 Tryd.underlying57 h2
  match cs, hlen with
  | [v0, v1, v2], _ =>
    simp only [cellsPi, cellsPb, cellsPo] at g0 g1 g2
    obtain ⟨k0, e0, w0⟩ := open_int_trod Tryd.underlying3 g0
    obtain ⟨a2, c2, l2, e2, hn2, hb2, hl2, hs2⟩ := open_bytes_trod g1
    obtain ⟨x3, e3, _⟩ := DataW.trod_bool Tryd.underlying4 g2
    have q0 := hcell 0 (by omega)
    have q1 := hcell 1 (by omega)
    have q2 := hcell 2 (by omega)
    simp at e3
    subst e0 e2 e3
    rw [add_plain, add_plain] at q0 q1 q2
    exact ⟨⟨k0, a2, l2, c2, x3⟩, ⟨⟨q0, q1, q2⟩, hs2⟩, hn2, hb2⟩

theorem open_pxs_trod {H : Type} {enc : TypeId × Value → H} {W : World} {fuel : Nat} {v : Value} {x : DataW H × List MemPlace}
    (hf : DataW.trod enc Tryd.prog W 0 (fun _ => true) true fuel 22 [v] = some x) :
    ∃ a cap L, v = .slice a (List.length L) cap ∧ L.length ≤ maxLen ∧ (∀ o ∈ L, o.B.length ≤ maxLen ∧ Byts o.B) ∧ LiesX W a L := by
  rcases open_slice Tryd.underlying22 hf with ⟨hcs, _⟩ | ⟨a, len, cap, m, n, D, Pl, hcs, _, hl, hm, hmm, _, hx⟩
  · simp at hcs
    subst hcs
    exact ⟨none, 0, [], rfl, by simp, by simp, Or.inl rfl⟩
  · simp at hcs
    subst hcs
    simp only [if_true] at hmm
    rw [cellsPx] at hx
    by_cases h0 : len = 0
    · subst h0
      exact ⟨some a, cap, [], rfl, by simp, by simp, Or.inl rfl⟩
    haveI : Inhabited PX := ⟨PX.z⟩
    have hs : a.spot = none := by
      obtain ⟨cs', h1, _⟩ := hx 0 (by omega)
      exact spot_ofP (by simpa using h1)
    obtain ⟨b, off, spot⟩ := a
    simp only at hs
    subst hs
    obtain ⟨q, hq⟩ := choose_lt (α := PX) (p := fun i o => PXAt W b (off + i * 3) o) (fun i (hi : i < m) => by
      obtain ⟨cs', h1, h2⟩ := hx i hi
      exact px_of h1 h2)
    obtain ⟨L, hL⟩ : ∃ L, L = (List.range len).map q := ⟨_, rfl⟩
    have hlen : L.length = len := by rw [hL]; simp
    have hget : ∀ r, r < len → L.getD r PX.z = q r := fun r hr => by rw [hL]; simp [hr]
    have hmem : ∀ x ∈ L, ∃ r, r < len ∧ x = q r := fun x hx => by
      rw [hL] at hx
      obtain ⟨r, hr, rfl⟩ := List.mem_map.1 hx
      exact ⟨r, by simpa using hr, rfl⟩
    refine ⟨some ⟨b, off, none⟩, cap, L, by rw [hlen], by omega, fun x hx => ?_, Or.inr ⟨b, off, rfl, lt_of_cell (hq 0 (by omega)).1.1.1, fun r hr => ?_⟩⟩
    · obtain ⟨r, hr, rfl⟩ := hmem x hx
      exact ⟨(hq r (by omega)).2.1, (hq r (by omega)).2.2⟩
    · rw [hget r (by omega)]
      exact (hq r (by omega)).1

theorem arr4x {cs : Array Value} (h : cs.size = 4) : ∃ c0 c1 c2 c3, cs = #[c0, c1, c2, c3] := by
  obtain ⟨l⟩ := cs
  match l, h with
  | [c0, c1, c2, c3], _ => exact ⟨c0, c1, c2, c3, rfl⟩

set_option maxRecDepth 100000 in
theorem open_fdisk {H : Type} {enc : TypeId × Value → H} {W : World} {base : Nat} {v : Value} {d : DataW H} {p : List MemPlace}
    (hv : Value.okWide Tryd.prog W .any base 24 v) (h : DataW.Trod enc Tryd.prog W 0 (fun _ => true) true 24 v d p) :
    ∃ (s e : Int) (a : Option Addr) (cap : Nat) (X : List PX) (r : Bool), v = .agg #[.int .i64 s, .int .i64 e, .slice a X.length cap, .bool r] ∧ X.length ≤ maxLen ∧ (∀ o ∈ X, o.B.length ≤ maxLen ∧ Byts o.B) ∧ LiesX W a X := by
  obtain ⟨cs, rfl, hsz⟩ := okWide_struct Tryd.underlying24 hv
  obtain ⟨c0, c1, c2, c3, rfl⟩ := arr4x (hsz.trans cellsPd)
  obtain ⟨fuel, hf⟩ := h
  obtain ⟨xs, n, _, hx, _, hlen, hall⟩ := DataW.trod_struct Tryd.underlying24 hf
  match xs, hlen with
  | [y0, y1, y2, y3], _ =>
    have h0 := hall 0 _ rfl
    have h1 := hall 1 _ rfl
    have h2 := hall 2 _ rfl
    have h3 := hall 3 _ rfl
    simp [Value.cells, cellsPi, cellsPs, cellsPo] at h0 h1 h2 h3
    obtain ⟨x1, q1, _, w1⟩ := DataW.trod_int Tryd.underlying3 h0
    obtain ⟨x2, q2, _, w2⟩ := DataW.trod_int Tryd.underlying3 h1
    obtain ⟨a, cap, L, q3, hl, hf3, hs⟩ := open_pxs_trod h2
    obtain ⟨x4, q4, _⟩ := DataW.trod_bool Tryd.underlying4 h3
    simp at q1 q2 q3 q4
    subst q1 q2 q3 q4
    exact ⟨x1, x2, a, cap, L, x4, rfl, hl, hf3, hs⟩

set_option maxRecDepth 100000 in
theorem open_i64r {H : Type} {enc : TypeId × Value → H} {W : World} {base : Nat} {v : Value} {d : DataW H} {ps : List MemPlace}
    (hok : Value.okWide Tryd.prog W .any base 25 v) (h : DataW.Trod enc Tryd.prog W 0 (fun _ => true) true 25 v d ps) :
    ∃ a cap L, v = .slice a (List.length L) cap ∧ L.length ≤ maxLen ∧ (∀ x ∈ L, -9223372036854775808 ≤ x ∧ x ≤ 9223372036854775807) ∧ LiesC W v L := by
  obtain ⟨a0, len0, cap0, rfl⟩ := okWide_slice Tryd.underlying25 hok
  obtain ⟨fuel, hf⟩ := h
  rcases open_slice1 Tryd.underlying25 cellsPj (by simpa [Value.cells] using hf) with ⟨hcs, _⟩ | ⟨a, len, cap, m, n, V, D, Pl, hcs, _, hl, hm, hmm, _, hx⟩
  · simp at hcs
    obtain ⟨rfl, rfl, rfl⟩ := hcs
    exact ⟨none, 0, [], rfl, by simp, by simp, ⟨none, 0, rfl, Or.inl rfl⟩⟩
  · simp at hcs
    obtain ⟨rfl, rfl, rfl⟩ := hcs
    simp only [if_true] at hmm
    by_cases h0 : len0 = 0
    · subst h0
      exact ⟨some a, cap0, [], rfl, by simp, by simp, ⟨some a, cap0, rfl, Or.inl rfl⟩⟩
    have hs : a.spot = none := by
      obtain ⟨h1, _⟩ := hx 0 (by omega)
      have q0 := h1
      obtain ⟨b, off, spot⟩ := a
      simpa [Addr.add] using World.cell?_spot q0
    obtain ⟨b, off, spot⟩ := a
    simp only at hs
    subst hs
    obtain ⟨q, hq⟩ := choose_lt (α := Int) (p := fun i x => W.cell? ⟨b, off + i, none⟩ = some (.int .i64 x) ∧ (-9223372036854775808 ≤ x ∧ x ≤ 9223372036854775807)) (fun i (hi : i < m) => by
      obtain ⟨h1, h2⟩ := hx i hi
      obtain ⟨k, e, w⟩ := open_int_trod Tryd.underlying2 h2
      rw [add_plain] at h1
      exact ⟨k, by rw [h1, e], wf_i64 w⟩)
    obtain ⟨L, hL⟩ : ∃ L, L = (List.range len0).map q := ⟨_, rfl⟩
    have hlen : L.length = len0 := by rw [hL]; simp
    refine ⟨some ⟨b, off, none⟩, cap0, L, by rw [hlen], by omega, fun x hx => ?_, ⟨some ⟨b, off, none⟩, cap0, by rw [hlen], Or.inr ⟨b, off, rfl, fun j z hz => ?_⟩⟩⟩
    · rw [hL] at hx
      obtain ⟨r, hr, rfl⟩ := List.mem_map.1 hx
      exact (hq r (by simp at hr; omega)).2
    · have hj : j < len0 := by
        have := (List.getElem?_eq_some_iff.1 hz).1
        omega
      rw [hL] at hz
      simp [hj] at hz
      rw [← hz]
      exact (hq j (by omega)).1
end Go.Proofs.YtcbbaoiefdbcpaaDoor.Oct
