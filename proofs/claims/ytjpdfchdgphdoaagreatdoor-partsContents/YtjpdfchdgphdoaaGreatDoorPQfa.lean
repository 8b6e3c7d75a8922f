/- Paths that came in. -/
import Derived.Test.YtjpdfchdgphdoaaGreatDoorPOpen
import Derived.Test.YtjpdfchdgphdoaaGreatDoorPExv
import Derived.Lib.SmallJoins
import Derived.Deep.Slices
import Derived.SizedLaws
namespace Go.Proofs.YtjpdfchdgphdoaaGreatDoor.Oct
open Go.RowKit Go.Deep Go.ChangeShapes Go.WideShapes Go.ChangeAt

/-- A path as it lies: its name, kind and size, and where its runs lie. -/
structure PT where
  s : ByteArray
  k : Int
  z : Int
  a : Option Addr
  c : Nat
  L : List (Int × Int)

def PT.nil : PT := ⟨ByteArray.empty, 0, 0, none, 0, []⟩

def PtAt (W : World) (b off : Nat) (o : PT) : Prop :=
  (W.cell? ⟨b, off, none⟩ = some (.string o.s) ∧ W.cell? ⟨b, off + 1, none⟩ = some (.int .i64 o.k) ∧ W.cell? ⟨b, off + 2, none⟩ = some (.int .i64 o.z) ∧ W.cell? ⟨b, off + 3, none⟩ = some (.slice o.a o.L.length o.c)) ∧ LiesE W o.a o.L

def LiesT (w : World) (a : Option Addr) (L : List PT) : Prop := L = [] ∨ ∃ b off, a = some ⟨b, off, none⟩ ∧ b < w.heap.size ∧ ∀ k, k < L.length → PtAt w b (off + k * 4) (L.getD k PT.nil)

theorem PtAt.below {w w' : World} {b off : Nat} {o : PT} (h : PtAt w b off o) (hlt : b < w.heap.size) (hb : Below w.heap.size w w') : PtAt w' b off o := by
  obtain ⟨⟨h0, h1, h2, h3⟩, h4⟩ := h
  exact ⟨⟨(hb.cell (p := ⟨b, off, none⟩) hlt).trans h0, (hb.cell (p := ⟨b, off + 1, none⟩) hlt).trans h1, (hb.cell (p := ⟨b, off + 2, none⟩) hlt).trans h2, (hb.cell (p := ⟨b, off + 3, none⟩) hlt).trans h3⟩, h4.below hb⟩

theorem LiesT.below {w w' : World} {a : Option Addr} {L : List PT} (h : LiesT w a L) (hb : Below w.heap.size w w') : LiesT w' a L := by
  rcases h with h | ⟨b, off, ha, hlt, hc⟩
  · exact Or.inl h
  · exact Or.inr ⟨b, off, ha, Nat.lt_of_lt_of_le hlt hb.size, fun k hk => (hc k hk).below hlt hb⟩

theorem cellsTi : Tryz.prog.cellsOf 3 = 1 := by kernel_rfl
theorem cellsTj : Tryz.prog.cellsOf 2 = 1 := by kernel_rfl
theorem cellsTs : Tryz.prog.cellsOf 9 = 1 := by kernel_rfl
theorem cellsTe : Tryz.prog.cellsOf 24 = 2 := by kernel_rfl
theorem cellsTr : Tryz.prog.cellsOf 40 = 1 := by kernel_rfl
theorem cellsTp : Tryz.prog.cellsOf 42 = 4 := by kernel_rfl

theorem bytesTe : Tryz.prog.bytesOf 24 = 16 := by kernel_rfl

theorem all_mem {H : Type} {P : Program} {e : TypeId} : ∀ (l : List (DataW H)) (d : DataW H), d ∈ l → ∀ n ∈ d.weights P e, n ∈ DataW.weightsAll P e l
  | [], d, h, n, hn => by cases h
  | x :: l, d, h, n, hn => by
    simp only [DataW.weightsAll, List.mem_append]
    rcases List.mem_cons.1 h with rfl | h
    · exact Or.inl hn
    · exact Or.inr (all_mem l d h n hn)

theorem spot_ofT {W : World} {a : Addr} {n : Nat} {cs : List Value} (h1 : W.cells? 0 (a.add 0) (n + 1) = some cs) : a.spot = none := by
  obtain ⟨_, hlen, hcell⟩ := World.cells?_some h1
  match cs, hlen with
  | v0 :: vs, _ =>
    have q0 := hcell 0 (by omega)
    obtain ⟨b, off, spot⟩ := a
    simpa [Addr.add] using World.cell?_spot q0

set_option maxRecDepth 100000 in
theorem ext_ofT {H : Type} {enc : TypeId × Value → H} {W : World} {n : Nat} {b off : Nat} {i : Nat} {cs : List Value} {x : DataW H × List MemPlace}
    (h1 : W.cells? 0 ((⟨b, off, none⟩ : Addr).add (i * 2)) 2 = some cs) (h2 : DataW.trod enc Tryz.prog W 0 (fun _ => true) true n 24 cs = some x) :
    ∃ o : Int × Int, W.cell? ⟨b, off + i * 2, none⟩ = some (.int .i64 o.1) ∧ W.cell? ⟨b, off + i * 2 + 1, none⟩ = some (.int .i64 o.2) := by
  obtain ⟨_, hlen, hcell⟩ := World.cells?_some h1
  obtain ⟨y0, y1, k, _, _, g0, g1⟩ := trod_struct2 Tryz.underlying24 h2
  match cs, hlen with
  | [v0, v1], _ =>
    simp [cellsTj] at g0 g1
    obtain ⟨k0, e0, _⟩ := DataW.trod_int Tryz.underlying2 g0
    obtain ⟨k1, e1, _⟩ := DataW.trod_int Tryz.underlying2 g1
    simp at e0 e1
    have q0 := hcell 0 (by omega)
    have q1 := hcell 1 (by omega)
    subst e0 e1
    rw [add_plain, add_plain] at q0 q1
    exact ⟨(k0, k1), q0, q1⟩

set_option maxRecDepth 100000 in
theorem open_extsT {H : Type} {enc : TypeId × Value → H} {W : World} {fuel : Nat} {v : Value} {x : DataW H × List MemPlace}
    (hf : DataW.trod enc Tryz.prog W 0 (fun _ => true) true fuel 40 [v] = some x) :
    ∃ a cap L, v = .slice a (List.length L) cap ∧ L.length ≤ maxLen ∧ LiesE W a L ∧ ((∀ n ∈ x.1.weights Tryz.prog 40, n ≤ 140737488351232) → L.length * 16 ≤ 140737488351232) := by
  rcases open_slice Tryz.underlying40 hf with ⟨hcs, _⟩ | ⟨a, len, cap, m, n, D, Pl, hcs, _, hl, hm, hmm, hxe, hx⟩
  · simp at hcs
    subst hcs
    exact ⟨none, 0, [], rfl, by simp, Or.inl rfl, fun _ => by simp⟩
  · simp at hcs
    subst hcs
    simp only [if_true] at hmm
    rw [cellsTe] at hx
    by_cases h0 : len = 0
    · subst h0
      exact ⟨some a, cap, [], rfl, by simp, Or.inl rfl, fun _ => by simp⟩
    have hs : a.spot = none := by
      obtain ⟨cs', h1, _⟩ := hx 0 (by omega)
      exact spot_ofT (n := 1) (by simpa using h1)
    obtain ⟨b, off, spot⟩ := a
    simp only at hs
    subst hs
    obtain ⟨q, hq⟩ := choose_lt (α := Int × Int) (p := fun i o => W.cell? ⟨b, off + i * 2, none⟩ = some (.int .i64 o.1) ∧ W.cell? ⟨b, off + i * 2 + 1, none⟩ = some (.int .i64 o.2)) (fun i (hi : i < m) => by
      obtain ⟨cs', h1, h2⟩ := hx i hi
      exact ext_ofT h1 h2)
    obtain ⟨L, hL⟩ : ∃ L, L = (List.range len).map q := ⟨_, rfl⟩
    have hlen : L.length = len := by rw [hL]; simp
    have hget : ∀ r, r < len → L.getD r (0, 0) = q r := fun r hr => by rw [hL]; simp [hr]
    refine ⟨some ⟨b, off, none⟩, cap, L, by rw [hlen], by omega, Or.inr ⟨b, off, rfl, lt_of_cell (hq 0 (by omega)).1, fun r hr => ?_⟩, fun hw => ?_⟩
    · rw [hget r (by omega)]
      exact hq r (by omega)
    · rw [hxe] at hw
      have := hw ((len + (m - len)) * Tryz.prog.bytesOf 24) (by simp [DataW.weights, Tryz.underlying40])
      rw [bytesTe] at this
      rw [hlen]
      omega

set_option maxRecDepth 100000 in
theorem pt_of {H : Type} {enc : TypeId × Value → H} {W : World} {n : Nat} {b off : Nat} {i : Nat} {cs : List Value} {x : DataW H × List MemPlace}
    (h1 : W.cells? 0 ((⟨b, off, none⟩ : Addr).add (i * 4)) 4 = some cs) (h2 : DataW.trod enc Tryz.prog W 0 (fun _ => true) true n 42 cs = some x) :
    ∃ r : PT, PtAt W b (off + i * 4) r ∧ r.L.length ≤ maxLen ∧ (-9223372036854775808 ≤ r.z ∧ r.z ≤ 9223372036854775807) ∧ ((∀ n ∈ x.1.weights Tryz.prog 42, n ≤ 140737488351232) → r.L.length * 16 ≤ 140737488351232) := by
  obtain ⟨_, hlen, hcell⟩ := World.cells?_some h1
  obtain ⟨xs, m, _, hxe, _, hlen2, hall⟩ := DataW.trod_struct Tryz.underlying42 h2
  match xs, hlen2 with
  | [y0, y1, y2, y3], _ =>
  match cs, hlen with
  | [v0, v1, v2, v3], _ =>
    have g0 := hall 0 _ rfl
    have g1 := hall 1 _ rfl
    have g2 := hall 2 _ rfl
    have g3 := hall 3 _ rfl
    simp [cellsTs, cellsTi, cellsTj, cellsTr] at g0 g1 g2 g3
    obtain ⟨s, e0, _⟩ := DataW.trod_string Tryz.underlying9 g0
    obtain ⟨k1, e1, _⟩ := DataW.trod_int Tryz.underlying3 g1
    obtain ⟨k2, e2, _, w2⟩ := DataW.trod_int Tryz.underlying2 g2
    obtain ⟨a3, c3, l3, e3, hn3, hl3, hz3⟩ := open_extsT g3
    simp at e0 e1 e2
    have q0 := hcell 0 (by omega)
    have q1 := hcell 1 (by omega)
    have q2 := hcell 2 (by omega)
    have q3 := hcell 3 (by omega)
    subst e0 e1 e2 e3
    rw [add_plain, add_plain] at q0 q1 q2 q3
    exact ⟨⟨s, k1, k2, a3, c3, l3⟩, ⟨⟨q0, q1, q2, q3⟩, hl3⟩, hn3, wf_i64 w2, fun hw => hz3 (fun n hn => hw n (by
      rw [hxe]
      simp only [DataW.weights, Tryz.underlying42]
      exact DataW.weights_mem_each (j := 3) rfl rfl n hn))⟩

set_option maxRecDepth 100000 in
theorem open_paths {H : Type} {enc : TypeId × Value → H} {W : World} {base : Nat} {v : Value} {d : DataW H} {ps : List MemPlace}
    (hok : Value.okWide Tryz.prog W .any base 39 v) (h : DataW.Trod enc Tryz.prog W 0 (fun _ => true) true 39 v d ps) (hz : ∀ n ∈ d.weights Tryz.prog 39, n ≤ 140737488351232) :
    ∃ a cap, ∃ L : List PT, v = .slice a (List.length L) cap ∧ L.length ≤ maxLen ∧ (∀ r ∈ L, (PT.L r).length * 16 ≤ 140737488351232) ∧ (∀ r ∈ L, -9223372036854775808 ≤ PT.z r ∧ PT.z r ≤ 9223372036854775807) ∧ LiesT W a L := by
  obtain ⟨a0, len, cap, rfl⟩ := okWide_slice Tryz.underlying39 hok
  obtain ⟨fuel, hf⟩ := h
  have hf : DataW.trod enc Tryz.prog W 0 (fun _ => true) true fuel 39 [.slice a0 len cap] = some (d, ps) := by simpa [Value.cells] using hf
  rcases open_slice Tryz.underlying39 hf with ⟨hcs, _⟩ | ⟨a, len, cap, m, n, D, Pl, hcs, _, hl, hm, hmm, hxe, hx⟩
  · simp at hcs
    obtain ⟨rfl, rfl, rfl⟩ := hcs
    exact ⟨none, 0, [], rfl, by simp, fun r hr => (by cases hr), fun r hr => (by cases hr), Or.inl rfl⟩
  · simp at hcs
    obtain ⟨rfl, rfl, rfl⟩ := hcs
    simp only [if_true] at hmm
    rw [cellsTp] at hx
    by_cases h0 : len = 0
    · subst h0
      exact ⟨some a, cap, [], rfl, by simp, fun r hr => (by cases hr), fun r hr => (by cases hr), Or.inl rfl⟩
    haveI : Inhabited PT := ⟨PT.nil⟩
    have hs : a.spot = none := by
      obtain ⟨cs', h1, _⟩ := hx 0 (by omega)
      exact spot_ofT (n := 3) (by simpa using h1)
    obtain ⟨b, off, spot⟩ := a
    simp only at hs
    subst hs
    obtain ⟨q, hq⟩ := choose_lt (α := PT) (p := fun i o => PtAt W b (off + i * 4) o ∧ (i < len → o.L.length * 16 ≤ 140737488351232) ∧ (-9223372036854775808 ≤ o.z ∧ o.z ≤ 9223372036854775807)) (fun i (hi : i < m) => by
      obtain ⟨cs', h1, h2⟩ := hx i hi
      obtain ⟨r, r1, _, r3, r4⟩ := pt_of h1 h2
      refine ⟨r, r1, fun hil => r4 (fun n hn => hz n ?_), r3⟩
      simp only [Prod.mk.injEq] at hxe
      rw [hxe.1]
      simp only [DataW.weights, Tryz.underlying39, List.mem_cons, List.mem_append]
      exact Or.inr (Or.inl (all_mem _ (D i) (List.mem_map.2 ⟨i, List.mem_range.2 hil, rfl⟩) n hn)))
    obtain ⟨L, hL⟩ : ∃ L, L = (List.range len).map q := ⟨_, rfl⟩
    have hlen : L.length = len := by rw [hL]; simp
    have hget : ∀ r, r < len → L.getD r PT.nil = q r := fun r hr => by rw [hL]; simp [hr]
    refine ⟨some ⟨b, off, none⟩, cap, L, by rw [hlen], by omega, fun r hr => ?_, fun r hr => ?_, Or.inr ⟨b, off, rfl, lt_of_cell (hq 0 (by omega)).1.1.1, fun r hr => ?_⟩⟩
    · rw [hL] at hr
      obtain ⟨k, hk, rfl⟩ := List.mem_map.1 hr
      exact (hq k (by have := List.mem_range.1 hk; omega)).2.1 (List.mem_range.1 hk)
    · rw [hL] at hr
      obtain ⟨k, hk, rfl⟩ := List.mem_map.1 hr
      exact (hq k (by have := List.mem_range.1 hk; omega)).2.2
    · rw [hget r (by omega)]; exact (hq r (by omega)).1
end Go.Proofs.YtjpdfchdgphdoaaGreatDoor.Oct
