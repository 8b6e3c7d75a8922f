/- What the statement RefsPlays is given; its header, whatever number it is asked with. -/
import Derived.Test.YtiokjlckngkhnaaGreatRows
import Derived.Test.YtiokjlckngkhnaaGreatPRqq
import Derived.Test.YtiokjlckngkhnaaGreatPHdo
import Derived.ProofKit
import Derived.OpenShut
import Derived.Carry
import Derived.Lib.SmallJoins
import Derived.Deep.Slices
namespace Go.Proofs.YtiokjlckngkhnaaGreat.Oct
open Go.RowKit Go.Deep Go.ChangeShapes Go.WideShapes Go.ChangeAt

theorem head8_any (x : Int) (w : World) : Calls Tryz.prog 5 #[.int .i64 x] w fun e w' => ∃ H : Nat, 40 ≤ H ∧ H < 100 ∧ e = .returned (.agg #[.int .i64 9, .int .i64 32768, .int .i64 (H : Int), .int .i64 29, .bool false]) ∧ Below w.heap.size w w' := by
  obtain ⟨H, hH, h1, h2⟩ : ∃ H : Nat, wrap64 (40 + wrap64 ((IntKind.u64.wrap x).tmod 60)) = H ∧ 40 ≤ H ∧ H < 100 := by
    have h0 : 0 ≤ IntKind.u64.wrap x := by rw [IntKind.wrap_u64]; omega
    have e : (IntKind.u64.wrap x).tmod 60 = (IntKind.u64.wrap x) % 60 := Int.tmod_eq_emod_of_nonneg h0
    have h1 : 0 ≤ (IntKind.u64.wrap x) % 60 := Int.emod_nonneg _ (by omega)
    have h2 : (IntKind.u64.wrap x) % 60 < 60 := Int.emod_lt_of_pos _ (by omega)
    rw [e]
    generalize (IntKind.u64.wrap x) % 60 = y at *
    refine ⟨(40 + y).toNat, ?_, by omega, by omega⟩
    unfold wrap64
    omega
  go_enter Tryz.func5, Tryz.ntmps5
  go_wp2_with fail
  rw [hH]
  refine bodyPost_ret (results_cell_row rfl _ _ w.heap.size 25 _ (0, 0) _ rfl (heap_new9 w (.cells #[.int .i64 9, .int .i64 32768, .int .i64 (H : Int), .int .i64 29, .bool false] 25)) Tryz.underlying25 rfl (by kernel_rfl)) rfl ?_
  exact ⟨H, h1, h2, rfl, (Below.refl w.heap.size w).alloc (Nat.le_refl _) _⟩

abbrev O3 := Int × Int × Int
def o3 : O3 := (0, 0, 0)

/-- Operations lie from the address on. -/
def LiesO (w : World) (a : Option Addr) (L : List O3) : Prop :=
  L = [] ∨ ∃ b off, a = some ⟨b, off, none⟩ ∧ b < w.heap.size ∧ ∀ k, k < L.length → w.cell? ⟨b, off + k * 3, none⟩ = some (.int .i64 (L.getD k o3).1) ∧ w.cell? ⟨b, off + k * 3 + 1, none⟩ = some (.int .i64 (L.getD k o3).2.1) ∧ w.cell? ⟨b, off + k * 3 + 2, none⟩ = some (.int .i64 (L.getD k o3).2.2)

theorem cellsO1 : Tryz.prog.cellsOf 3 = 1 := by kernel_rfl
theorem cellsO2 : Tryz.prog.cellsOf 2 = 1 := by kernel_rfl
theorem cellsOp : Tryz.prog.cellsOf 41 = 3 := by kernel_rfl

theorem spot_ofO {W : World} {a : Addr} {cs : List Value} (h1 : W.cells? 0 (a.add 0) 3 = some cs) : a.spot = none := by
  obtain ⟨_, hlen, hcell⟩ := World.cells?_some h1
  match cs, hlen with
  | [v0, v1, v2], _ =>
    have q0 := hcell 0 (by omega)
    obtain ⟨b, off, spot⟩ := a
    simpa [Addr.add] using World.cell?_spot q0

set_option maxRecDepth 100000 in
theorem op_of {H : Type} {enc : TypeId × Value → H} {W : World} {n : Nat} {b off : Nat} {i : Nat} {cs : List Value} {x : DataW H × List MemPlace}
    (h1 : W.cells? 0 ((⟨b, off, none⟩ : Addr).add (i * 3)) 3 = some cs) (h2 : DataW.trod enc Tryz.prog W 0 (fun _ => true) true n 41 cs = some x) :
    ∃ o : O3, W.cell? ⟨b, off + i * 3, none⟩ = some (.int .i64 o.1) ∧ W.cell? ⟨b, off + i * 3 + 1, none⟩ = some (.int .i64 o.2.1) ∧ W.cell? ⟨b, off + i * 3 + 2, none⟩ = some (.int .i64 o.2.2) := by
  obtain ⟨_, hlen, hcell⟩ := World.cells?_some h1
  obtain ⟨xs, m, _, _, _, hlen2, hall⟩ := DataW.trod_struct Tryz.underlying41 h2
  match xs, hlen2 with
  | [y0, y1, y2], _ =>
  match cs, hlen with
  | [v0, v1, v2], _ =>
    have g0 := hall 0 _ rfl
    have g1 := hall 1 _ rfl
    have g2 := hall 2 _ rfl
    simp [cellsO1] at g0
    simp [cellsO2] at g1
    simp [cellsO1] at g2
    obtain ⟨x0, p0, _, w0⟩ := DataW.trod_int Tryz.underlying3 g0
    obtain ⟨x1, p1, _, w1⟩ := DataW.trod_int Tryz.underlying2 g1
    obtain ⟨x2, p2, _, w2⟩ := DataW.trod_int Tryz.underlying3 g2
    simp at p0 p1 p2
    have q0 := hcell 0 (by omega)
    have q1 := hcell 1 (by omega)
    have q2 := hcell 2 (by omega)
    subst p0 p1 p2
    rw [add_plain, add_plain] at q0 q1 q2
    exact ⟨(x0, x1, x2), q0, q1, q2⟩

set_option maxRecDepth 100000 in
theorem open_ops8_trod {H : Type} {enc : TypeId × Value → H} {W : World} {fuel : Nat} {v : Value} {x : DataW H × List MemPlace}
    (hf : DataW.trod enc Tryz.prog W 0 (fun _ => true) true fuel 22 [v] = some x) :
    ∃ a cap L, v = .slice a (List.length L) cap ∧ L.length ≤ maxLen ∧ LiesO W a L := by
  rcases open_slice Tryz.underlying22 hf with ⟨hcs, _⟩ | ⟨a, len, cap, m, n, D, Pl, hcs, _, hl, hm, hmm, _, hx⟩
  · simp at hcs
    subst hcs
    exact ⟨none, 0, [], rfl, by simp, Or.inl rfl⟩
  · simp at hcs
    subst hcs
    simp only [if_true] at hmm
    rw [cellsOp] at hx
    by_cases h0 : len = 0
    · subst h0
      exact ⟨some a, cap, [], rfl, by simp, Or.inl rfl⟩
    have hs : a.spot = none := by
      obtain ⟨cs', h1, _⟩ := hx 0 (by omega)
      exact spot_ofO (by simpa using h1)
    obtain ⟨b, off, spot⟩ := a
    simp only at hs
    subst hs
    obtain ⟨q, hq⟩ := choose_lt (α := O3) (p := fun i o => W.cell? ⟨b, off + i * 3, none⟩ = some (.int .i64 o.1) ∧ W.cell? ⟨b, off + i * 3 + 1, none⟩ = some (.int .i64 o.2.1) ∧ W.cell? ⟨b, off + i * 3 + 2, none⟩ = some (.int .i64 o.2.2)) (fun i (hi : i < m) => by
      obtain ⟨cs', h1, h2⟩ := hx i hi
      exact op_of h1 h2)
    obtain ⟨L, hL⟩ : ∃ L, L = (List.range len).map q := ⟨_, rfl⟩
    have hlen : L.length = len := by rw [hL]; simp
    have hget : ∀ r, r < len → L.getD r o3 = q r := fun r hr => by rw [hL]; simp [hr]
    refine ⟨some ⟨b, off, none⟩, cap, L, by rw [hlen], by omega, Or.inr ⟨b, off, rfl, lt_of_cell (hq 0 (by omega)).1, fun r hr => ?_⟩⟩
    rw [hget r (by omega)]
    exact hq r (by omega)

set_option maxRecDepth 100000 in
theorem open_ops8 {H : Type} {enc : TypeId × Value → H} {W : World} {base : Nat} {v : Value} {d : DataW H} {ps : List MemPlace}
    (hok : Value.okWide Tryz.prog W .any base 22 v) (h : DataW.Trod enc Tryz.prog W 0 (fun _ => true) true 22 v d ps) :
    ∃ a cap L, v = .slice a (List.length L) cap ∧ L.length ≤ maxLen ∧ LiesO W a L := by
  obtain ⟨a0, len, cap, rfl⟩ := okWide_slice Tryz.underlying22 hok
  obtain ⟨fuel, hf⟩ := h
  exact open_ops8_trod (by simpa [Value.cells] using hf)

/-- The first k of H numbers are 1. -/
def ones (H k : Nat) : List Int := (List.range H).map (fun n => if n < k then 1 else 0)
theorem ones_len (H k : Nat) : (ones H k).length = H := by simp [ones]
theorem ones_get (H k n : Nat) (hn : n < H) : (ones H k).getD n 0 = if n < k then 1 else 0 := by simp [ones, hn]
theorem ones_zero (H : Nat) : ones H 0 = List.replicate H 0 := by
  refine List.ext_getElem (by simp [ones]) (fun i h1 h2 => ?_)
  simp [ones]
theorem ones_set (H k : Nat) : (ones H k).set k 1 = ones H (k + 1) := by
  refine List.ext_getElem (by simp [ones]) (fun i h1 h2 => ?_)
  simp only [ones, List.getElem_set, List.getElem_map, List.getElem_range]
  by_cases he : k = i
  · subst he; simp
  · by_cases hlt : i < k
    · rw [if_neg he, if_pos hlt, if_pos (by omega)]
    · rw [if_neg he, if_neg hlt, if_neg (by omega)]

theorem loR_neg (c : Nat → Int) (k : Nat) : loR c k < 0 ↔ loR c k = -1 := by
  rcases loR_bd c k with h | ⟨n, h, _⟩ <;> omega

theorem check9 (H : Nat) (h1 : 40 ≤ H) (h2 : H < 100) : Hd.check ⟨9, 32768, (H : Int), 29, false⟩ = 0 := by
  have hall : ∀ n : Fin 100, 40 ≤ n.val → Hd.check ⟨9, 32768, (n.val : Int), 29, false⟩ = 0 := by decide
  exact hall ⟨H, h2⟩ h1
end Go.Proofs.YtiokjlckngkhnaaGreat.Oct
