/- The package variable that ext reads: its cells. -/
import Derived.Test.YtjmajjfknmjifaaDoorChecked
import Derived.Test.YtjmajjfknmjifaaDoorRows
import Derived.Test.YtjmajjfknmjifaaDoorPNumMem
import Derived.ProofKit
import Derived.OpenShut
import Derived.LaidMore
import Derived.ChangeSame
namespace Go.Proofs.YtjmajjfknmjifaaDoor.Oct
open Go.RowKit Go.ChangeShapes Go.WideShapes Go.ChangeAt

theorem cellsXi : Tryd.prog.cellsOf 3 = 1 := by kernel_rfl
theorem cellsXe : Tryd.prog.cellsOf 85 = 2 := by kernel_rfl
theorem cellsXv : Tryd.prog.cellsOf 84 = 1 := by kernel_rfl
theorem cellsXa : Tryd.prog.cellsOf 86 = 2 * 4 := by kernel_rfl

set_option maxRecDepth 100000 in
theorem pair_f4 {H : Type} {enc : TypeId × Value → H} {W : World} {sp : Nat → Bool} {held : Bool} {fuel : Nat} {cs : List Value} {x y : Int} {q : List MemPlace}
    (h : DataW.trod enc Tryd.prog W 0 sp held fuel 85 cs = some (.agg [.lit (.int .i64 x), .lit (.int .u32 y)], q)) : cs = [.int .i64 x, .int .u32 y] := by
  obtain ⟨xs, m, _, hx, hlen, hlen2, hall⟩ := DataW.trod_struct Tryd.underlying85 h
  rw [cellsXe] at hlen
  match xs, hlen2 with
  | [y0, y1], _ =>
  match cs, hlen with
  | [v0, v1], _ =>
    have g0 := hall 0 _ rfl
    have g1 := hall 1 _ rfl
    simp [cellsXi, cellsXv] at g0 g1
    obtain ⟨k0, e0, z0, _⟩ := DataW.trod_int Tryd.underlying3 g0
    obtain ⟨k1, e1, z1, _⟩ := DataW.trod_int Tryd.underlying84 g1
    simp at e0 e1
    subst e0 e1
    rw [z0, z1] at hx
    simp at hx
    obtain ⟨⟨h0, h1⟩, _⟩ := hx
    rw [h0, h1]

set_option maxRecDepth 100000 in
theorem row_f4 {H : Type} {enc : TypeId × Value → H} {W : World} {sp : Nat → Bool} {held : Bool} {fuel : Nat} {cs : List Value} {L : List (Int × Int)} {q : List MemPlace} (hL : L.length = 4)
    (h : DataW.trod enc Tryd.prog W 0 sp held fuel 86 cs = some (.agg (L.map (fun p => .agg [.lit (.int .i64 p.1), .lit (.int .u32 p.2)])), q)) :
    ∀ i, i < 4 → cs[i * 2]? = some (.int .i64 (L.getD i (0, 0)).1) ∧ cs[i * 2 + 1]? = some (.int .u32 (L.getD i (0, 0)).2) := by
  intro i hi
  obtain ⟨xs, m, _, hx, hlen, hn, hel⟩ := DataW.trod_array Tryd.underlying86 h
  have h1 := hel i hi
  rw [cellsXe] at h1
  simp only [Prod.mk.injEq, DataW.agg.injEq] at hx
  have hxi : xs[i]? = some (xs[i]'(by omega)) := List.getElem?_eq_getElem (by omega)
  have hd : (xs[i]'(by omega)).1 = .agg [.lit (.int .i64 (L.getD i (0, 0)).1), .lit (.int .u32 (L.getD i (0, 0)).2)] := by
    have h2 : (xs.map (·.1))[i]? = (L.map (fun p => DataW.agg (H := H) [.lit (.int .i64 p.1), .lit (.int .u32 p.2)]))[i]? := by rw [hx.1]
    rw [List.getElem?_map, List.getElem?_map, hxi, List.getElem?_eq_getElem (by omega)] at h2
    simp at h2
    rw [List.getD_eq_getElem?_getD, List.getElem?_eq_getElem (by omega)]
    exact h2
  rw [hxi] at h1
  obtain ⟨dd, qq⟩ : ∃ qq, xs[i]'(by omega) = (DataW.agg [.lit (.int .i64 (L.getD i (0, 0)).1), .lit (.int .u32 (L.getD i (0, 0)).2)], qq) := ⟨_, Prod.ext hd rfl⟩
  rw [qq] at h1
  have h3 := pair_f4 h1
  have e0 : ((cs.drop (i * 2)).take 2)[0]? = cs[i * 2]? := by simp
  have e1 : ((cs.drop (i * 2)).take 2)[1]? = cs[i * 2 + 1]? := by simp
  rw [h3] at e0 e1
  exact ⟨e0.symm, e1.symm⟩

theorem gF4 : Tryd.prog.globalNamed "fettle/ext.fixed4" = some 0 := by kernel_rfl
theorem tF4 : (Tryd.prog.globals[0]?).map (·.type) = some 86 := by kernel_rfl

def f4L : List (Int × Int) := [(20, 1), (24, 0), (76, 1), (100, 0)]

/-- The variable lies as the program lays it. -/
def VarX (W : World) : Prop := ∀ i, i < 4 → W.cell? ⟨0, i * 2, none⟩ = some (.int .i64 (f4L.getD i (0, 0)).1) ∧ W.cell? ⟨0, i * 2 + 1, none⟩ = some (.int .u32 (f4L.getD i (0, 0)).2)

set_option maxRecDepth 100000 in
theorem of_laidX {W : World} (h : laidMetH Tryd.prog Rows.extBlocksRow.laid W) : VarX W := by
  rw [MakeChecks.laidMetH_plain _ _ _ (by kernel_rfl)] at h
  obtain ⟨ps, ⟨g0, t0, cs0, f0, p0, q0, hg0, ht0, hv0, hd0, _, _⟩, _, _⟩ := h
  obtain rfl := Option.some.inj (gF4.symm.trans hg0)
  obtain rfl := Option.some.inj (tF4.symm.trans ht0)
  intro i hi
  obtain ⟨h1, h2⟩ := row_f4 (L := f4L) rfl hd0 i hi
  exact ⟨(World.var?_cell hg0 hv0 (i * 2)).trans (by simpa using h1), (World.var?_cell hg0 hv0 (i * 2 + 1)).trans (by simpa using h2)⟩

theorem VarX.below {w w' : World} (h : VarX w) (hb : Below w.heap.size w w') : VarX w' :=
  fun i hi => ⟨(hb.cell (p := ⟨0, i * 2, none⟩) (lt_of_cell (h i hi).1)).trans (h i hi).1, (hb.cell (p := ⟨0, i * 2 + 1, none⟩) (lt_of_cell (h i hi).1)).trans (h i hi).2⟩

theorem VarX.all {w : World} (h : VarX w) : w.cell? ⟨0, 0, none⟩ = some (.int .i64 20) ∧ w.cell? ⟨0, 1, none⟩ = some (.int .u32 1) ∧ w.cell? ⟨0, 2, none⟩ = some (.int .i64 24) ∧ w.cell? ⟨0, 3, none⟩ = some (.int .u32 0) ∧ w.cell? ⟨0, 4, none⟩ = some (.int .i64 76) ∧ w.cell? ⟨0, 5, none⟩ = some (.int .u32 1) ∧ w.cell? ⟨0, 6, none⟩ = some (.int .i64 100) ∧ w.cell? ⟨0, 7, none⟩ = some (.int .u32 0) :=
  ⟨(h 0 (by omega)).1, (h 0 (by omega)).2, (h 1 (by omega)).1, (h 1 (by omega)).2, (h 2 (by omega)).1, (h 2 (by omega)).2, (h 3 (by omega)).1, (h 3 (by omega)).2⟩

theorem ix_f4 (u : World) : (Instr.index 86 (.agg #[.int .i64 20, .int .u32 1, .int .i64 24, .int .u32 0, .int .i64 76, .int .u32 1, .int .i64 100, .int .u32 0]) (.int .i64 0)).run Tryd.prog u = .ok (.agg #[.int .i64 20, .int .u32 1]) u ∧ (Instr.index 86 (.agg #[.int .i64 20, .int .u32 1, .int .i64 24, .int .u32 0, .int .i64 76, .int .u32 1, .int .i64 100, .int .u32 0]) (.int .i64 1)).run Tryd.prog u = .ok (.agg #[.int .i64 24, .int .u32 0]) u ∧ (Instr.index 86 (.agg #[.int .i64 20, .int .u32 1, .int .i64 24, .int .u32 0, .int .i64 76, .int .u32 1, .int .i64 100, .int .u32 0]) (.int .i64 2)).run Tryd.prog u = .ok (.agg #[.int .i64 76, .int .u32 1]) u ∧ (Instr.index 86 (.agg #[.int .i64 20, .int .u32 1, .int .i64 24, .int .u32 0, .int .i64 76, .int .u32 1, .int .i64 100, .int .u32 0]) (.int .i64 3)).run Tryd.prog u = .ok (.agg #[.int .i64 100, .int .u32 0]) u := ⟨by kernel_rfl, by kernel_rfl, by kernel_rfl, by kernel_rfl⟩
end Go.Proofs.YtjmajjfknmjifaaDoor.Oct
