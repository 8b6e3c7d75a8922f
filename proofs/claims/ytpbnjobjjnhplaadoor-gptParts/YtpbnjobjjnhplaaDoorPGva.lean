/- The package variable that gpt reads: its cells. -/
import Derived.Test.YtpbnjobjjnhplaaDoorChecked
import Derived.Test.YtpbnjobjjnhplaaDoorRows
import Derived.Test.YtpbnjobjjnhplaaDoorPNumMem
import Derived.ProofKit
import Derived.OpenShut
import Derived.LaidMore
import Derived.ChangeSame
namespace Go.Proofs.YtpbnjobjjnhplaaDoor.Oct
open Go.RowKit Go.ChangeShapes Go.WideShapes Go.ChangeAt

theorem cellsGi : Tryd.prog.cellsOf 3 = 1 := by kernel_rfl
theorem cellsGe : Tryd.prog.cellsOf 153 = 2 := by kernel_rfl
theorem cellsGv : Tryd.prog.cellsOf 100 = 1 := by kernel_rfl
theorem cellsGa : Tryd.prog.cellsOf 154 = 2 * 4 := by kernel_rfl

set_option maxRecDepth 100000 in
theorem pair_fG {H : Type} {enc : TypeId × Value → H} {W : World} {sp : Nat → Bool} {held : Bool} {fuel : Nat} {cs : List Value} {x y : Int} {q : List MemPlace}
    (h : DataW.trod enc Tryd.prog W 0 sp held fuel 153 cs = some (.agg [.lit (.int .i64 x), .lit (.int .u32 y)], q)) : cs = [.int .i64 x, .int .u32 y] := by
  obtain ⟨xs, m, _, hx, hlen, hlen2, hall⟩ := DataW.trod_struct Tryd.underlying153 h
  rw [cellsGe] at hlen
  match xs, hlen2 with
  | [y0, y1], _ =>
  match cs, hlen with
  | [v0, v1], _ =>
    have g0 := hall 0 _ rfl
    have g1 := hall 1 _ rfl
    simp [cellsGi, cellsGv] at g0 g1
    obtain ⟨k0, e0, z0, _⟩ := DataW.trod_int Tryd.underlying3 g0
    obtain ⟨k1, e1, z1, _⟩ := DataW.trod_int Tryd.underlying100 g1
    simp at e0 e1
    subst e0 e1
    rw [z0, z1] at hx
    simp at hx
    obtain ⟨⟨h0, h1⟩, _⟩ := hx
    rw [h0, h1]

set_option maxRecDepth 100000 in
theorem row_fG {H : Type} {enc : TypeId × Value → H} {W : World} {sp : Nat → Bool} {held : Bool} {fuel : Nat} {cs : List Value} {L : List (Int × Int)} {q : List MemPlace} (hL : L.length = 4)
    (h : DataW.trod enc Tryd.prog W 0 sp held fuel 154 cs = some (.agg (L.map (fun p => .agg [.lit (.int .i64 p.1), .lit (.int .u32 p.2)])), q)) :
    ∀ i, i < 4 → cs[i * 2]? = some (.int .i64 (L.getD i (0, 0)).1) ∧ cs[i * 2 + 1]? = some (.int .u32 (L.getD i (0, 0)).2) := by
  intro i hi
  obtain ⟨xs, m, _, hx, hlen, hn, hel⟩ := DataW.trod_array Tryd.underlying154 h
  have h1 := hel i hi
  rw [cellsGe] at h1
  simp only [Prod.mk.injEq, DataW.agg.injEq] at hx
  have hxi : xs[i]? = some (xs[i]'(by omega)) := List.getElem?_eq_getElem (by omega)
  have hd : (xs[i]'(by omega)).1 = .agg [.lit (.int .i64 (L.getD i (0, 0)).1), .lit (.int .u32 (L.getD i (0, 0)).2)] := by
    have h2 : (xs.map (·.1))[i]? = (L.map (fun p => DataW.agg (H := H) [.lit (.int .i64 p.1), .lit (.int .u32 p.2)]))[i]? := by rw [hx.1]
    rw [List.getElem?_map, List.getElem?_map, hxi, List.getElem?_eq_getElem (by omega)] at h2
    simp at h2
    rw [List.getD_eq_getElem?_getD, List.getElem?_eq_getElem (by omega)]
    exact h2
  rw [hxi] at h1
  obtain ⟨dd, qq⟩ : ∃ qq, xs[i]'(by omega) = (DataW.agg [.lit (.int .i64 (L.getD i (0, 0)).1), .lit (.int .u32 (L.getD i (0, 0)).2)], qq) := ⟨_, Prod.ext hd rfl⟩
  rw [qq] at h1
  have h3 := pair_fG h1
  have e0 : ((cs.drop (i * 2)).take 2)[0]? = cs[i * 2]? := by simp
  have e1 : ((cs.drop (i * 2)).take 2)[1]? = cs[i * 2 + 1]? := by simp
  rw [h3] at e0 e1
  exact ⟨e0.symm, e1.symm⟩

theorem gFG : Tryd.prog.globalNamed "fettle/gpt.fixed" = some 0 := by kernel_rfl
theorem tFG : (Tryd.prog.globals[0]?).map (·.type) = some 154 := by kernel_rfl

def fxL : List (Int × Int) := [(8, 65536), (12, 92), (20, 0), (84, 128)]

/-- The variable lies as the program lays it. -/
def VarG (W : World) : Prop := ∀ i, i < 4 → W.cell? ⟨0, i * 2, none⟩ = some (.int .i64 (fxL.getD i (0, 0)).1) ∧ W.cell? ⟨0, i * 2 + 1, none⟩ = some (.int .u32 (fxL.getD i (0, 0)).2)

set_option maxRecDepth 100000 in
theorem of_laidG {W : World} (h : laidMetH Tryd.prog Rows.gptChecksRow.laid W) : VarG W := by
  rw [MakeChecks.laidMetH_plain _ _ _ (by kernel_rfl)] at h
  obtain ⟨ps, ⟨g0, t0, cs0, f0, p0, q0, hg0, ht0, hv0, hd0, _, _⟩, _, _⟩ := h
  obtain rfl := Option.some.inj (gFG.symm.trans hg0)
  obtain rfl := Option.some.inj (tFG.symm.trans ht0)
  intro i hi
  obtain ⟨h1, h2⟩ := row_fG (L := fxL) rfl hd0 i hi
  exact ⟨(World.var?_cell hg0 hv0 (i * 2)).trans (by simpa using h1), (World.var?_cell hg0 hv0 (i * 2 + 1)).trans (by simpa using h2)⟩

theorem VarG.below {w w' : World} (h : VarG w) (hb : Below w.heap.size w w') : VarG w' :=
  fun i hi => ⟨(hb.cell (p := ⟨0, i * 2, none⟩) (lt_of_cell (h i hi).1)).trans (h i hi).1, (hb.cell (p := ⟨0, i * 2 + 1, none⟩) (lt_of_cell (h i hi).1)).trans (h i hi).2⟩

theorem VarG.all {w : World} (h : VarG w) : w.cell? ⟨0, 0, none⟩ = some (.int .i64 8) ∧ w.cell? ⟨0, 1, none⟩ = some (.int .u32 65536) ∧ w.cell? ⟨0, 2, none⟩ = some (.int .i64 12) ∧ w.cell? ⟨0, 3, none⟩ = some (.int .u32 92) ∧ w.cell? ⟨0, 4, none⟩ = some (.int .i64 20) ∧ w.cell? ⟨0, 5, none⟩ = some (.int .u32 0) ∧ w.cell? ⟨0, 6, none⟩ = some (.int .i64 84) ∧ w.cell? ⟨0, 7, none⟩ = some (.int .u32 128) :=
  ⟨(h 0 (by omega)).1, (h 0 (by omega)).2, (h 1 (by omega)).1, (h 1 (by omega)).2, (h 2 (by omega)).1, (h 2 (by omega)).2, (h 3 (by omega)).1, (h 3 (by omega)).2⟩

theorem ix_fxG (u : World) : (Instr.index 154 (.agg #[.int .i64 8, .int .u32 65536, .int .i64 12, .int .u32 92, .int .i64 20, .int .u32 0, .int .i64 84, .int .u32 128]) (.int .i64 0)).run Tryd.prog u = .ok (.agg #[.int .i64 8, .int .u32 65536]) u ∧ (Instr.index 154 (.agg #[.int .i64 8, .int .u32 65536, .int .i64 12, .int .u32 92, .int .i64 20, .int .u32 0, .int .i64 84, .int .u32 128]) (.int .i64 1)).run Tryd.prog u = .ok (.agg #[.int .i64 12, .int .u32 92]) u ∧ (Instr.index 154 (.agg #[.int .i64 8, .int .u32 65536, .int .i64 12, .int .u32 92, .int .i64 20, .int .u32 0, .int .i64 84, .int .u32 128]) (.int .i64 2)).run Tryd.prog u = .ok (.agg #[.int .i64 20, .int .u32 0]) u ∧ (Instr.index 154 (.agg #[.int .i64 8, .int .u32 65536, .int .i64 12, .int .u32 92, .int .i64 20, .int .u32 0, .int .i64 84, .int .u32 128]) (.int .i64 3)).run Tryd.prog u = .ok (.agg #[.int .i64 84, .int .u32 128]) u := ⟨by kernel_rfl, by kernel_rfl, by kernel_rfl, by kernel_rfl⟩
end Go.Proofs.YtpbnjobjjnhplaaDoor.Oct
