/- The package variables that fat reads: their cells. -/
import Derived.Test.YtcbbaoiefdbcpaaDoorChecked
import Derived.Test.YtcbbaoiefdbcpaaDoorRows
import Derived.ProofKit
import Derived.OpenShut
import Derived.LaidMore
import Derived.ChangeSame
namespace Go.Proofs.YtcbbaoiefdbcpaaDoor.Oct
open Go.RowKit Go.ChangeShapes Go.WideShapes Go.ChangeAt

theorem cellsVi : Tryd.prog.cellsOf 3 = 1 := by kernel_rfl

theorem cellsE_signs : Tryd.prog.cellsOf 115 = 2 := by kernel_rfl
theorem cellsV_signs : Tryd.prog.cellsOf 96 = 1 := by kernel_rfl
theorem cellsA_signs : Tryd.prog.cellsOf 116 = 2 * 3 := by kernel_rfl

set_option maxRecDepth 100000 in
theorem pair_signs {H : Type} {enc : TypeId × Value → H} {W : World} {sp : Nat → Bool} {held : Bool} {fuel : Nat} {cs : List Value} {x y : Int} {q : List MemPlace}
    (h : DataW.trod enc Tryd.prog W 0 sp held fuel 115 cs = some (.agg [.lit (.int .i64 x), .lit (.int .u32 y)], q)) : cs = [.int .i64 x, .int .u32 y] := by
  obtain ⟨xs, m, _, hx, hlen, hlen2, hall⟩ := DataW.trod_struct Tryd.underlying115 h
  rw [cellsE_signs] at hlen
  match xs, hlen2 with
  | [y0, y1], _ =>
  match cs, hlen with
  | [v0, v1], _ =>
    have g0 := hall 0 _ rfl
    have g1 := hall 1 _ rfl
    simp [cellsVi, cellsV_signs] at g0 g1
    obtain ⟨k0, e0, z0, _⟩ := DataW.trod_int Tryd.underlying3 g0
    obtain ⟨k1, e1, z1, _⟩ := DataW.trod_int Tryd.underlying96 g1
    simp at e0 e1
    subst e0 e1
    rw [z0, z1] at hx
    simp at hx
    obtain ⟨⟨h0, h1⟩, _⟩ := hx
    rw [h0, h1]

set_option maxRecDepth 100000 in
theorem row_signs {H : Type} {enc : TypeId × Value → H} {W : World} {sp : Nat → Bool} {held : Bool} {fuel : Nat} {cs : List Value} {L : List (Int × Int)} {q : List MemPlace} (hL : L.length = 3)
    (h : DataW.trod enc Tryd.prog W 0 sp held fuel 116 cs = some (.agg (L.map (fun p => .agg [.lit (.int .i64 p.1), .lit (.int .u32 p.2)])), q)) :
    ∀ i, i < 3 → cs[i * 2]? = some (.int .i64 (L.getD i (0, 0)).1) ∧ cs[i * 2 + 1]? = some (.int .u32 (L.getD i (0, 0)).2) := by
  intro i hi
  obtain ⟨xs, m, _, hx, hlen, hn, hel⟩ := DataW.trod_array Tryd.underlying116 h
  have h1 := hel i hi
  rw [cellsE_signs] at h1
  simp only [Prod.mk.injEq, DataW.agg.injEq] at hx
  have hxi : xs[i]? = some (xs[i]'(by omega)) := List.getElem?_eq_getElem (by omega)
  have hd : (xs[i]'(by omega)).1 = .agg [.lit (.int .i64 (L.getD i (0, 0)).1), .lit (.int .u32 (L.getD i (0, 0)).2)] := by
    have h2 : (xs.map (·.1))[i]? = (L.map (fun p => DataW.agg (H := H) [.lit (.int .i64 p.1), .lit (.int .u32 p.2)]))[i]? := by rw [hx.1]
    rw [List.getElem?_map, List.getElem?_map, hxi, List.getElem?_eq_getElem (by omega)] at h2
    simp at h2
    rw [List.getD_eq_getElem?_getD, List.getElem?_eq_getElem (by omega)]
    exact h2
  rw [hxi] at h1
  obtain ⟨dd, qq⟩ : ∃ qq, xs[i]'(by omega) = (DataW.agg [.lit (.int .i64 (L.getD i (0, 0)).1), .lit (.int .u32 (L.getD i (0, 0)).2)], qq) := ⟨_, Prod.ext hd rfl⟩
  rw [qq] at h1
  have h3 := pair_signs h1
  have e0 : ((cs.drop (i * 2)).take 2)[0]? = cs[i * 2]? := by simp
  have e1 : ((cs.drop (i * 2)).take 2)[1]? = cs[i * 2 + 1]? := by simp
  rw [h3] at e0 e1
  exact ⟨e0.symm, e1.symm⟩

theorem cellsE_fixed2 : Tryd.prog.cellsOf 111 = 2 := by kernel_rfl
theorem cellsV_fixed2 : Tryd.prog.cellsOf 110 = 1 := by kernel_rfl
theorem cellsA_fixed2 : Tryd.prog.cellsOf 112 = 2 * 6 := by kernel_rfl

set_option maxRecDepth 100000 in
theorem pair_fixed2 {H : Type} {enc : TypeId × Value → H} {W : World} {sp : Nat → Bool} {held : Bool} {fuel : Nat} {cs : List Value} {x y : Int} {q : List MemPlace}
    (h : DataW.trod enc Tryd.prog W 0 sp held fuel 111 cs = some (.agg [.lit (.int .i64 x), .lit (.int .u16 y)], q)) : cs = [.int .i64 x, .int .u16 y] := by
  obtain ⟨xs, m, _, hx, hlen, hlen2, hall⟩ := DataW.trod_struct Tryd.underlying111 h
  rw [cellsE_fixed2] at hlen
  match xs, hlen2 with
  | [y0, y1], _ =>
  match cs, hlen with
  | [v0, v1], _ =>
    have g0 := hall 0 _ rfl
    have g1 := hall 1 _ rfl
    simp [cellsVi, cellsV_fixed2] at g0 g1
    obtain ⟨k0, e0, z0, _⟩ := DataW.trod_int Tryd.underlying3 g0
    obtain ⟨k1, e1, z1, _⟩ := DataW.trod_int Tryd.underlying110 g1
    simp at e0 e1
    subst e0 e1
    rw [z0, z1] at hx
    simp at hx
    obtain ⟨⟨h0, h1⟩, _⟩ := hx
    rw [h0, h1]

set_option maxRecDepth 100000 in
theorem row_fixed2 {H : Type} {enc : TypeId × Value → H} {W : World} {sp : Nat → Bool} {held : Bool} {fuel : Nat} {cs : List Value} {L : List (Int × Int)} {q : List MemPlace} (hL : L.length = 6)
    (h : DataW.trod enc Tryd.prog W 0 sp held fuel 112 cs = some (.agg (L.map (fun p => .agg [.lit (.int .i64 p.1), .lit (.int .u16 p.2)])), q)) :
    ∀ i, i < 6 → cs[i * 2]? = some (.int .i64 (L.getD i (0, 0)).1) ∧ cs[i * 2 + 1]? = some (.int .u16 (L.getD i (0, 0)).2) := by
  intro i hi
  obtain ⟨xs, m, _, hx, hlen, hn, hel⟩ := DataW.trod_array Tryd.underlying112 h
  have h1 := hel i hi
  rw [cellsE_fixed2] at h1
  simp only [Prod.mk.injEq, DataW.agg.injEq] at hx
  have hxi : xs[i]? = some (xs[i]'(by omega)) := List.getElem?_eq_getElem (by omega)
  have hd : (xs[i]'(by omega)).1 = .agg [.lit (.int .i64 (L.getD i (0, 0)).1), .lit (.int .u16 (L.getD i (0, 0)).2)] := by
    have h2 : (xs.map (·.1))[i]? = (L.map (fun p => DataW.agg (H := H) [.lit (.int .i64 p.1), .lit (.int .u16 p.2)]))[i]? := by rw [hx.1]
    rw [List.getElem?_map, List.getElem?_map, hxi, List.getElem?_eq_getElem (by omega)] at h2
    simp at h2
    rw [List.getD_eq_getElem?_getD, List.getElem?_eq_getElem (by omega)]
    exact h2
  rw [hxi] at h1
  obtain ⟨dd, qq⟩ : ∃ qq, xs[i]'(by omega) = (DataW.agg [.lit (.int .i64 (L.getD i (0, 0)).1), .lit (.int .u16 (L.getD i (0, 0)).2)], qq) := ⟨_, Prod.ext hd rfl⟩
  rw [qq] at h1
  have h3 := pair_fixed2 h1
  have e0 : ((cs.drop (i * 2)).take 2)[0]? = cs[i * 2]? := by simp
  have e1 : ((cs.drop (i * 2)).take 2)[1]? = cs[i * 2 + 1]? := by simp
  rw [h3] at e0 e1
  exact ⟨e0.symm, e1.symm⟩

theorem gSigns : Tryd.prog.globalNamed "fettle/fat.signs" = some 1 := by kernel_rfl
theorem gFixed : Tryd.prog.globalNamed "fettle/fat.fixed2" = some 0 := by kernel_rfl
theorem tSigns : (Tryd.prog.globals[1]?).map (·.type) = some 116 := by kernel_rfl
theorem tFixed : (Tryd.prog.globals[0]?).map (·.type) = some 112 := by kernel_rfl

def sgL : List (Int × Int) := [(0, 1096897106), (484, 1631679090), (508, 2857697280)]
def fxL : List (Int × Int) := [(11, 512), (17, 0), (19, 0), (22, 0), (40, 0), (42, 0)]

/-- The variables lie as the program lays them. -/
def Vars (W : World) : Prop := (∀ i, i < 3 → W.cell? ⟨1, i * 2, none⟩ = some (.int .i64 (sgL.getD i (0, 0)).1) ∧ W.cell? ⟨1, i * 2 + 1, none⟩ = some (.int .u32 (sgL.getD i (0, 0)).2)) ∧
  (∀ i, i < 6 → W.cell? ⟨0, i * 2, none⟩ = some (.int .i64 (fxL.getD i (0, 0)).1) ∧ W.cell? ⟨0, i * 2 + 1, none⟩ = some (.int .u16 (fxL.getD i (0, 0)).2))

set_option maxRecDepth 100000 in
theorem of_laid {W : World} (h : laidMetH Tryd.prog Rows.fatChainsRow.laid W) : Vars W := by
  rw [MakeChecks.laidMetH_plain _ _ _ (by kernel_rfl)] at h
  obtain ⟨ps, ⟨g0, t0, cs0, f0, p0, q0, hg0, ht0, hv0, hd0, ⟨g1, t1, cs1, f1, p1, q1, hg1, ht1, hv1, hd1, _, _⟩, _⟩, _, _⟩ := h
  obtain rfl := Option.some.inj (gFixed.symm.trans hg0)
  obtain rfl := Option.some.inj (gSigns.symm.trans hg1)
  obtain rfl := Option.some.inj (tFixed.symm.trans ht0)
  obtain rfl := Option.some.inj (tSigns.symm.trans ht1)
  refine ⟨fun i hi => ?_, fun i hi => ?_⟩
  · obtain ⟨h1, h2⟩ := row_signs (L := sgL) rfl hd1 i hi
    exact ⟨(World.var?_cell hg1 hv1 (i * 2)).trans (by simpa using h1), (World.var?_cell hg1 hv1 (i * 2 + 1)).trans (by simpa using h2)⟩
  · obtain ⟨h1, h2⟩ := row_fixed2 (L := fxL) rfl hd0 i hi
    exact ⟨(World.var?_cell hg0 hv0 (i * 2)).trans (by simpa using h1), (World.var?_cell hg0 hv0 (i * 2 + 1)).trans (by simpa using h2)⟩
end Go.Proofs.YtcbbaoiefdbcpaaDoor.Oct
