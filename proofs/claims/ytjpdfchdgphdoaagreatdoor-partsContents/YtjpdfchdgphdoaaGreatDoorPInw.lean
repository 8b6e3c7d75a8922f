/- Inward: the whole units. -/
import Derived.Test.YtjpdfchdgphdoaaGreatDoorPAllRnd
namespace Go.Proofs.YtjpdfchdgphdoaaGreatDoor.Oct
open Go.RowKit Go.Shelf

attribute [local go_sem] Oper.semAt_some

def inwW (u : Int) (x : Int × Int) : Int × Int := (IntKind.i64.wrap (x.1 + IntKind.i64.wrap (-x.1) % u), IntKind.i64.wrap (x.2 - x.2 % u))

def inw (u : Int) (x : Int × Int) : Int × Int := (x.1 + (-x.1) % u, x.2 - x.2 % u)

def Near (L : List (Int × Int)) : Prop := ∀ p ∈ L, (-1125899906842624 ≤ p.1 ∧ p.1 ≤ 1125899906842624) ∧ (-1125899906842624 ≤ p.2 ∧ p.2 ≤ 1125899906842624)

theorem upto_map (N : List (Int × Int)) (f : Int × Int → Int × Int) : (upto N N.length).map (fun p => f p.2) = N.map f := by
  apply List.ext_getElem?
  intro k
  simp only [upto, List.map_map, List.getElem?_map]
  by_cases hk : k < N.length
  · rw [List.getElem?_range hk]
    simp [hk]
  · rw [List.getElem?_eq_none (by simpa using hk), List.getElem?_eq_none (by simpa using hk)]
    rfl

theorem Normed.near {L N : List (Int × Int)} (h : Normed L N) (hn : Near L) : Near N := by
  intro p hp
  obtain ⟨q, hq, e1⟩ := h.fst p hp
  obtain ⟨q', hq', e2⟩ := h.snd p hp
  have h1 := hn q hq
  have h2 := hn q' hq'
  omega

theorem inw_near {L : List (Int × Int)} (h : Near L) (u : Int) (hu : 1 ≤ u ∧ u ≤ 1125899906842624) : L.map (inwW u) = L.map (inw u) := by
  refine List.map_congr_left fun p hp => ?_
  have h1 := h p hp
  have h2 := Int.emod_nonneg (-p.1) (b := u) (by omega)
  have h3 := Int.emod_lt_of_pos (-p.1) (b := u) (by omega)
  have h4 := Int.emod_nonneg p.2 (b := u) (by omega)
  have h5 := Int.emod_lt_of_pos p.2 (b := u) (by omega)
  unfold inwW inw
  have e1 : IntKind.i64.wrap (-p.1) = -p.1 := by rw [IntKind.wrap_i64]; omega
  rw [e1]
  congr 1
  · rw [IntKind.wrap_i64]; omega
  · rw [IntKind.wrap_i64]; omega

end Go.Proofs.YtjpdfchdgphdoaaGreatDoor.Oct
