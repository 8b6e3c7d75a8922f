/- floor, Inward and Moved, by the reference. -/
import Derived.Test.YtpbnjobjjnhplaaDoorPRndNrrInw
namespace Go.Proofs.YtpbnjobjjnhplaaDoor.Oct
open Go.RowKit

theorem tdiv_floor (x u : Int) (hu : 0 < u) : (x.tmod u < 0 → x.tdiv u - 1 = x / u) ∧ (¬ x.tmod u < 0 → x.tdiv u = x / u) := by
  have h1 : u * x.tdiv u + x.tmod u = x := Int.mul_tdiv_add_tmod x u
  have h2 : x.tmod u < u := Int.tmod_lt_of_pos x hu
  have h3 : -u < x.tmod u := by
    have h1 := Int.neg_tmod x u
    have h2 := Int.tmod_lt_of_pos (-x) (b := u) hu
    omega
  refine ⟨fun h => ?_, fun h => ?_⟩
  · refine ((Int.ediv_emod_unique hu (a := x) (r := x.tmod u + u) (q := x.tdiv u - 1)).2 ⟨?_, by omega, by omega⟩).1.symm
    rw [Int.mul_sub]
    omega
  · refine ((Int.ediv_emod_unique hu (a := x) (r := x.tmod u) (q := x.tdiv u)).2 ⟨by omega, by omega, by omega⟩).1.symm

theorem Refd.near {L N : List (Int × Int)} (h : Refd L N) (hn : Near L) : Near N := by
  intro p hp
  have hf := h.form.1 p hp
  obtain ⟨q, hq, h1, h2⟩ := (h.set p.1).1 ⟨p, hp, by omega, hf⟩
  obtain ⟨q', hq', h3, h4⟩ := (h.set (p.2 - 1)).1 ⟨p, hp, by omega, by omega⟩
  have h5 := hn q hq
  have h6 := hn q' hq'
  omega

/-- The whole units of parts, those that have one. -/
def units (u : Int) (N : List (Int × Int)) : List (Int × Int) := (N.map (inw u)).filter (fun p => decide (p.1 < p.2))

theorem units_set (u : Int) (N : List (Int × Int)) (x : Int) : InE (units u N) x ↔ InE (N.map (inw u)) x := by
  constructor
  · rintro ⟨p, hp, hx⟩
    exact ⟨p, (List.mem_filter.1 hp).1, hx⟩
  · rintro ⟨p, hp, hx⟩
    exact ⟨p, List.mem_filter.2 ⟨hp, by simp; omega⟩, hx⟩

theorem units_len (u : Int) (N : List (Int × Int)) : (units u N).length ≤ N.length := by
  unfold units
  exact Nat.le_trans (List.length_filter_le _ _) (by simp)

theorem units_step (u : Int) (N : List (Int × Int)) (k : Nat) (hk : k < N.length) : units u (N.take (k + 1)) = if (inw u (N.getD k (0, 0))).1 < (inw u (N.getD k (0, 0))).2 then units u (N.take k) ++ [inw u (N.getD k (0, 0))] else units u (N.take k) := by
  unfold units
  rw [take_step N k hk, List.map_append, List.filter_append]
  split
  · rename_i h
    rw [List.map_singleton, List.filter_cons_of_pos (by simpa using h)]
    simp
  · rename_i h
    rw [List.map_singleton, List.filter_cons_of_neg (by simpa using h)]
    simp

theorem units_steps (u : Int) (hu : 1 ≤ u) {N : List (Int × Int)} (hf : Form N) : Steps2 (units u N) := by
  refine ⟨fun p hp => by simpa using (List.mem_filter.1 hp).2, ?_⟩
  unfold units
  refine List.Pairwise.filter _ (List.pairwise_map.2 (hf.2.imp fun {a b} h => ?_))
  have h2 := Int.emod_nonneg (-b.1) (b := u) (by omega)
  have h4 := Int.emod_nonneg a.2 (b := u) (by omega)
  unfold inw
  dsimp only
  omega

theorem inw_div (u : Int) (x : Int × Int) : inw u x = (-((-x.1) / u) * u, x.2 / u * u) := by
  have h1 := Int.mul_ediv_add_emod (-x.1) u
  have h2 := Int.mul_ediv_add_emod x.2 u
  rw [Int.mul_comm] at h1 h2
  unfold inw
  rw [Int.neg_mul]
  congr 1
  · omega
  · omega

theorem div_near (x u : Int) (hu : 1 ≤ u) (hx : -1125899906842624 ≤ x ∧ x ≤ 1125899906842624) : -1125899906842624 ≤ x / u ∧ x / u ≤ 1125899906842624 :=
  ⟨(Int.le_ediv_iff_mul_le (by omega)).2 (by omega), Int.ediv_le_of_le_mul (by omega) (by omega)⟩

end Go.Proofs.YtpbnjobjjnhplaaDoor.Oct
