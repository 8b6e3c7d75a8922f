/- A journal over bytes; the small example of layer 6. -/
import Derived.Test.YtgmifbknmjdemaaGreatPTyk
import Derived.Lib.SlBytesConst
namespace Go.Proofs.YtgmifbknmjdemaaGreat.Oct
open Go.RowKit Go.Deep Go.Sort

theorem mem2 {M : Int → List Int} {n : Nat} (hl : (M (n : Int)).length = 512) : 2 ∈ M (n : Int) ↔ ∃ j, j < 512 ∧ mkT M (512 * n + j) = 2 := by
  have e : ∀ j, j < 512 → mkT M (512 * n + j) = (M (n : Int)).getD j 0 := fun j hj => by
    unfold mkT
    rw [show (512 * n + j) / 512 = n by omega, show (512 * n + j) % 512 = j by omega]
  constructor
  · intro h
    obtain ⟨j, hj, hv⟩ := List.getElem_of_mem h
    refine ⟨j, by omega, ?_⟩
    rw [e j (by omega), List.getD_eq_getElem?_getD, List.getElem?_eq_getElem hj]
    exact hv
  · rintro ⟨j, hj, hv⟩
    rw [e j hj, List.getD_eq_getElem?_getD, List.getElem?_eq_getElem (by omega)] at hv
    rw [← show (M (n : Int))[j] = 2 from hv]
    exact List.getElem_mem _

theorem z5_get (i : Nat) : Z5.getD i 0 = 0 := by
  unfold Z5
  rw [List.getD_eq_getElem?_getD, List.getElem?_replicate]
  split <;> rfl

/-- No changes. -/
def nobM : Int → List Int := fun _ => Z5

theorem nob_mk (q : Nat) : mkT nobM q = 0 := z5_get _
theorem nob_val (q : Nat) (x : Int) : valT nobM nobM q x = x := by
  unfold valT
  rw [if_pos (show (nobM ((q / 512 : Nat) : Int)).getD (q % 512) 0 = 0 from z5_get _)]
theorem nob_no (s : Int) : ¬ 2 ∈ nobM s := fun h => absurd (List.eq_of_mem_replicate h) (by decide)

theorem ex_secs {B' M' : Int → List Int} (hl : ∀ s, (M' s).length = 512) (h : Laid nobM nobM B' M' 10755 1 [97] 2) : secsM M' = [21] := by
  refine rise_eq _ _ (secsM_rise _) (by simp) (fun x => ?_)
  rw [secsM_mem]
  simp only [List.mem_singleton]
  have hm : ∀ q, mkT M' q = if 10755 ≤ q ∧ q < 10755 + 1 then 2 else 0 := fun q => by
    rw [h.2.1 q, nob_mk]
    split
    · decide
    · rfl
  constructor
  · rintro ⟨hx, h2⟩
    obtain ⟨n, rfl⟩ := Int.eq_ofNat_of_zero_le hx.1
    obtain ⟨j, hj, hv⟩ := (mem2 (hl _)).1 h2
    rw [hm] at hv
    split at hv
    · omega
    · simp at hv
  · rintro rfl
    refine ⟨by omega, ?_⟩
    have := (mem2 (M := M') (n := 21) (hl _)).2 ⟨3, by omega, by rw [hm]; simp⟩
    simpa using this
end Go.Proofs.YtgmifbknmjdemaaGreat.Oct
