/- The volume of 64 sectors is one. -/
import Derived.Test.YtcbbaoiefdbcpaaDoorPFmkFml
import Derived.Test.YtcbbaoiefdbcpaaDoorPFsp
namespace Go.Proofs.YtcbbaoiefdbcpaaDoor.Oct
open Go.RowKit

set_option maxRecDepth 1000000 in
theorem s64_0 : secs (mk64 5) 0 1 = fst64 := by decide +kernel
set_option maxRecDepth 1000000 in
theorem s64_1 : secs (mk64 5) 1 1 = cntP 57 3 := by decide +kernel
set_option maxRecDepth 1000000 in
theorem s64_2 : secs (mk64 5) 2 1 = fst64 := by decide +kernel
set_option maxRecDepth 1000000 in
theorem s64_5 : secs (mk64 5) 5 1 = secs (mk64 5) 4 1 := by decide +kernel

theorem Byts.putN' {l : List Int} (h : Byts l) (p : Nat) (v : Int) (k : Nat) : Byts (Oct.putN l p v k) := Byts.putN h p v k

theorem Byts.begL {l : List Int} (h : Byts l) (p k : Nat) : Byts (Oct.begL l p k) := by
  unfold Oct.begL
  split
  · exact h
  · exact h.putN' _ _ _
  · exact (h.putN' _ _ _).putN' _ _ _
  · exact ((h.putN' _ _ _).putN' _ _ _).putN' _ _ _

theorem Byts.fxP {l : List Int} (h : Byts l) (k : Nat) : Byts (Oct.fxP l k) := by
  unfold Oct.fxP
  split
  · exact h
  · exact h.putN' _ _ _
  · exact (h.putN' _ _ _).putN' _ _ _
  · exact ((h.putN' _ _ _).putN' _ _ _).putN' _ _ _
  · exact (((h.putN' _ _ _).putN' _ _ _).putN' _ _ _).putN' _ _ _
  · exact ((((h.putN' _ _ _).putN' _ _ _).putN' _ _ _).putN' _ _ _).putN' _ _ _
  · exact (((((h.putN' _ _ _).putN' _ _ _).putN' _ _ _).putN' _ _ _).putN' _ _ _).putN' _ _ _

theorem Byts.nm : Byts [70, 65, 84, 51, 50, 32, 32, 32] := by intro k; match k with | 0 => simp | 1 => simp | 2 => simp | 3 => simp | 4 => simp | 5 => simp | 6 => simp | 7 => simp | k + 8 => simp

theorem Byts.putB {l : List Int} (h : Byts l) (b : Bt) (h1 : 0 ≤ b.each ∧ b.each < 256) (h2 : 0 ≤ b.tabs ∧ b.tabs < 256) : Byts (Oct.putB b l) := by
  unfold Oct.putB
  exact (((((((((h.fxP 6).set 13 _ h1).set 16 _ h2).putN' _ _ _).putN' _ _ _).putN' _ _ _).putN' _ _ _).putN' _ _ _).putN' _ _ _).over Byts.nm 82 |>.putN' _ _ _

theorem Byts.cntP (f x : Int) : Byts (Oct.cntP f x) := by
  unfold Oct.cntP sgP
  exact (((((Byts.zeros 512).putN' _ _ _).putN' _ _ _).putN' _ _ _).putN' _ _ _).putN' _ _ _

theorem byts64 : Byts (mk64 5) := by
  unfold mk64
  have h1 : Byts fst64 := (Byts.zeros 512).putB b64 (by decide) (by decide)
  exact (((((Byts.zeros 32768).over h1 0).over (Byts.cntP 57 3) 512).over h1 1024).begL 2048 3).begL 2560 3

set_option maxRecDepth 1000000 in
theorem par64 : parB fst64 = (b64, 0) := by
  have h1 : fst64.length = 512 := fst64_len
  have h2 : (fst64.drop 82).take 8 = nmB ∧ num fst64 510 2 = 43605 := by decide +kernel
  have h3 : num fst64 11 2 = 512 ∧ num fst64 17 2 = 0 ∧ num fst64 19 2 = 0 ∧ num fst64 22 2 = 0 ∧ num fst64 40 2 = 0 ∧ num fst64 42 2 = 0 := by decide +kernel
  have h4 : fst64.getD 13 0 = 1 ∧ num fst64 14 2 = 4 ∧ fst64.getD 16 0 = 2 ∧ num fst64 32 4 = 64 ∧ num fst64 36 4 = 1 ∧ num fst64 44 4 = 2 ∧ num fst64 48 2 = 1 ∧ num fst64 50 2 = 2 := by decide +kernel
  have h5 : btOf fst64 = b64 := by
    unfold btOf b64
    rw [h4.1, h4.2.1, h4.2.2.1, h4.2.2.2.1, h4.2.2.2.2.1, h4.2.2.2.2.2.1, h4.2.2.2.2.2.2.1, h4.2.2.2.2.2.2.2]
  unfold parB
  rw [if_pos h1, if_pos h2, if_pos h3, h5, if_pos b64_chk]

set_option maxRecDepth 1000000 in
theorem parc64 : parC (cntP 57 3) = (57, 3, 0) := by decide +kernel

set_option maxRecDepth 1000000 in
theorem free64 : (57 : Int) = frees (numsF (secs (mk64 5) 4 1) 58) 58 := by decide +kernel

theorem vol64 : Vol (mk64 5) b64 58 57 3 where
  par := by rw [s64_0]; exact par64
  size := by rw [mk64_len]; decide
  copy := Or.inr (by show secs (mk64 5) 2 1 = secs (mk64 5) 0 1; rw [s64_0, s64_2])
  cnt := by show parC (secs (mk64 5) 1 1) = _; rw [s64_1]; exact parc64
  tab := Or.inr (by show secs (mk64 5) (4 + 1) 1 = secs (mk64 5) 4 1; exact s64_5)
  clus := b64_clus
  free := Or.inr free64

set_option maxRecDepth 1000000 in
theorem spc64 : spcF b64 (numsF (secs (mk64 5) 4 1) 58) 58 = (List.range 57).map (fun i : Nat => (3584 + 512 * (i : Int), 4096 + 512 * (i : Int))) := by decide +kernel

theorem norm64 {N : List (Int × Int)} (h : Normed (spcF b64 (numsF (secs (mk64 5) 4 1) 58) 58) N) : N = [(3584, 32768)] := by
  rw [spc64] at h
  refine Form.unique N [(3584, 32768)] h.form ⟨by simp, by simp⟩ (fun x => ?_)
  rw [h.set x, inE_one]
  unfold InE
  constructor
  · rintro ⟨p, hp, h1, h2⟩
    simp only [List.mem_map, List.mem_range] at hp
    obtain ⟨i, hi, rfl⟩ := hp
    simp at h1 h2 ⊢
    omega
  · rintro ⟨h1, h2⟩
    simp at h1 h2
    refine ⟨_, List.mem_map.2 ⟨((x - 3584) / 512).toNat, List.mem_range.2 (by omega), rfl⟩, ?_, ?_⟩
    · simp; omega
    · simp; omega
end Go.Proofs.YtcbbaoiefdbcpaaDoor.Oct
