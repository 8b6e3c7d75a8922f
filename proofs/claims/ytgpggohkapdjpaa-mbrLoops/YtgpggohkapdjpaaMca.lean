/- Chains that come back, or end, on disks that are laid: no program. -/
import Derived.Test.YtgpggohkapdjpaaMbt
namespace Go.Proofs.Ytgpggohkapdjpaa.Oct
open Go.RowKit

def Zs : List Int := List.replicate 512 0

/-- Where a row is laid. -/
def tgt (n : Nat) (X : List LD) (j : Nat) : Nat := ((X.getD j LD.z).at_ % p64 % n).toNat

theorem sec_not {n : Nat} {X : List LD} (hn : 0 < n) {s : Nat} (hs : s < n) : ∀ k, (∀ j, j < k → tgt n X j ≠ s) → secD (diskD n X k) s = Zs
  | 0, _ => secD_zero hs
  | k + 1, h => by
    rw [diskD, secD_layS hn (diskD_len n X hn k) hs, if_neg (fun e => h k (by omega) e.symm)]
    exact sec_not hn hs k (fun j hj => h j (by omega))

theorem sec_at {n : Nat} {X : List LD} (hn : 0 < n) {j : Nat} : ∀ k, j < k → (∀ i, i < k → i ≠ j → tgt n X i ≠ tgt n X j) → secD (diskD n X k) (tgt n X j) = secL (X.getD j LD.z).L (X.getD j LD.z).mb Zs
  | 0, hj, _ => by omega
  | k + 1, hj, h => by
    have hlt : tgt n X j < n := at_fits _ n hn
    rw [diskD, secD_layS hn (diskD_len n X hn k) hlt]
    by_cases hjk : j = k
    · subst hjk
      rw [if_pos (by rfl), sec_not hn hlt j (fun i hi => h i (by omega) (by omega))]
    · rw [if_neg (fun e => h k (by omega) (fun e2 => hjk e2.symm) e.symm)]
      exact sec_at hn k (by omega) (fun i hi hij => h i (by omega) hij)

/-- A sector of the chain, byte by byte. -/
theorem secF_get (f : Int) (hf : 0 ≤ f ∧ f < 256) (i : Nat) : (secL [(11, 1, 2), (5, f, 4)] [] Zs).getD i 0 = if 510 ≤ i ∧ i < 512 then ([85, 170] : List Int).getD (i - 510) 0 else if 462 ≤ i ∧ i < 478 then ([0, 0, 0, 0, 5, 0, 0, 0, f, 0, 0, 0, 4, 0, 0, 0] : List Int).getD (i - 462) 0 else if 446 ≤ i ∧ i < 462 then ([0, 0, 0, 0, 11, 0, 0, 0, 1, 0, 0, 0, 2, 0, 0, 0] : List Int).getD (i - 446) 0 else Zs.getD i 0 := by
  have e2 : rowD (5, f, 4) 0 = [0, 0, 0, 0, 5, 0, 0, 0, f, 0, 0, 0, 4, 0, 0, 0] := by
    have h0 : f % p64 = f := by unfold p64; omega
    have h1 : f / 256 ^ 0 % 256 = f := by omega
    have h2 : f / 256 ^ 1 % 256 = 0 := by omega
    have h3 : f / 256 ^ 2 % 256 = 0 := by omega
    have h4 : f / 256 ^ 3 % 256 = 0 := by omega
    have hb : bytesOf f 4 = [f, 0, 0, 0] := by
      simp only [bytesOf, h1, h2, h3, h4]
      rfl
    have hc : bytesOf ((4 : Int) % p64) 4 = [4, 0, 0, 0] := by decide +kernel
    unfold rowD
    dsimp only
    rw [h0, hb, hc]
    rfl
  have e1 : rowD (11, 1, 2) 0 = [0, 0, 0, 0, 11, 0, 0, 0, 1, 0, 0, 0, 2, 0, 0, 0] := by decide +kernel
  have hz : Zs.length = 512 := List.length_replicate
  have el : secL [(11, 1, 2), (5, f, 4)] [] Zs = over (over (over Zs 446 (rowD (11, 1, 2) 0)) 462 (rowD (5, f, 4) 0)) 510 [85, 170] := rfl
  have l1 : (over Zs 446 (rowD (11, 1, 2) 0)).length = 512 := by rw [over_length (by rw [rowD_len, hz]; omega), hz]
  have l2 : (over (over Zs 446 (rowD (11, 1, 2) 0)) 462 (rowD (5, f, 4) 0)).length = 512 := by rw [over_length (by rw [rowD_len, l1]; omega), l1]
  rw [el, over_getM (by rw [l2]; simp), over_getM (by rw [l1, rowD_len]; omega), over_getM (by rw [hz, rowD_len]; omega), rowD_len, rowD_len, e1, e2]
  rfl

theorem evF (f : Int) (hf : 0 ≤ f ∧ f < 256) : entC (secL [(11, 1, 2), (5, f, 4)] [] Zs) = 0 ∧ entsM (secL [(11, 1, 2), (5, f, 4)] [] Zs) = [(11, 1, 2), (5, f, 4), (0, 0, 0), (0, 0, 0)] := by
  have hg := secF_get f hf
  have hl : (secL [(11, 1, 2), (5, f, 4)] [] Zs).length = 512 := by
    have h1 := layD_len (D := Zs) (t := 0) (L := [(11, 1, 2), (5, f, 4)]) (mk := []) (by rw [show Zs.length = 512 from List.length_replicate]; omega) 2 (by omega)
    have hz : Zs.length = 512 := List.length_replicate
    show (over (layD Zs 0 [(11, 1, 2), (5, f, 4)] [] 2) 510 [85, 170]).length = 512
    rw [over_length (by rw [h1, hz]; simp), h1, hz]
  have hz : ∀ i, Zs.getD i 0 = 0 := fun i => by
    unfold Zs
    rw [List.getD_eq_getElem?_getD, List.getElem?_replicate]
    split <;> rfl
  generalize secL [(11, 1, 2), (5, f, 4)] [] Zs = S at *
  have hg2 := hg
  have hz2 := hz
  simp only [List.getD_eq_getElem?_getD] at hg2 hz2
  constructor
  · unfold entC
    rw [if_pos hl, if_pos (by simp [num, hg2]), if_pos]
    unfold okAll okM
    simp [num, hg2, hz2]
  · unfold entsM entM
    simp [num, hg2, hz2]
theorem evB : entC (secL [(11, 1, 2), (0, 0, 0)] [] Zs) = 0 ∧ entsM (secL [(11, 1, 2), (0, 0, 0)] [] Zs) = [(11, 1, 2), (0, 0, 0), (0, 0, 0), (0, 0, 0)] := by decide +kernel
theorem evC : entC (secL [(5, 10, 150)] [] Zs) = 0 ∧ entsM (secL [(5, 10, 150)] [] Zs) = [(5, 10, 150), (0, 0, 0), (0, 0, 0), (0, 0, 0)] := by decide +kernel

/-- What a row of the chain says of the next one. -/
def nxL (n k : Nat) (ends : Bool) (i : Nat) : M3 := if i + 1 = n then (if ends = true then (0, 0, 0) else (5, 4 * (k : Int), 4)) else (5, 4 * ((i : Int) + 1), 4)

theorem ev_nx {n k : Nat} {ends : Bool} {i : Nat} (hn : n ≤ 25) (hk : k < n) (hi : i < n) : entC (secL [(11, 1, 2), nxL n k ends i] [] Zs) = 0 ∧ entsM (secL [(11, 1, 2), nxL n k ends i] [] Zs) = [(11, 1, 2), nxL n k ends i, (0, 0, 0), (0, 0, 0)] := by
  unfold nxL
  split
  · split
    · exact evB
    · exact evF (4 * (k : Int)) (by omega)
  · exact evF (4 * ((i : Int) + 1)) (by omega)

/-- The rows of such a disk. -/
structure LoopX (X : List LD) (n k : Nat) (ends : Bool) : Prop where
  len : X.length = n + 1
  zero : (X.getD 0 LD.z).at_ = 0 ∧ (X.getD 0 LD.z).L = [(5, 10, 150)] ∧ (X.getD 0 LD.z).mb = []
  row : ∀ i, i < n → (X.getD (i + 1) LD.z).at_ = 10 + 4 * (i : Int) ∧ (X.getD (i + 1) LD.z).L = [(11, 1, 2), nxL n k ends i] ∧ (X.getD (i + 1) LD.z).mb = []

theorem LoopX.t0 {X : List LD} {n k : Nat} {ends : Bool} (h : LoopX X n k ends) : tgt 170 X 0 = 0 := by
  unfold tgt
  rw [h.zero.1]
  decide

theorem LoopX.tr {X : List LD} {n k : Nat} {ends : Bool} (h : LoopX X n k ends) (hn : n ≤ 25) (i : Nat) (hi : i < n) : tgt 170 X (i + 1) = 10 + 4 * i := by
  unfold tgt
  rw [(h.row i hi).1]
  have h1 : (10 + 4 * (i : Int)) % p64 = 10 + 4 * (i : Int) := by unfold p64; omega
  have h2 : (10 + 4 * (i : Int)) % ((170 : Nat) : Int) = 10 + 4 * (i : Int) := Int.emod_eq_of_lt (by omega) (by omega)
  rw [h1, h2]
  omega

theorem LoopX.s0 {X : List LD} {n k : Nat} {ends : Bool} (h : LoopX X n k ends) (hn : n ≤ 25) : secD (diskD 170 X (n + 1)) 0 = secL [(5, 10, 150)] [] Zs := by
  have := sec_at (n := 170) (X := X) (by omega) (j := 0) (n + 1) (by omega) (fun i hi hij => by
    rw [h.t0]
    obtain ⟨m, rfl⟩ : ∃ m, i = m + 1 := ⟨i - 1, by omega⟩
    rw [h.tr hn m (by omega)]
    omega)
  rw [h.t0, h.zero.2.1, h.zero.2.2] at this
  exact this

theorem LoopX.sr {X : List LD} {n k : Nat} {ends : Bool} (h : LoopX X n k ends) (hn : n ≤ 25) (i : Nat) (hi : i < n) : secD (diskD 170 X (n + 1)) (10 + 4 * i) = secL [(11, 1, 2), nxL n k ends i] [] Zs := by
  have := sec_at (n := 170) (X := X) (by omega) (j := i + 1) (n + 1) (by omega) (fun q hq hqj => by
    rw [h.tr hn i hi]
    cases q with
    | zero => rw [h.t0]; omega
    | succ m => rw [h.tr hn m (by omega)]; omega)
  rw [h.tr hn i hi, (h.row i hi).2.1, (h.row i hi).2.2] at this
  exact this

/-- What is known behind the first j of the chain. -/
def stJ (j : Nat) : MS := ⟨(List.range j).map (fun q : Nat => ((11 + 4 * (q : Int)) * 512, (13 + 4 * (q : Int)) * 512, 11, 4 + (q : Int))), (0, 512) :: (List.range j).map (fun q : Nat => ((10 + 4 * (q : Int)) * 512, (11 + 4 * (q : Int)) * 512)), 5120, 81920, false⟩

def seenJ : Nat → List Int
  | 0 => []
  | j + 1 => (10 + 4 * (j : Int)) :: seenJ j

theorem seenJ_mem (x : Int) : ∀ j, x ∈ seenJ j ↔ ∃ q : Nat, q < j ∧ x = 10 + 4 * (q : Int)
  | 0 => by simp [seenJ]
  | j + 1 => by
    rw [seenJ, List.mem_cons, seenJ_mem x j]
    constructor
    · rintro (h | ⟨q, hq, h⟩)
      · exact ⟨j, by omega, h⟩
      · exact ⟨q, by omega, h⟩
    · rintro ⟨q, hq, h⟩
      by_cases hqj : q = j
      · subst hqj; exact Or.inl h
      · exact Or.inr ⟨q, by omega, h⟩

theorem loop_len {X : List LD} {n : Nat} : (diskD 170 X n).length = 87040 := diskD_len 170 X (by omega) n

theorem loop_first {X : List LD} {n k : Nat} {ends : Bool} (h : LoopX X n k ends) (hn : n ≤ 25) : firstM (diskD 170 X (n + 1)) = .ok (stJ 0) := by
  have hc : secC (diskD 170 X (n + 1)) 0 = 0 := by
    unfold secC
    rw [if_pos (by rw [loop_len]; omega)]
    change entC (secD (diskD 170 X (n + 1)) 0) = 0
    rw [h.s0 hn, evC.1]
  unfold firstM rdM
  rw [if_pos hc]
  simp only
  rw [h.s0 hn, evC.2, loop_len]
  rfl

theorem loop_link {X : List LD} {n k : Nat} {ends : Bool} (h : LoopX X n k ends) (hn : n ≤ 25) (hk : k < n) (j : Nat) (hj : j < n) :
    linkM (diskD 170 X (n + 1)) (stJ j) (4 + (j : Int)) (10 + 4 * (j : Int)) = .ok (stJ (j + 1), nxL n k ends j) := by
  have ht : (10 + 4 * (j : Int)).toNat = 10 + 4 * j := by omega
  have hev := ev_nx (n := n) (k := k) (ends := ends) hn hk hj
  have hsr := h.sr hn j hj
  have hc : secC (diskD 170 X (n + 1)) (10 + 4 * (j : Int)) = 0 := by
    unfold secC
    rw [if_pos (by rw [loop_len]; omega), ht, hsr, hev.1]
  obtain ⟨S, hS⟩ : ∃ S, S = secL [(11, 1, 2), nxL n k ends j] [] Zs := ⟨_, rfl⟩
  rw [← hS] at hsr hev
  have hen := hev.2
  unfold entsM at hen
  simp only [List.cons.injEq] at hen
  obtain ⟨e0, e1, e2, e3, _⟩ := hen
  have hrd : rdM (diskD 170 X (n + 1)) (stJ j) (10 + 4 * (j : Int)) = .ok { stJ j with H := (stJ j).H ++ [((10 + 4 * (j : Int)) * 512, (10 + 4 * (j : Int) + 1) * 512)] } := by
    unfold rdM
    rw [if_pos hc]
  unfold linkM
  rw [if_neg (by simp only [stJ]; omega), hrd]
  simp only
  rw [ht, hsr, e0, e1, e2, e3]
  rw [if_neg (by simp [leads]), if_pos (by decide)]
  have hlen : ¬ (stJ j).P.length = 32 := by simp [stJ]; omega
  unfold addM
  simp only
  rw [if_pos (by simp only [stJ]; omega), if_neg hlen]
  simp only
  have hlead : ¬ ((nxL n k ends j).1 ≠ 0 ∧ leads (nxL n k ends j) = false) := by
    unfold nxL
    split
    · split <;> simp [leads]
    · simp [leads]
  rw [if_neg hlead]
  have p1 : (10 + 4 * (j : Int) + 1) * 512 = (11 + 4 * (j : Int)) * 512 := by omega
  have p2 : (10 + 4 * (j : Int) + 1 + 2) * 512 = (13 + 4 * (j : Int)) * 512 := by omega
  rw [p1, p2]
  refine congrArg Except.ok (Prod.ext ?_ rfl)
  unfold stJ
  simp only [List.range_succ, List.map_append, List.map_cons, List.map_nil, List.cons_append]

/-- The chain, from the j-th on. -/
theorem loop_chain {X : List LD} {n k : Nat} {ends : Bool} (h : LoopX X n k ends) (hn : n ≤ 25) (hk : k < n) : ∀ m j, j + m = n → 0 < m →
    chainM (diskD 170 X (n + 1)) 10 (33 - j) (stJ j) (4 + (j : Int)) (10 + 4 * (j : Int)) (seenJ j) = if ends = true then .ok (stJ n) else .error 13
  | 0, j, _, hm => by omega
  | m + 1, j, hj, _ => by
    obtain ⟨f, hf⟩ : ∃ f, 33 - j = f + 1 := ⟨32 - j, by omega⟩
    have hno : ¬ (10 + 4 * (j : Int)) ∈ seenJ j := by
      rw [seenJ_mem]
      rintro ⟨q, hq, e⟩
      omega
    rw [hf, chainM, if_neg hno, loop_link h hn hk j (by omega)]
    simp only
    have hs1 : (4 : Int) + (j : Int) + 1 = 4 + ((j + 1 : Nat) : Int) := by omega
    by_cases hl : j + 1 = n
    · unfold nxL
      rw [if_pos hl]
      cases ends
      · simp only [Bool.false_eq_true, if_false]
        rw [if_neg (by decide)]
        obtain ⟨f2, hf2⟩ : ∃ f2, f = f2 + 1 := ⟨31 - j, by omega⟩
        rw [hf2, chainM, if_pos]
        rw [show (10 + 4 * (j : Int)) :: seenJ j = seenJ (j + 1) from rfl, seenJ_mem]
        exact ⟨k, by omega, rfl⟩
      · simp only [if_true]
        rw [← hl]
    · have hnx : nxL n k ends j = (5, 4 * ((j : Int) + 1), 4) := by unfold nxL; rw [if_neg hl]
      rw [hnx]
      simp only
      rw [if_neg (by decide)]
      have ih := loop_chain h hn hk m (j + 1) (by omega) (by omega)
      rw [show 33 - (j + 1) = f by omega, show (10 : Int) + 4 * ((j + 1 : Nat) : Int) = 10 + 4 * ((j : Int) + 1) by omega, ← hs1] at ih
      exact ih

theorem range_pair {R : Nat → Nat → Prop} (h : ∀ a b, a < b → R a b) (j : Nat) : (List.range j).Pairwise R :=
  List.Pairwise.imp (fun {a b} hab => h a b hab) List.pairwise_lt_range

theorem loop_off (n : Nat) : (outerM (stJ n)).Pairwise (fun p q : Int × Int => p.1 < p.2 → q.1 < q.2 → p.2 ≤ q.1 ∨ q.2 ≤ p.1) ∧ (allM (stJ n)).Pairwise (fun p q : Int × Int => p.1 < p.2 → q.1 < q.2 → p.2 ≤ q.1 ∨ q.2 ≤ p.1) := by
  constructor
  · unfold outerM
    have he : (stJ n).P.filter (fun p => decide (p.2.2.2 < 4)) = [] := by
      rw [List.filter_eq_nil_iff]
      intro p hp
      simp only [stJ, List.mem_map, List.mem_range] at hp
      obtain ⟨q, _, rfl⟩ := hp
      simp
      omega
    rw [he]
    simp
  · unfold allM
    simp only [stJ, List.cons_append, List.map_map]
    rw [List.pairwise_cons]
    constructor
    · intro x hx
      rw [List.mem_append] at hx
      rcases hx with hx | hx
      · obtain ⟨q, _, rfl⟩ := List.mem_map.1 hx
        intro _ _
        left
        simp only
        omega
      · obtain ⟨q, _, rfl⟩ := List.mem_map.1 hx
        intro _ _
        left
        simp only [Function.comp]
        omega
    · rw [List.pairwise_append]
      refine ⟨?_, ?_, ?_⟩
      · rw [List.pairwise_map]
        exact range_pair (fun a b hab _ _ => by left; simp only; omega) n
      · rw [List.pairwise_map]
        exact range_pair (fun a b hab _ _ => by left; simp only [Function.comp]; omega) n
      · intro x hx y hy
        obtain ⟨q, _, rfl⟩ := List.mem_map.1 hx
        obtain ⟨r, _, rfl⟩ := List.mem_map.1 hy
        intro _ _
        simp only [Function.comp]
        omega

theorem loop_pars {X : List LD} {n k : Nat} {ends : Bool} (h : LoopX X n k ends) (hn : n ≤ 25) (hk : k < n) :
    chM (diskD 170 X (n + 1)) (stJ 0) = if ends = true then .ok (stJ n) else .error 13 := by
  unfold chM
  rw [if_pos (by rfl)]
  exact loop_chain h hn hk n 0 (by omega) (by omega)
end Go.Proofs.Ytgpggohkapdjpaa.Oct
