/- A volume with one chain in its table, opened: the chain from 3 on, nothing being marked. -/
import Derived.Test.YthhodmiobpocbaaDoorPFld
import Derived.Test.YthhodmiobpocbaaDoorPFnz
import Derived.WalkSpells
namespace Go.Proofs.YthhodmiobpocbaaDoor.Oct
open Go.RowKit Go.MapKept

theorem fol_law {n kb : Nat} {en : Bool} (hn : 0 < n ∧ n ≤ 100) (hk : kb < n) : fol (numsF (tTL n kb en) 142) 142 (fun _ => 0) 143 [] 3 = if en then (rgL n, 0) else ([], 13) := by
  have h := fol_loop (n := n) (kb := kb) (en := en) (numsF (tTL n kb en) 142) hn.2 hk (fun i hi => by rw [numsF_get _ _ _ (by omega)]; exact nxtL hn.2 hk i hi) (n - 1) 0 143 (by omega) (by omega)
  exact h

theorem rgL_len (n : Nat) : (rgL n).length = n := by simp [rgL]
theorem rgL_get (n i : Nat) (h : i < n) : (rgL n)[i]? = some (3 + (i : Int)) := by simp [rgL, h]

set_option maxHeartbeats 4000000 in
set_option maxRecDepth 100000 in
/-- Chain of a volume, nothing being marked. -/
theorem chain_free (b : Bt) (R g k : Nat) (f x : Int) (L : List Int) (first : Int) (w : World) (hc : -1000000000000 ≤ first ∧ first ≤ 1000000000000) (hk2 : k ≤ 40000) (hR : Blk w R (volC b g k f x) 69) (hL : ∀ j, j < k → w.cell? ⟨g, j, none⟩ = some (.int .u32 (L.getD j 0))) (hLr : ∀ j, 0 ≤ L.getD j 0 ∧ L.getD j 0 < 4294967296) :
    Calls Tryd.prog 9 #[.pointer (some ⟨R, 0, none⟩), .int .i64 first, .map none] w fun e w' => (((fol L k (fun _ => 0) (k + 1) [] first).2 = 0 ∧ ∃ v, e = .returned (.tuple #[v, .int .i64 0]) ∧ OwnC w' w.heap.size v (fol L k (fun _ => 0) (k + 1) [] first).1) ∨ ((fol L k (fun _ => 0) (k + 1) [] first).2 ≠ 0 ∧ e = .returned (.tuple #[.slice none 0 0, .int .i64 (fol L k (fun _ => 0) (k + 1) [] first).2]))) ∧ Below w.heap.size w w' := by
  have HF := hide (follow_any b R g k f x L first (.map none) (fun _ => 0) w hc hk2 hR hL hLr (Or.inl ⟨rfl, fun _ => rfl⟩))
  obtain ⟨F0, hF0⟩ : ∃ F0, F0 = fol L k (fun _ => 0) (k + 1) [] first := ⟨_, rfl⟩
  rw [← hF0] at HF ⊢
  have hq : ∀ u, (binOp .neq 40 (.map none) (.map none)).run Tryd.prog u = .ok (.bool false) u := fun u => run_neq_map_nil u 40 _ _ none Tryd.underlying40
  clear hR hL hLr hF0 hk2 hc
  go_enter Tryd.func9, Tryd.ntmps9
  go_wp2_with fail
  refine HF.out.mono ?_
  rintro e9 w2 ⟨⟨h0, v, rfl, hv⟩ | ⟨h0, rfl⟩, hb⟩
  · have HV := hide hv
    have HB := hide hb
    have H0 := hide h0
    clear hv hb h0 HF
    go_wp2_with fail
    go_ret2
    exact ⟨Or.inl ⟨H0.out, v, rfl, HV.out⟩, HB.out⟩
  · have HB := hide hb
    have h1 : (F0.2 != 0) = true := by simpa using h0
    have H0 := hide h0
    clear hb h0 HF
    go_wp2_with fail
    go_ret2
    exact ⟨Or.inr ⟨H0.out, rfl⟩, HB.out⟩
end Go.Proofs.YthhodmiobpocbaaDoor.Oct
