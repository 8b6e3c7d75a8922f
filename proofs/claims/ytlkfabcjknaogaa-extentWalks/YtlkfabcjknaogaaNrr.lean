/- Norm, by the reference. -/
import Derived.Test.YtlkfabcjknaogaaPcs
import Derived.Test.YtlkfabcjknaogaaHsr
import Derived.Test.YtlkfabcjknaogaaRnd
namespace Go.Proofs.Ytlkfabcjknaogaa.Oct
open Go.RowKit

/-- What the reference makes of a set. -/
structure Refd (L N : List (Int × Int)) : Prop where
  form : Form N
  set : ∀ x, InE N x ↔ InE L x

theorem Refd.same {L N N' : List (Int × Int)} (h : Refd L N) (h' : Normed L N') : N' = N := Form.unique _ _ h'.form h.form fun x => (h'.set x).trans (h.set x).symm

theorem lies_newS (w : World) (s : Row3) (h : LiesE w s.a s.L) : LiesS (w.alloc (.cells #[.slice s.a s.L.length s.c] 22)) (some ⟨w.heap.size, 0, none⟩) [s] := by
  have h1 : (w.alloc (.cells #[.slice s.a s.L.length s.c] 22)).heap[w.heap.size]? = some (.cells #[.slice s.a s.L.length s.c] 22) := heap_alloc_new w _
  refine Or.inr ⟨w.heap.size, 0, rfl, by simp, fun k hk => ?_⟩
  match k, hk with
  | 0, _ =>
    refine ⟨?_, h.below ((Below.refl _ _).alloc (Nat.le_refl _) _)⟩
    simp only [World.cell?, h1]
    rfl

set_option maxHeartbeats 4000000 in
set_option maxRecDepth 100000 in
theorem refnorm_any (w : World) (a : Option Addr) (c : Nat) (L : List (Int × Int)) (h : LiesE w a L) (hl : L.length ≤ 1000) :
    Calls Try.prog 6 #[.slice a L.length c] w fun e w' => ∃ v N, e = .returned v ∧ OwnE w' w.heap.size v N ∧ Refd L N ∧ N.length ≤ 2000 ∧ Below w.heap.size w w' := by
  obtain ⟨i1, hi, hz0, hz1, hz2⟩ := info_parts info_E
  have hb1 : Below w.heap.size w (w.alloc (.cells #[.slice a L.length c] 22)) := (Below.refl _ _).alloc (Nat.le_refl _) _
  have HB1 := hide hb1
  have HL := hide h
  have H1 := hide (marks_any _ (some ⟨w.heap.size, 0, none⟩) 1 [⟨a, c, L⟩] (lies_newS w ⟨a, c, L⟩ h) (by simp) (by intro s hs; simp at hs; subst hs; exact hl))
  clear hb1 h
  go_enter Try.func6, Try.ntmps6
  go_wp2_with fail
  refine H1.out.mono ?_
  rintro e w1 ⟨v1, rfl, ho1, hb1⟩
  obtain ⟨M, hM⟩ : ∃ M, M = mkS [] [⟨a, c, L⟩] := ⟨_, rfl⟩
  rw [← hM] at ho1
  have hMr : M.Pairwise (· < ·) := by rw [hM]; exact mkS_rise _ _ List.Pairwise.nil
  have hMe : ∀ q ∈ L, q.1 ∈ M ∧ q.2 ∈ M := fun q hq => by
    rw [hM]
    exact ⟨(mkS_mem _ _ _).2 (Or.inr ⟨_, List.mem_singleton.2 rfl, q, hq, Or.inl rfl⟩), (mkS_mem _ _ _).2 (Or.inr ⟨_, List.mem_singleton.2 rfl, q, hq, Or.inr rfl⟩)⟩
  have hMl : M.length ≤ 2000 := by
    have := mkS_len [⟨a, c, L⟩] 1000 (by intro s hs; simp at hs; subst hs; exact hl) []
    rw [← hM] at this
    simpa using this
  have HE := hide (even_one hMr hMe)
  have hb2 := HB1.out.trans (hb1.mono HB1.out.size)
  have HB2 := hide hb2
  obtain ⟨aM, cM, hv1, hlM, _, _⟩ := ho1.form
  subst hv1
  have HM := hide hlM
  clear ho1 hb1 hM hMe hlM hb2 H1 hMr
  go_wp2_with fail
  go_loopw [4, 5] (fun v i wr => ∃ k : Nat, (k = 0 ∨ k < M.length) ∧ i = .int .i64 k ∧ OwnE wr w1.heap.size v (pieces M (InE L) k) ∧ Below w1.heap.size w1 wr) (fun _ i _ => M.length - (intOf i).toNat)
  case atStart => exact ⟨0, Or.inl rfl, by simp, by simpa [pieces] using OwnE.nil _ _, Below.refl _ _⟩
  case round =>
    obtain ⟨k, hk, rfl, ho, hbel⟩ := hrel
    have HO := hide ho
    have HBel := hide hbel
    have hsz := hbel.size
    clear ho hbel
    have hpl := pieces_len M (InE L) k
    have HSt := hide (pieces_steps HE.out.rise (InE L) k hk)
    have HY := hide (fun h => pieces_yes (M := M) (p := InE L) (k := k) h)
    have HN := hide (fun h => pieces_no (M := M) (p := InE L) (k := k) h)
    obtain ⟨ao, co, hvo, hlo, hoc, hom, _⟩ := HO.out.form
    subst hvo
    have HLo := hide hlo
    by_cases hlt : k + 1 < M.length
    · rcases HM.out with hnil | ⟨b, off, ha, hb, hc⟩
      · rw [hnil] at hlt; simp at hlt
      subst ha
      have r0 := (HBel.out.cell (p := ⟨b, off + k, none⟩) hb).trans (hc k (by omega))
      have r1 := (HBel.out.cell (p := ⟨b, off + (k + 1), none⟩) hb).trans (hc (k + 1) hlt)
      have hk0 : (0 : Int) ≤ (k : Int) := by omega
      have hk1 : (k : Int) < (M.length : Int) := by omega
      have hk2 : (0 : Int) ≤ (k : Int) + 1 := by omega
      have hk3 : (k : Int) + 1 < (M.length : Int) := by omega
      obtain ⟨x, hx⟩ : ∃ x, x = M.getD k 0 := ⟨_, rfl⟩
      obtain ⟨y, hy⟩ : ∃ y, y = M.getD (k + 1) 0 := ⟨_, rfl⟩
      rw [← hx] at r0 HY HN
      rw [← hy] at r1 HY
      obtain ⟨D, hD⟩ : ∃ D, D = pieces M (InE L) k := ⟨_, rfl⟩
      rw [← hD] at HO HY HN hpl hoc HLo ⊢
      have HH := hide (refhas_any wr a c L x ((HL.out.below HB2.out).below HBel.out) (by omega))
      clear hc hx hy hD HSt hlo
      go_wp2_with fail
      refine HH.out.mono ?_
      rintro e w3 ⟨bb, rfl, hbb, rfl⟩
      clear HH
      cases bb with
      | false =>
        have hnp : pieces M (InE L) (k + 1) = D := HN.out (fun h => by have := hbb.2 h; cases this)
        have HP : Hid (OwnE w3 w1.heap.size (.slice ao D.length co) (pieces M (InE L) (k + 1))) := hide (by rw [hnp]; exact HO.out)
        clear hnp hbb
        go_wp2_with fail
        refine ⟨⟨k + 1, Or.inr (by omega), by go_num, HP.out, HBel.out⟩, ?_⟩
        simp [intOf]; omega
      | true =>
        have HP := hide (HY.out (hbb.1 rfl))
        have HN3 := hide (new2 w3.drew 32 (.int .i64 x) (.int .i64 y))
        have HO3 := hide (World.ownsRow.alloc (show OwnE w3.drew w1.heap.size (.slice ao D.length co) D from HO.out) (.cells #[.int .i64 x, .int .i64 y] 32))
        have HB3 := hide ((HBel.out.drew).alloc HBel.out.size (.cells #[.int .i64 x, .int .i64 y] 32))
        have e0 : w3.drew.cell? ⟨b, off + k, none⟩ = some (.int .i64 x) := r0
        have e1 : w3.drew.cell? ⟨b, off + (k + 1), none⟩ = some (.int .i64 y) := r1
        have hwk : IntKind.i64.wrap ((k : Int) + 1) = (k : Int) + 1 := by rw [IntKind.wrap_i64]; omega
        clear hbb
        go_wp2_with fail
        go_region_law (refine step_append_row (by rfl) (.tmp 22) (.tmp 33) 22 (by rfl) w1.heap.size 32 i1 (.agg #[.int .i64 0, .int .i64 0]) 2 16 Try.underlying22 hi hz0 hz1 hz2 (by rfl) (by decide) (.slice ao D.length co) D.length (D.flatMap encE) (by rfl) HO3.out ⟨w3.heap.size, 0, none⟩ 1 1 [.int .i64 x, .int .i64 y] (by rfl) (by rfl) (by exact HN3.out) (by simp [Value.oneCell']) (by unfold maxLen; omega) (by omega) HB3.out.size ?_; intro v5 w5 ho5 hg5 _; have HO5 := hide ho5; have HG5 := hide hg5; clear ho5 hg5)
        all_goals
          have ho6 : OwnE w5 w1.heap.size v5 (pieces M (InE L) (k + 1)) := by
            unfold OwnE
            rw [HP.out, List.flatMap_append, List.length_append]
            exact HO5.out
          have HO6 := hide ho6
          have HB6 := hide (HB3.out.grown HG5.out HB3.out.size (fun q hq => (World.ownsRow.lt HO3.out q hq).1))
          clear ho6
          go_wp2_with fail
          refine ⟨⟨k + 1, Or.inr (by omega), by go_num, HO6.out, HB6.out⟩, ?_⟩
          simp [intOf]; omega
    · have hkk : k = M.length - 1 := by omega
      have HJ := hide (refjoined_any wr ao co _ HLo.out HSt.out (by omega))
      have HSet := hide (fun x => HE.out.set x)
      rw [← hkk] at HSet
      have hke : ¬ ((k : Int) + 1 < (M.length : Int)) := by omega
      clear hkk HY HN hlo
      go_wp2_with fail
      refine HJ.out.mono ?_
      rintro e w6 ⟨v6, N, rfl, ho6, hm6, hb6⟩
      have HO6 := hide (ho6.mono (Nat.le_trans HB2.out.size HBel.out.size))
      have HB6 := hide ((HB2.out.trans (HBel.out.mono HB2.out.size)).trans (hb6.mono (Nat.le_trans HB2.out.size HBel.out.size)))
      have HR := hide (show Refd L N from ⟨hm6.form, fun x => (hm6.set x).trans (HSet.out x)⟩)
      have hNl : N.length ≤ 2000 := by have := hm6.len; omega
      clear ho6 hm6 hb6 HJ
      go_wp2_with fail
      go_ret
      exact ⟨_, N, rfl, HO6.out, HR.out, hNl, HB6.out⟩

end Go.Proofs.Ytlkfabcjknaogaa.Oct
