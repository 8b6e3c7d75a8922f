/- Both, by the reference: what is in both, in the first alone, in one at least. -/
import Derived.Test.YtpbnjobjjnhplaaDoorPFlr
namespace Go.Proofs.YtpbnjobjjnhplaaDoor.Oct
open Go.RowKit

def kind0 (A B : List (Int × Int)) (x : Int) : Prop := InE A x ∧ InE B x
def kind1 (A B : List (Int × Int)) (x : Int) : Prop := InE A x ∧ ¬ InE B x
def kind2 (A B : List (Int × Int)) (x : Int) : Prop := InE A x ∨ InE B x

theorem even_0 {M : List Int} (hr : M.Pairwise (· < ·)) {A B : List (Int × Int)} (hA : ∀ q ∈ A, q.1 ∈ M ∧ q.2 ∈ M) (hB : ∀ q ∈ B, q.1 ∈ M ∧ q.2 ∈ M) : Even M (kind0 A B) :=
  ⟨hr, fun _ _ hi h1 h2 => and_congr (inE_same hr hA hi h1 h2) (inE_same hr hB hi h1 h2), fun _ h => (even_one hr hA).lies _ h.1⟩
theorem even_1 {M : List Int} (hr : M.Pairwise (· < ·)) {A B : List (Int × Int)} (hA : ∀ q ∈ A, q.1 ∈ M ∧ q.2 ∈ M) (hB : ∀ q ∈ B, q.1 ∈ M ∧ q.2 ∈ M) : Even M (kind1 A B) :=
  ⟨hr, fun _ _ hi h1 h2 => and_congr (inE_same hr hA hi h1 h2) (not_congr (inE_same hr hB hi h1 h2)), fun _ h => (even_one hr hA).lies _ h.1⟩
theorem even_2 {M : List Int} (hr : M.Pairwise (· < ·)) {A B : List (Int × Int)} (hA : ∀ q ∈ A, q.1 ∈ M ∧ q.2 ∈ M) (hB : ∀ q ∈ B, q.1 ∈ M ∧ q.2 ∈ M) : Even M (kind2 A B) :=
  ⟨hr, fun _ _ hi h1 h2 => or_congr (inE_same hr hA hi h1 h2) (inE_same hr hB hi h1 h2), fun _ h => h.elim (fun h => (even_one hr hA).lies _ h) (fun h => (even_one hr hB).lies _ h)⟩

theorem lies_newS2 (w : World) (s t : Row3) (h : LiesE w s.a s.L) (h' : LiesE w t.a t.L) : LiesS (w.alloc (.cells #[.slice s.a s.L.length s.c, .slice t.a t.L.length t.c] 52)) (some ⟨w.heap.size, 0, none⟩) [s, t] := by
  have h1 : (w.alloc (.cells #[.slice s.a s.L.length s.c, .slice t.a t.L.length t.c] 52)).heap[w.heap.size]? = some (.cells #[.slice s.a s.L.length s.c, .slice t.a t.L.length t.c] 52) := heap_alloc_new w _
  have hb : Below w.heap.size w (w.alloc (.cells #[.slice s.a s.L.length s.c, .slice t.a t.L.length t.c] 52)) := (Below.refl _ _).alloc (Nat.le_refl _) _
  refine Or.inr ⟨w.heap.size, 0, rfl, by simp, fun k hk => ?_⟩
  match k, hk with
  | 0, _ =>
    refine ⟨?_, h.below hb⟩
    simp only [World.cell?, h1]
    rfl
  | 1, _ =>
    refine ⟨?_, h'.below hb⟩
    simp only [World.cell?, h1]
    rfl

set_option linter.unusedSimpArgs false in
set_option maxHeartbeats 8000000 in
set_option maxRecDepth 100000 in
theorem refboth0_any (w : World) (a b : Option Addr) (c d : Nat) (A B : List (Int × Int)) (hA : LiesE w a A) (hB : LiesE w b B) (hlA : A.length ≤ 1000) (hlB : B.length ≤ 1000) :
    Calls Tryd.prog 49 #[.slice a A.length c, .slice b B.length d, .int .i64 0] w fun e w' => ∃ v N, e = .returned v ∧ OwnE w' w.heap.size v N ∧ (Form N ∧ ∀ x, InE N x ↔ kind0 A B x) ∧ N.length ≤ 4000 ∧ Below w.heap.size w w' := by
  obtain ⟨i1, hi, hz0, hz1, hz2⟩ := info_parts info_E
  have hb1 : Below w.heap.size w (w.alloc (.cells #[.slice a A.length c, .slice b B.length d] 52)) := (Below.refl _ _).alloc (Nat.le_refl _) _
  have HB1 := hide hb1
  have HLA := hide hA
  have HLB := hide hB
  have hmx : ∀ s ∈ [(⟨a, c, A⟩ : Row3), ⟨b, d, B⟩], s.L.length ≤ 1000 := by
    intro s hs
    simp only [List.mem_cons, List.not_mem_nil, or_false] at hs
    rcases hs with rfl | rfl
    · exact hlA
    · exact hlB
  have H1 := hide (marks_any _ (some ⟨w.heap.size, 0, none⟩) 2 [⟨a, c, A⟩, ⟨b, d, B⟩] (lies_newS2 w ⟨a, c, A⟩ ⟨b, d, B⟩ hA hB) (by simp) hmx)
  have hml0 := mkS_len [(⟨a, c, A⟩ : Row3), ⟨b, d, B⟩] 1000 hmx []
  clear hb1 hA hB hmx
  go_enter Tryd.func49, Tryd.ntmps49
  go_wp2_with fail
  refine H1.out.mono ?_
  rintro e w1 ⟨v1, rfl, ho1, hb1⟩
  obtain ⟨M, hM⟩ : ∃ M, M = mkS [] [(⟨a, c, A⟩ : Row3), ⟨b, d, B⟩] := ⟨_, rfl⟩
  rw [← hM] at ho1 hml0
  have hMr : M.Pairwise (· < ·) := by rw [hM]; exact mkS_rise _ _ List.Pairwise.nil
  have hMA : ∀ q ∈ A, q.1 ∈ M ∧ q.2 ∈ M := fun q hq => by
    rw [hM]
    exact ⟨(mkS_mem _ _ _).2 (Or.inr ⟨⟨a, c, A⟩, by simp, q, hq, Or.inl rfl⟩), (mkS_mem _ _ _).2 (Or.inr ⟨⟨a, c, A⟩, by simp, q, hq, Or.inr rfl⟩)⟩
  have hMB : ∀ q ∈ B, q.1 ∈ M ∧ q.2 ∈ M := fun q hq => by
    rw [hM]
    exact ⟨(mkS_mem _ _ _).2 (Or.inr ⟨⟨b, d, B⟩, by simp, q, hq, Or.inl rfl⟩), (mkS_mem _ _ _).2 (Or.inr ⟨⟨b, d, B⟩, by simp, q, hq, Or.inr rfl⟩)⟩
  have hMl : M.length ≤ 4000 := by simpa using hml0
  have HE := hide (even_0 hMr hMA hMB)
  have hb2 := HB1.out.trans (hb1.mono HB1.out.size)
  have HB2 := hide hb2
  obtain ⟨aM, cM, hv1, hlM, _, _⟩ := ho1.form
  subst hv1
  have HM := hide hlM
  clear ho1 hb1 hM hMA hMB hlM hb2 H1 hMr hml0
  go_wp2_with fail
  go_loopw [8, 9, 10, 11] (fun v i _ _ wr => ∃ (k : Nat) (D : List (Int × Int)), (k = 0 ∨ k < M.length) ∧ i = .int .i64 k ∧ D = pieces M (kind0 A B) k ∧ OwnE wr w1.heap.size v D ∧ Below w1.heap.size w1 wr) (fun _ i _ _ _ => M.length - (intOf i).toNat)
  case atStart => exact ⟨0, [], Or.inl rfl, by simp, by simp [pieces], OwnE.nil _ _, Below.refl _ _⟩
  case round =>
    obtain ⟨k, D, hk, rfl, hD, ho, hbel⟩ := hrel
    have HO := hide ho
    have HBel := hide hbel
    have hsz := hbel.size
    have hpl := pieces_len M (kind0 A B) k
    have HSt := hide (pieces_steps HE.out.rise (kind0 A B) k hk)
    have HY := hide (fun h => pieces_yes (M := M) (p := kind0 A B) (k := k) h)
    have HN := hide (fun h => pieces_no (M := M) (p := kind0 A B) (k := k) h)
    rw [← hD] at hpl HSt HY HN
    have HD := hide hD
    clear ho hbel hD
    obtain ⟨ao, co, hvo, hlo, hoc, hom, _⟩ := HO.out.form
    subst hvo
    have HLo := hide hlo
    clear hlo
    by_cases hlt : k + 1 < M.length
    · rcases HM.out with hnil | ⟨bM, off, ha, hb, hc⟩
      · rw [hnil] at hlt; simp at hlt
      subst ha
      have r0 := (HBel.out.cell (p := ⟨bM, off + k, none⟩) hb).trans (hc k (by omega))
      have r1 := (HBel.out.cell (p := ⟨bM, off + (k + 1), none⟩) hb).trans (hc (k + 1) hlt)
      have hk0 : (0 : Int) ≤ (k : Int) := by omega
      have hk1 : (k : Int) < (M.length : Int) := by omega
      have hk2 : (0 : Int) ≤ (k : Int) + 1 := by omega
      have hk3 : (k : Int) + 1 < (M.length : Int) := by omega
      obtain ⟨x, hx⟩ : ∃ x, x = M.getD k 0 := ⟨_, rfl⟩
      obtain ⟨y, hy⟩ : ∃ y, y = M.getD (k + 1) 0 := ⟨_, rfl⟩
      rw [← hx] at r0 HY HN
      rw [← hy] at r1 HY
      have HH1 := hide (refhas_any wr a c A x ((HLA.out.below HB2.out).below HBel.out) (by omega))
      have HH2 := hide (refhas_any wr b d B x ((HLB.out.below HB2.out).below HBel.out) (by omega))
      clear hc hx hy HSt HD
      go_wp2_with fail
      refine HH1.out.mono ?_
      rintro e w3 ⟨bx, rfl, hbx, he3⟩
      have he := he3.symm
      clear he3
      subst he
      go_wp2_with fail
      refine HH2.out.mono ?_
      rintro e w4 ⟨bB, rfl, hbB, he4⟩
      have he := he4.symm
      clear he4
      subst he
      have HX := hide hbx
      have HXB := hide hbB
      clear HH1 HH2 hbx hbB
      have HN3 := hide (new2 wr.drew 59 (.int .i64 x) (.int .i64 y))
      have HO3 := hide (World.ownsRow.alloc (show OwnE wr.drew w1.heap.size (.slice ao D.length co) D from HO.out) (.cells #[.int .i64 x, .int .i64 y] 59))
      have HB3 := hide ((HBel.out.drew).alloc HBel.out.size (.cells #[.int .i64 x, .int .i64 y] 59))
      have e0 : wr.drew.cell? ⟨bM, off + k, none⟩ = some (.int .i64 x) := r0
      have e1 : wr.drew.cell? ⟨bM, off + (k + 1), none⟩ = some (.int .i64 y) := r1
      have hwk : IntKind.i64.wrap ((k : Int) + 1) = (k : Int) + 1 := by rw [IntKind.wrap_i64]; omega
      cases bx <;> cases bB
      all_goals
        go_wp2_with fail
        first
        | (have hnp : ¬ kind0 A B x := by
             have h1 := HX.out
             have h2 := HXB.out
             simp only [Bool.false_eq_true, false_iff, true_iff] at h1 h2
             simp [kind0, h1, h2]
           have HP : Hid (pieces M (kind0 A B) (k + 1) = D) := hide (HN.out hnp)
           clear hnp
           refine ⟨⟨k + 1, D, Or.inr (by omega), by go_num, HP.out.symm, HO.out, HBel.out⟩, ?_⟩
           simp [intOf]; omega)
        | (have hyp : kind0 A B x := by
             have h1 := HX.out
             have h2 := HXB.out
             simp only [Bool.false_eq_true, false_iff, true_iff] at h1 h2
             simp [kind0, h1, h2]
           have HP : Hid (pieces M (kind0 A B) (k + 1) = D ++ [(x, y)]) := hide (HY.out hyp)
           clear hyp
           go_region_law (refine step_append_row (by rfl) (.tmp 64) (.tmp 75) 52 (by rfl) w1.heap.size 59 i1 (.agg #[.int .i64 0, .int .i64 0]) 2 16 Tryd.underlying52 hi hz0 hz1 hz2 (by rfl) (by decide) (.slice ao D.length co) D.length (D.flatMap encE) (by rfl) HO3.out ⟨wr.heap.size, 0, none⟩ 1 1 [.int .i64 x, .int .i64 y] (by rfl) (by rfl) (by exact HN3.out) (by simp [Value.oneCell']) (by unfold maxLen; omega) (by omega) HB3.out.size ?_; intro v5 w5 ho5 hg5 _; have HO5 := hide ho5; have HG5 := hide hg5; clear ho5 hg5)
           all_goals
             have ho6 : OwnE w5 w1.heap.size v5 (D ++ [(x, y)]) := by
               unfold OwnE
               rw [List.flatMap_append, List.length_append]
               exact HO5.out
             have HO6 := hide ho6
             have HB6 := hide (HB3.out.grown HG5.out HB3.out.size (fun q hq => (World.ownsRow.lt HO3.out q hq).1))
             clear ho6
             go_wp2_with fail
             refine ⟨⟨k + 1, _, Or.inr (by omega), by go_num, HP.out.symm, HO6.out, HB6.out⟩, ?_⟩
             simp [intOf]; omega)
    · have hkk : k = M.length - 1 := by omega
      have HJ := hide (refjoined_any wr ao co D HLo.out HSt.out (by omega))
      have HSet := hide (fun x => HE.out.set x)
      rw [← hkk, ← HD.out] at HSet
      have hke : ¬ ((k : Int) + 1 < (M.length : Int)) := by omega
      clear hkk HY HN
      go_wp2_with fail
      refine HJ.out.mono ?_
      rintro e w6 ⟨v6, N, rfl, ho6, hm6, hb6⟩
      have HO6 := hide (ho6.mono (Nat.le_trans HB2.out.size HBel.out.size))
      have HB6 := hide ((HB2.out.trans (HBel.out.mono HB2.out.size)).trans (hb6.mono (Nat.le_trans HB2.out.size HBel.out.size)))
      have HR := hide (show Form N ∧ ∀ x, InE N x ↔ kind0 A B x from ⟨hm6.form, fun x => (hm6.set x).trans (HSet.out x)⟩)
      have hNl : N.length ≤ 4000 := by have := hm6.len; omega
      clear ho6 hm6 hb6 HJ
      go_wp2_with fail
      go_ret
      exact ⟨_, N, rfl, HO6.out, HR.out, hNl, HB6.out⟩
set_option linter.unusedSimpArgs false in
set_option maxHeartbeats 8000000 in
set_option maxRecDepth 100000 in
theorem refboth1_any (w : World) (a b : Option Addr) (c d : Nat) (A B : List (Int × Int)) (hA : LiesE w a A) (hB : LiesE w b B) (hlA : A.length ≤ 1000) (hlB : B.length ≤ 1000) :
    Calls Tryd.prog 49 #[.slice a A.length c, .slice b B.length d, .int .i64 1] w fun e w' => ∃ v N, e = .returned v ∧ OwnE w' w.heap.size v N ∧ (Form N ∧ ∀ x, InE N x ↔ kind1 A B x) ∧ N.length ≤ 4000 ∧ Below w.heap.size w w' := by
  obtain ⟨i1, hi, hz0, hz1, hz2⟩ := info_parts info_E
  have hb1 : Below w.heap.size w (w.alloc (.cells #[.slice a A.length c, .slice b B.length d] 52)) := (Below.refl _ _).alloc (Nat.le_refl _) _
  have HB1 := hide hb1
  have HLA := hide hA
  have HLB := hide hB
  have hmx : ∀ s ∈ [(⟨a, c, A⟩ : Row3), ⟨b, d, B⟩], s.L.length ≤ 1000 := by
    intro s hs
    simp only [List.mem_cons, List.not_mem_nil, or_false] at hs
    rcases hs with rfl | rfl
    · exact hlA
    · exact hlB
  have H1 := hide (marks_any _ (some ⟨w.heap.size, 0, none⟩) 2 [⟨a, c, A⟩, ⟨b, d, B⟩] (lies_newS2 w ⟨a, c, A⟩ ⟨b, d, B⟩ hA hB) (by simp) hmx)
  have hml0 := mkS_len [(⟨a, c, A⟩ : Row3), ⟨b, d, B⟩] 1000 hmx []
  clear hb1 hA hB hmx
  go_enter Tryd.func49, Tryd.ntmps49
  go_wp2_with fail
  refine H1.out.mono ?_
  rintro e w1 ⟨v1, rfl, ho1, hb1⟩
  obtain ⟨M, hM⟩ : ∃ M, M = mkS [] [(⟨a, c, A⟩ : Row3), ⟨b, d, B⟩] := ⟨_, rfl⟩
  rw [← hM] at ho1 hml0
  have hMr : M.Pairwise (· < ·) := by rw [hM]; exact mkS_rise _ _ List.Pairwise.nil
  have hMA : ∀ q ∈ A, q.1 ∈ M ∧ q.2 ∈ M := fun q hq => by
    rw [hM]
    exact ⟨(mkS_mem _ _ _).2 (Or.inr ⟨⟨a, c, A⟩, by simp, q, hq, Or.inl rfl⟩), (mkS_mem _ _ _).2 (Or.inr ⟨⟨a, c, A⟩, by simp, q, hq, Or.inr rfl⟩)⟩
  have hMB : ∀ q ∈ B, q.1 ∈ M ∧ q.2 ∈ M := fun q hq => by
    rw [hM]
    exact ⟨(mkS_mem _ _ _).2 (Or.inr ⟨⟨b, d, B⟩, by simp, q, hq, Or.inl rfl⟩), (mkS_mem _ _ _).2 (Or.inr ⟨⟨b, d, B⟩, by simp, q, hq, Or.inr rfl⟩)⟩
  have hMl : M.length ≤ 4000 := by simpa using hml0
  have HE := hide (even_1 hMr hMA hMB)
  have hb2 := HB1.out.trans (hb1.mono HB1.out.size)
  have HB2 := hide hb2
  obtain ⟨aM, cM, hv1, hlM, _, _⟩ := ho1.form
  subst hv1
  have HM := hide hlM
  clear ho1 hb1 hM hMA hMB hlM hb2 H1 hMr hml0
  go_wp2_with fail
  go_loopw [8, 9, 10, 11] (fun v i _ _ wr => ∃ (k : Nat) (D : List (Int × Int)), (k = 0 ∨ k < M.length) ∧ i = .int .i64 k ∧ D = pieces M (kind1 A B) k ∧ OwnE wr w1.heap.size v D ∧ Below w1.heap.size w1 wr) (fun _ i _ _ _ => M.length - (intOf i).toNat)
  case atStart => exact ⟨0, [], Or.inl rfl, by simp, by simp [pieces], OwnE.nil _ _, Below.refl _ _⟩
  case round =>
    obtain ⟨k, D, hk, rfl, hD, ho, hbel⟩ := hrel
    have HO := hide ho
    have HBel := hide hbel
    have hsz := hbel.size
    have hpl := pieces_len M (kind1 A B) k
    have HSt := hide (pieces_steps HE.out.rise (kind1 A B) k hk)
    have HY := hide (fun h => pieces_yes (M := M) (p := kind1 A B) (k := k) h)
    have HN := hide (fun h => pieces_no (M := M) (p := kind1 A B) (k := k) h)
    rw [← hD] at hpl HSt HY HN
    have HD := hide hD
    clear ho hbel hD
    obtain ⟨ao, co, hvo, hlo, hoc, hom, _⟩ := HO.out.form
    subst hvo
    have HLo := hide hlo
    clear hlo
    by_cases hlt : k + 1 < M.length
    · rcases HM.out with hnil | ⟨bM, off, ha, hb, hc⟩
      · rw [hnil] at hlt; simp at hlt
      subst ha
      have r0 := (HBel.out.cell (p := ⟨bM, off + k, none⟩) hb).trans (hc k (by omega))
      have r1 := (HBel.out.cell (p := ⟨bM, off + (k + 1), none⟩) hb).trans (hc (k + 1) hlt)
      have hk0 : (0 : Int) ≤ (k : Int) := by omega
      have hk1 : (k : Int) < (M.length : Int) := by omega
      have hk2 : (0 : Int) ≤ (k : Int) + 1 := by omega
      have hk3 : (k : Int) + 1 < (M.length : Int) := by omega
      obtain ⟨x, hx⟩ : ∃ x, x = M.getD k 0 := ⟨_, rfl⟩
      obtain ⟨y, hy⟩ : ∃ y, y = M.getD (k + 1) 0 := ⟨_, rfl⟩
      rw [← hx] at r0 HY HN
      rw [← hy] at r1 HY
      have HH1 := hide (refhas_any wr a c A x ((HLA.out.below HB2.out).below HBel.out) (by omega))
      have HH2 := hide (refhas_any wr b d B x ((HLB.out.below HB2.out).below HBel.out) (by omega))
      clear hc hx hy HSt HD
      go_wp2_with fail
      refine HH1.out.mono ?_
      rintro e w3 ⟨bx, rfl, hbx, he3⟩
      have he := he3.symm
      clear he3
      subst he
      go_wp2_with fail
      refine HH2.out.mono ?_
      rintro e w4 ⟨bB, rfl, hbB, he4⟩
      have he := he4.symm
      clear he4
      subst he
      have HX := hide hbx
      have HXB := hide hbB
      clear HH1 HH2 hbx hbB
      have HN3 := hide (new2 wr.drew 59 (.int .i64 x) (.int .i64 y))
      have HO3 := hide (World.ownsRow.alloc (show OwnE wr.drew w1.heap.size (.slice ao D.length co) D from HO.out) (.cells #[.int .i64 x, .int .i64 y] 59))
      have HB3 := hide ((HBel.out.drew).alloc HBel.out.size (.cells #[.int .i64 x, .int .i64 y] 59))
      have e0 : wr.drew.cell? ⟨bM, off + k, none⟩ = some (.int .i64 x) := r0
      have e1 : wr.drew.cell? ⟨bM, off + (k + 1), none⟩ = some (.int .i64 y) := r1
      have hwk : IntKind.i64.wrap ((k : Int) + 1) = (k : Int) + 1 := by rw [IntKind.wrap_i64]; omega
      cases bx <;> cases bB
      all_goals
        go_wp2_with fail
        first
        | (have hnp : ¬ kind1 A B x := by
             have h1 := HX.out
             have h2 := HXB.out
             simp only [Bool.false_eq_true, false_iff, true_iff] at h1 h2
             simp [kind1, h1, h2]
           have HP : Hid (pieces M (kind1 A B) (k + 1) = D) := hide (HN.out hnp)
           clear hnp
           refine ⟨⟨k + 1, D, Or.inr (by omega), by go_num, HP.out.symm, HO.out, HBel.out⟩, ?_⟩
           simp [intOf]; omega)
        | (have hyp : kind1 A B x := by
             have h1 := HX.out
             have h2 := HXB.out
             simp only [Bool.false_eq_true, false_iff, true_iff] at h1 h2
             simp [kind1, h1, h2]
           have HP : Hid (pieces M (kind1 A B) (k + 1) = D ++ [(x, y)]) := hide (HY.out hyp)
           clear hyp
           go_region_law (refine step_append_row (by rfl) (.tmp 64) (.tmp 75) 52 (by rfl) w1.heap.size 59 i1 (.agg #[.int .i64 0, .int .i64 0]) 2 16 Tryd.underlying52 hi hz0 hz1 hz2 (by rfl) (by decide) (.slice ao D.length co) D.length (D.flatMap encE) (by rfl) HO3.out ⟨wr.heap.size, 0, none⟩ 1 1 [.int .i64 x, .int .i64 y] (by rfl) (by rfl) (by exact HN3.out) (by simp [Value.oneCell']) (by unfold maxLen; omega) (by omega) HB3.out.size ?_; intro v5 w5 ho5 hg5 _; have HO5 := hide ho5; have HG5 := hide hg5; clear ho5 hg5)
           all_goals
             have ho6 : OwnE w5 w1.heap.size v5 (D ++ [(x, y)]) := by
               unfold OwnE
               rw [List.flatMap_append, List.length_append]
               exact HO5.out
             have HO6 := hide ho6
             have HB6 := hide (HB3.out.grown HG5.out HB3.out.size (fun q hq => (World.ownsRow.lt HO3.out q hq).1))
             clear ho6
             go_wp2_with fail
             refine ⟨⟨k + 1, _, Or.inr (by omega), by go_num, HP.out.symm, HO6.out, HB6.out⟩, ?_⟩
             simp [intOf]; omega)
    · have hkk : k = M.length - 1 := by omega
      have HJ := hide (refjoined_any wr ao co D HLo.out HSt.out (by omega))
      have HSet := hide (fun x => HE.out.set x)
      rw [← hkk, ← HD.out] at HSet
      have hke : ¬ ((k : Int) + 1 < (M.length : Int)) := by omega
      clear hkk HY HN
      go_wp2_with fail
      refine HJ.out.mono ?_
      rintro e w6 ⟨v6, N, rfl, ho6, hm6, hb6⟩
      have HO6 := hide (ho6.mono (Nat.le_trans HB2.out.size HBel.out.size))
      have HB6 := hide ((HB2.out.trans (HBel.out.mono HB2.out.size)).trans (hb6.mono (Nat.le_trans HB2.out.size HBel.out.size)))
      have HR := hide (show Form N ∧ ∀ x, InE N x ↔ kind1 A B x from ⟨hm6.form, fun x => (hm6.set x).trans (HSet.out x)⟩)
      have hNl : N.length ≤ 4000 := by have := hm6.len; omega
      clear ho6 hm6 hb6 HJ
      go_wp2_with fail
      go_ret
      exact ⟨_, N, rfl, HO6.out, HR.out, hNl, HB6.out⟩
set_option linter.unusedSimpArgs false in
set_option maxHeartbeats 8000000 in
set_option maxRecDepth 100000 in
theorem refboth2_any (w : World) (a b : Option Addr) (c d : Nat) (A B : List (Int × Int)) (hA : LiesE w a A) (hB : LiesE w b B) (hlA : A.length ≤ 1000) (hlB : B.length ≤ 1000) :
    Calls Tryd.prog 49 #[.slice a A.length c, .slice b B.length d, .int .i64 2] w fun e w' => ∃ v N, e = .returned v ∧ OwnE w' w.heap.size v N ∧ (Form N ∧ ∀ x, InE N x ↔ kind2 A B x) ∧ N.length ≤ 4000 ∧ Below w.heap.size w w' := by
  obtain ⟨i1, hi, hz0, hz1, hz2⟩ := info_parts info_E
  have hb1 : Below w.heap.size w (w.alloc (.cells #[.slice a A.length c, .slice b B.length d] 52)) := (Below.refl _ _).alloc (Nat.le_refl _) _
  have HB1 := hide hb1
  have HLA := hide hA
  have HLB := hide hB
  have hmx : ∀ s ∈ [(⟨a, c, A⟩ : Row3), ⟨b, d, B⟩], s.L.length ≤ 1000 := by
    intro s hs
    simp only [List.mem_cons, List.not_mem_nil, or_false] at hs
    rcases hs with rfl | rfl
    · exact hlA
    · exact hlB
  have H1 := hide (marks_any _ (some ⟨w.heap.size, 0, none⟩) 2 [⟨a, c, A⟩, ⟨b, d, B⟩] (lies_newS2 w ⟨a, c, A⟩ ⟨b, d, B⟩ hA hB) (by simp) hmx)
  have hml0 := mkS_len [(⟨a, c, A⟩ : Row3), ⟨b, d, B⟩] 1000 hmx []
  clear hb1 hA hB hmx
  go_enter Tryd.func49, Tryd.ntmps49
  go_wp2_with fail
  refine H1.out.mono ?_
  rintro e w1 ⟨v1, rfl, ho1, hb1⟩
  obtain ⟨M, hM⟩ : ∃ M, M = mkS [] [(⟨a, c, A⟩ : Row3), ⟨b, d, B⟩] := ⟨_, rfl⟩
  rw [← hM] at ho1 hml0
  have hMr : M.Pairwise (· < ·) := by rw [hM]; exact mkS_rise _ _ List.Pairwise.nil
  have hMA : ∀ q ∈ A, q.1 ∈ M ∧ q.2 ∈ M := fun q hq => by
    rw [hM]
    exact ⟨(mkS_mem _ _ _).2 (Or.inr ⟨⟨a, c, A⟩, by simp, q, hq, Or.inl rfl⟩), (mkS_mem _ _ _).2 (Or.inr ⟨⟨a, c, A⟩, by simp, q, hq, Or.inr rfl⟩)⟩
  have hMB : ∀ q ∈ B, q.1 ∈ M ∧ q.2 ∈ M := fun q hq => by
    rw [hM]
    exact ⟨(mkS_mem _ _ _).2 (Or.inr ⟨⟨b, d, B⟩, by simp, q, hq, Or.inl rfl⟩), (mkS_mem _ _ _).2 (Or.inr ⟨⟨b, d, B⟩, by simp, q, hq, Or.inr rfl⟩)⟩
  have hMl : M.length ≤ 4000 := by simpa using hml0
  have HE := hide (even_2 hMr hMA hMB)
  have hb2 := HB1.out.trans (hb1.mono HB1.out.size)
  have HB2 := hide hb2
  obtain ⟨aM, cM, hv1, hlM, _, _⟩ := ho1.form
  subst hv1
  have HM := hide hlM
  clear ho1 hb1 hM hMA hMB hlM hb2 H1 hMr hml0
  go_wp2_with fail
  go_loopw [8, 9, 10, 11] (fun v i _ _ wr => ∃ (k : Nat) (D : List (Int × Int)), (k = 0 ∨ k < M.length) ∧ i = .int .i64 k ∧ D = pieces M (kind2 A B) k ∧ OwnE wr w1.heap.size v D ∧ Below w1.heap.size w1 wr) (fun _ i _ _ _ => M.length - (intOf i).toNat)
  case atStart => exact ⟨0, [], Or.inl rfl, by simp, by simp [pieces], OwnE.nil _ _, Below.refl _ _⟩
  case round =>
    obtain ⟨k, D, hk, rfl, hD, ho, hbel⟩ := hrel
    have HO := hide ho
    have HBel := hide hbel
    have hsz := hbel.size
    have hpl := pieces_len M (kind2 A B) k
    have HSt := hide (pieces_steps HE.out.rise (kind2 A B) k hk)
    have HY := hide (fun h => pieces_yes (M := M) (p := kind2 A B) (k := k) h)
    have HN := hide (fun h => pieces_no (M := M) (p := kind2 A B) (k := k) h)
    rw [← hD] at hpl HSt HY HN
    have HD := hide hD
    clear ho hbel hD
    obtain ⟨ao, co, hvo, hlo, hoc, hom, _⟩ := HO.out.form
    subst hvo
    have HLo := hide hlo
    clear hlo
    by_cases hlt : k + 1 < M.length
    · rcases HM.out with hnil | ⟨bM, off, ha, hb, hc⟩
      · rw [hnil] at hlt; simp at hlt
      subst ha
      have r0 := (HBel.out.cell (p := ⟨bM, off + k, none⟩) hb).trans (hc k (by omega))
      have r1 := (HBel.out.cell (p := ⟨bM, off + (k + 1), none⟩) hb).trans (hc (k + 1) hlt)
      have hk0 : (0 : Int) ≤ (k : Int) := by omega
      have hk1 : (k : Int) < (M.length : Int) := by omega
      have hk2 : (0 : Int) ≤ (k : Int) + 1 := by omega
      have hk3 : (k : Int) + 1 < (M.length : Int) := by omega
      obtain ⟨x, hx⟩ : ∃ x, x = M.getD k 0 := ⟨_, rfl⟩
      obtain ⟨y, hy⟩ : ∃ y, y = M.getD (k + 1) 0 := ⟨_, rfl⟩
      rw [← hx] at r0 HY HN
      rw [← hy] at r1 HY
      have HH1 := hide (refhas_any wr a c A x ((HLA.out.below HB2.out).below HBel.out) (by omega))
      have HH2 := hide (refhas_any wr b d B x ((HLB.out.below HB2.out).below HBel.out) (by omega))
      clear hc hx hy HSt HD
      go_wp2_with fail
      refine HH1.out.mono ?_
      rintro e w3 ⟨bx, rfl, hbx, he3⟩
      have he := he3.symm
      clear he3
      subst he
      go_wp2_with fail
      refine HH2.out.mono ?_
      rintro e w4 ⟨bB, rfl, hbB, he4⟩
      have he := he4.symm
      clear he4
      subst he
      have HX := hide hbx
      have HXB := hide hbB
      clear HH1 HH2 hbx hbB
      have HN3 := hide (new2 wr.drew 59 (.int .i64 x) (.int .i64 y))
      have HO3 := hide (World.ownsRow.alloc (show OwnE wr.drew w1.heap.size (.slice ao D.length co) D from HO.out) (.cells #[.int .i64 x, .int .i64 y] 59))
      have HB3 := hide ((HBel.out.drew).alloc HBel.out.size (.cells #[.int .i64 x, .int .i64 y] 59))
      have e0 : wr.drew.cell? ⟨bM, off + k, none⟩ = some (.int .i64 x) := r0
      have e1 : wr.drew.cell? ⟨bM, off + (k + 1), none⟩ = some (.int .i64 y) := r1
      have hwk : IntKind.i64.wrap ((k : Int) + 1) = (k : Int) + 1 := by rw [IntKind.wrap_i64]; omega
      cases bx <;> cases bB
      all_goals
        go_wp2_with fail
        first
        | (have hnp : ¬ kind2 A B x := by
             have h1 := HX.out
             have h2 := HXB.out
             simp only [Bool.false_eq_true, false_iff, true_iff] at h1 h2
             simp [kind2, h1, h2]
           have HP : Hid (pieces M (kind2 A B) (k + 1) = D) := hide (HN.out hnp)
           clear hnp
           refine ⟨⟨k + 1, D, Or.inr (by omega), by go_num, HP.out.symm, HO.out, HBel.out⟩, ?_⟩
           simp [intOf]; omega)
        | (have hyp : kind2 A B x := by
             have h1 := HX.out
             have h2 := HXB.out
             simp only [Bool.false_eq_true, false_iff, true_iff] at h1 h2
             simp [kind2, h1, h2]
           have HP : Hid (pieces M (kind2 A B) (k + 1) = D ++ [(x, y)]) := hide (HY.out hyp)
           clear hyp
           go_region_law (refine step_append_row (by rfl) (.tmp 64) (.tmp 75) 52 (by rfl) w1.heap.size 59 i1 (.agg #[.int .i64 0, .int .i64 0]) 2 16 Tryd.underlying52 hi hz0 hz1 hz2 (by rfl) (by decide) (.slice ao D.length co) D.length (D.flatMap encE) (by rfl) HO3.out ⟨wr.heap.size, 0, none⟩ 1 1 [.int .i64 x, .int .i64 y] (by rfl) (by rfl) (by exact HN3.out) (by simp [Value.oneCell']) (by unfold maxLen; omega) (by omega) HB3.out.size ?_; intro v5 w5 ho5 hg5 _; have HO5 := hide ho5; have HG5 := hide hg5; clear ho5 hg5)
           all_goals
             have ho6 : OwnE w5 w1.heap.size v5 (D ++ [(x, y)]) := by
               unfold OwnE
               rw [List.flatMap_append, List.length_append]
               exact HO5.out
             have HO6 := hide ho6
             have HB6 := hide (HB3.out.grown HG5.out HB3.out.size (fun q hq => (World.ownsRow.lt HO3.out q hq).1))
             clear ho6
             go_wp2_with fail
             refine ⟨⟨k + 1, _, Or.inr (by omega), by go_num, HP.out.symm, HO6.out, HB6.out⟩, ?_⟩
             simp [intOf]; omega)
    · have hkk : k = M.length - 1 := by omega
      have HJ := hide (refjoined_any wr ao co D HLo.out HSt.out (by omega))
      have HSet := hide (fun x => HE.out.set x)
      rw [← hkk, ← HD.out] at HSet
      have hke : ¬ ((k : Int) + 1 < (M.length : Int)) := by omega
      clear hkk HY HN
      go_wp2_with fail
      refine HJ.out.mono ?_
      rintro e w6 ⟨v6, N, rfl, ho6, hm6, hb6⟩
      have HO6 := hide (ho6.mono (Nat.le_trans HB2.out.size HBel.out.size))
      have HB6 := hide ((HB2.out.trans (HBel.out.mono HB2.out.size)).trans (hb6.mono (Nat.le_trans HB2.out.size HBel.out.size)))
      have HR := hide (show Form N ∧ ∀ x, InE N x ↔ kind2 A B x from ⟨hm6.form, fun x => (hm6.set x).trans (HSet.out x)⟩)
      have hNl : N.length ≤ 4000 := by have := hm6.len; omega
      clear ho6 hm6 hb6 HJ
      go_wp2_with fail
      go_ret
      exact ⟨_, N, rfl, HO6.out, HR.out, hNl, HB6.out⟩

end Go.Proofs.YtpbnjobjjnhplaaDoor.Oct
