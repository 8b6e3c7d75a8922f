/- floor, Inward and Moved, by the reference. -/
import Derived.Test.YtiplgcnkkbndjaaNrr
import Derived.Test.YtiplgcnkkbndjaaInw
namespace Go.Proofs.Ytiplgcnkkbndjaa.Oct
open Go.RowKit

theorem tdiv_floor (x u : Int) (hu : 0 < u) : (x.tmod u < 0 → x.tdiv u - 1 = x / u) ∧ (¬ x.tmod u < 0 → x.tdiv u = x / u) := by
  have h1 : u * x.tdiv u + x.tmod u = x := Int.mul_tdiv_add_tmod x u
  have h2 : x.tmod u < u := Int.tmod_lt_of_pos x hu
  have h3 : -u < x.tmod u := by
    have h1 := Int.neg_tmod x u
    have h2 := Int.tmod_lt_of_pos (-x) (b := u) hu
    omega
  refine ⟨fun h => ?_, fun h => ?_⟩
  · refine ((Int.ediv_emod_unique hu (a := x) (r := x.tmod u + u) (q := x.tdiv u - 1)).2 ⟨?_, by omega, by omega⟩).1.symm
    rw [Int.mul_sub]
    omega
  · refine ((Int.ediv_emod_unique hu (a := x) (r := x.tmod u) (q := x.tdiv u)).2 ⟨by omega, by omega, by omega⟩).1.symm

set_option maxHeartbeats 1000000 in
theorem floor_any (w : World) (x u : Int) (hu : 1 ≤ u) (hx : -1125899906842624 ≤ x ∧ x ≤ 1125899906842624) :
    Calls Try.prog 38 #[.int .i64 x, .int .i64 u] w fun e w' => e = .returned (.int .i64 (x / u)) ∧ w' = w := by
  have h0 : ¬ (u = 0) := by omega
  have hub : (u == 0) = false := by simpa using h0
  obtain ⟨hf1, hf2⟩ := tdiv_floor x u (by omega)
  have hb : -1125899906842624 ≤ x.tdiv u ∧ x.tdiv u ≤ 1125899906842624 := by
    have h1 := Int.natAbs_tdiv_le_natAbs x u
    omega
  have hbm : -1125899906842624 ≤ x.tmod u ∧ x.tmod u ≤ 1125899906842624 := by
    have h1 : (x.tmod u).natAbs ≤ x.natAbs := by rw [Int.natAbs_tmod]; exact Nat.mod_le _ _
    omega
  have hw : wrap64 (x.tmod u) = x.tmod u := by unfold wrap64; omega
  have hwi : IntKind.i64.wrap (x.tmod u) = x.tmod u := by rw [IntKind.wrap_i64]; omega
  have hq : wrap64 (x.tdiv u) = x.tdiv u := by unfold wrap64; omega
  have hqi : IntKind.i64.wrap (x.tdiv u) = x.tdiv u := by rw [IntKind.wrap_i64]; omega
  by_cases hn : x.tmod u < 0
  · have e := hf1 hn
    have hw2 : wrap64 (x.tdiv u - 1) = x / u := by rw [← e]; unfold wrap64; omega
    have hw3 : IntKind.i64.wrap (x.tdiv u - 1) = x / u := by rw [← e, IntKind.wrap_i64]; omega
    clear hf1 hf2
    go_enter Try.func38, Try.ntmps38
    go_wp2_with fail
    go_ret
    exact ⟨rfl, rfl⟩
  · have e := hf2 hn
    clear hf1 hf2
    go_enter Try.func38, Try.ntmps38
    go_wp2_with fail
    go_ret
    exact ⟨rfl, rfl⟩

theorem Refd.near {L N : List (Int × Int)} (h : Refd L N) (hn : Near L) : Near N := by
  intro p hp
  have hf := h.form.1 p hp
  obtain ⟨q, hq, h1, h2⟩ := (h.set p.1).1 ⟨p, hp, by omega, hf⟩
  obtain ⟨q', hq', h3, h4⟩ := (h.set (p.2 - 1)).1 ⟨p, hp, by omega, by omega⟩
  have h5 := hn q hq
  have h6 := hn q' hq'
  omega

/-- The whole units of parts, those that have one. -/
def units (u : Int) (N : List (Int × Int)) : List (Int × Int) := (N.map (inw u)).filter (fun p => decide (p.1 < p.2))

theorem units_set (u : Int) (N : List (Int × Int)) (x : Int) : InE (units u N) x ↔ InE (N.map (inw u)) x := by
  constructor
  · rintro ⟨p, hp, hx⟩
    exact ⟨p, (List.mem_filter.1 hp).1, hx⟩
  · rintro ⟨p, hp, hx⟩
    exact ⟨p, List.mem_filter.2 ⟨hp, by simp; omega⟩, hx⟩

theorem units_len (u : Int) (N : List (Int × Int)) : (units u N).length ≤ N.length := by
  unfold units
  exact Nat.le_trans (List.length_filter_le _ _) (by simp)

theorem units_step (u : Int) (N : List (Int × Int)) (k : Nat) (hk : k < N.length) : units u (N.take (k + 1)) = if (inw u (N.getD k (0, 0))).1 < (inw u (N.getD k (0, 0))).2 then units u (N.take k) ++ [inw u (N.getD k (0, 0))] else units u (N.take k) := by
  unfold units
  rw [take_step N k hk, List.map_append, List.filter_append]
  split
  · rename_i h
    rw [List.map_singleton, List.filter_cons_of_pos (by simpa using h)]
    simp
  · rename_i h
    rw [List.map_singleton, List.filter_cons_of_neg (by simpa using h)]
    simp

theorem units_steps (u : Int) (hu : 1 ≤ u) {N : List (Int × Int)} (hf : Form N) : Steps2 (units u N) := by
  refine ⟨fun p hp => by simpa using (List.mem_filter.1 hp).2, ?_⟩
  unfold units
  refine List.Pairwise.filter _ (List.pairwise_map.2 (hf.2.imp fun {a b} h => ?_))
  have h2 := Int.emod_nonneg (-b.1) (b := u) (by omega)
  have h4 := Int.emod_nonneg a.2 (b := u) (by omega)
  unfold inw
  dsimp only
  omega

theorem inw_div (u : Int) (x : Int × Int) : inw u x = (-((-x.1) / u) * u, x.2 / u * u) := by
  have h1 := Int.mul_ediv_add_emod (-x.1) u
  have h2 := Int.mul_ediv_add_emod x.2 u
  rw [Int.mul_comm] at h1 h2
  unfold inw
  rw [Int.neg_mul]
  congr 1
  · omega
  · omega

theorem div_near (x u : Int) (hu : 1 ≤ u) (hx : -1125899906842624 ≤ x ∧ x ≤ 1125899906842624) : -1125899906842624 ≤ x / u ∧ x / u ≤ 1125899906842624 :=
  ⟨(Int.le_ediv_iff_mul_le (by omega)).2 (by omega), Int.ediv_le_of_le_mul (by omega) (by omega)⟩

set_option maxHeartbeats 4000000 in
set_option maxRecDepth 100000 in
theorem refinward_any (w : World) (a : Option Addr) (c : Nat) (L : List (Int × Int)) (h : LiesE w a L) (hl : L.length ≤ 1000) (hne : Near L) (u : Int) (hu : 1 ≤ u ∧ u ≤ 1125899906842624) :
    Calls Try.prog 28 #[.slice a L.length c, .int .i64 u] w fun e w' => ∃ v N R, e = .returned v ∧ Refd L N ∧ Made (units u N) R ∧ OwnE w' w.heap.size v R ∧ Below w.heap.size w w' := by
  obtain ⟨i1, hi, hz0, hz1, hz2⟩ := info_parts info_E
  have HNr := hide (refnorm_any w a c L h hl)
  clear h
  go_enter Try.func28, Try.ntmps28
  go_wp2_with fail
  refine HNr.out.mono ?_
  rintro e w1 ⟨v1, N, rfl, ho1, hr1, hNl, hb1⟩
  have HR := hide hr1
  have HB1 := hide hb1
  have HNe := hide (hr1.near hne)
  obtain ⟨aN, cN, hv1, hlN, _, _, _⟩ := ho1.form
  subst hv1
  have HM := hide hlN
  clear ho1 hr1 hb1 hlN HNr hne
  go_wp2_with fail
  go_loopw [5, 7, 8, 9] (fun v i _ _ wr => ∃ k : Nat, k ≤ N.length ∧ i = .int .i64 k ∧ OwnE wr w1.heap.size v (units u (N.take k)) ∧ Below w1.heap.size w1 wr) (fun _ i _ _ _ => N.length - (intOf i).toNat)
  case atStart => exact ⟨0, by omega, by simp, by simpa [units] using OwnE.nil _ _, Below.refl _ _⟩
  case round =>
    obtain ⟨k, hk, rfl, ho, hbel⟩ := hrel
    have HO := hide ho
    have HBel := hide hbel
    have hsz := hbel.size
    clear ho hbel
    have hpl := units_len u (N.take k)
    have hpl2 : (units u (N.take k)).length ≤ 2000 := by simp at hpl; omega
    clear hpl
    obtain ⟨ao, co, hvo, hlo, hoc, hom, _⟩ := HO.out.form
    subst hvo
    have HLo := hide hlo
    clear hlo
    by_cases hlt : k < N.length
    · rcases HM.out with hnil | ⟨b, off, ha, hb, hc⟩
      · rw [hnil] at hlt; simp at hlt
      subst ha
      obtain ⟨q0, q1⟩ := hc k hlt
      have r0 := (HBel.out.cell (p := ⟨b, off + k * 2, none⟩) hb).trans q0
      have r1 := (HBel.out.cell (p := ⟨b, off + k * 2 + 1, none⟩) hb).trans q1
      have hk0 : (0 : Int) ≤ (k : Int) := by omega
      have hk1 : (k : Int) < (N.length : Int) := by omega
      have HSt := hide (units_step u N k hlt)
      have hnx := HNe.out _ (getD_mem N k hlt)
      obtain ⟨x, hx⟩ : ∃ x, x = N.getD k (0, 0) := ⟨_, rfl⟩
      rw [← hx] at r0 r1 HSt hnx
      obtain ⟨x1, x2⟩ := x
      dsimp only at r0 r1 hnx
      obtain ⟨O, hO⟩ : ∃ O, O = units u (N.take k) := ⟨_, rfl⟩
      rw [← hO] at HO hpl2 hoc HLo HSt ⊢
      clear hc q0 q1 hx hO
      have hn1 : IntKind.i64.wrap (-x1) = -x1 := by rw [IntKind.wrap_i64]; omega
      have hdv := inw_div u (x1, x2)
      dsimp only at hdv
      have hd1 := div_near (-x1) u hu.1 (by omega)
      have hd2 := div_near x2 u hu.1 (by omega)
      have hin : -2251799813685248 ≤ (inw u (x1, x2)).1 ∧ (inw u (x1, x2)).1 ≤ 2251799813685248 ∧ -2251799813685248 ≤ (inw u (x1, x2)).2 ∧ (inw u (x1, x2)).2 ≤ 2251799813685248 := by
        have h2 := Int.emod_nonneg (-x1) (b := u) (by omega)
        have h3 := Int.emod_lt_of_pos (-x1) (b := u) (by omega)
        have h4 := Int.emod_nonneg x2 (b := u) (by omega)
        have h5 := Int.emod_lt_of_pos x2 (b := u) (by omega)
        unfold inw
        dsimp only
        omega
      have HF1 := hide (fun W => floor_any W (-x1) u hu.1 (by omega))
      have HF2 := hide (fun W => floor_any W x2 u hu.1 (by omega))
      rw [hdv] at hin HSt
      obtain ⟨t1, ht1⟩ : ∃ t, t = (-x1) / u := ⟨_, rfl⟩
      obtain ⟨t2, ht2⟩ : ∃ t, t = x2 / u := ⟨_, rfl⟩
      rw [← ht1] at hin HSt HF1 hd1
      rw [← ht2] at hin HSt HF2 hd2
      dsimp only at hin HSt
      clear hdv ht1 ht2
      have hn2 : IntKind.i64.wrap (-t1) = -t1 := by rw [IntKind.wrap_i64]; omega
      obtain ⟨y1, hy1⟩ : ∃ y, y = -t1 * u := ⟨_, rfl⟩
      obtain ⟨y2, hy2⟩ : ∃ y, y = t2 * u := ⟨_, rfl⟩
      have hiff : y1 < y2 ↔ -t1 < t2 := by rw [hy1, hy2]; exact Int.mul_lt_mul_right (by omega)
      rw [← hy1, ← hy2] at hin HSt
      have hm1 : IntKind.i64.wrap (-t1 * u) = y1 := by rw [← hy1, IntKind.wrap_i64]; omega
      have hm2 : IntKind.i64.wrap (t2 * u) = y2 := by rw [← hy2, IntKind.wrap_i64]; omega
      clear hy1 hy2
      by_cases hfl : -t1 < t2
      · have HSt2 : Hid (units u (N.take (k + 1)) = O ++ [(y1, y2)]) := hide (by have := HSt.out; rw [if_pos (hiff.2 hfl)] at this; exact this)
        have HN3 := hide (new2 wr 37 (.int .i64 y1) (.int .i64 y2))
        have HO3 := hide (World.ownsRow.alloc HO.out (.cells #[.int .i64 y1, .int .i64 y2] 37))
        have HB3 := hide (HBel.out.alloc HBel.out.size (.cells #[.int .i64 y1, .int .i64 y2] 37))
        clear HSt hiff
        go_wp2_with fail
        refine (HF1.out _).mono ?_
        rintro e w4 ⟨rfl, he4⟩
        have he := he4.symm
        clear he4
        subst he
        go_wp2_with fail
        refine (HF2.out _).mono ?_
        rintro e w5 ⟨rfl, he5⟩
        have he := he5.symm
        clear he5
        subst he
        go_wp2_with (at_builtin; refine wpList_append_own_at _ rfl (.tmp 37) (.tmp 45) 22 rfl w1.heap.size 37 i1 (.agg #[.int .i64 0, .int .i64 0]) 2 16 Try.underlying22 hi hz0 hz1 hz2 rfl (by decide) (.slice ao O.length co) O.length (O.flatMap encE) rfl HO3.out ⟨wr.heap.size, 0, none⟩ 1 1 [.int .i64 y1, .int .i64 y2] rfl rfl HN3.out (by simp [Value.oneCell']) (by unfold maxLen; omega) (by omega) HB3.out.size ?_; intro v5 w6 ho5 hg5 _ hw5; have HO5 := hide ho5; have HG5 := hide hg5; clear ho5 hg5 hw5)
        have ho6 : OwnE w6 w1.heap.size v5 (units u (N.take (k + 1))) := by
          unfold OwnE
          rw [HSt2.out, List.flatMap_append, List.length_append]
          exact HO5.out
        have hb6 := HB3.out.grown HG5.out HB3.out.size (fun q hq => (World.ownsRow.lt HO3.out q hq).1)
        refine ⟨⟨k + 1, by omega, by go_num, ho6, hb6⟩, ?_⟩
        simp [intOf]; omega
      · have HSt2 : Hid (OwnE wr w1.heap.size (.slice ao O.length co) (units u (N.take (k + 1)))) := hide (by have := HSt.out; rw [if_neg (fun h => hfl (hiff.1 h))] at this; rw [this]; exact HO.out)
        clear HSt hiff
        go_wp2_with fail
        refine (HF1.out _).mono ?_
        rintro e w4 ⟨rfl, he4⟩
        have he := he4.symm
        clear he4
        subst he
        go_wp2_with fail
        refine (HF2.out _).mono ?_
        rintro e w5 ⟨rfl, he5⟩
        have he := he5.symm
        clear he5
        subst he
        go_wp2_with fail
        refine ⟨⟨k + 1, by omega, by go_num, HSt2.out, HBel.out⟩, ?_⟩
        simp [intOf]; omega
    · obtain ⟨O, hO⟩ : ∃ O, O = units u (N.take k) := ⟨_, rfl⟩
      rw [← hO] at HO hpl2 hoc HLo ⊢
      obtain rfl : k = N.length := by omega
      rw [List.take_length] at hO
      have HOe := hide hO
      have HJ := hide (refjoined_any wr ao co O HLo.out (by rw [hO]; exact units_steps u hu.1 HR.out.form) (by omega))
      clear hO
      go_wp2_with fail
      refine HJ.out.mono ?_
      rintro e w6 ⟨v6, R, rfl, ho6, hm6, hb6⟩
      rw [HOe.out] at hm6
      have HO6 := hide (ho6.mono (Nat.le_trans HB1.out.size HBel.out.size))
      have HB6 := hide ((HB1.out.trans (HBel.out.mono HB1.out.size)).trans (hb6.mono (Nat.le_trans HB1.out.size HBel.out.size)))
      have HM6 := hide hm6
      clear ho6 hm6 hb6 HJ
      go_wp2_with fail
      go_ret
      exact ⟨_, N, R, rfl, HR.out, HM6.out, HO6.out, HB6.out⟩

end Go.Proofs.Ytiplgcnkkbndjaa.Oct
