/- What waits is made safe. -/
import Derived.Test.YtkhknfohcebicaaCrs
namespace Go.Proofs.Ytkhknfohcebicaa.Oct
open Go.RowKit Go.Deep

/-- New bytes are safe. -/
theorem Fil.step_safe {w w2 : World} {X : Nat → Prop} {F : Nat} {f : Fs} {S T T' : List Int} {R : List Wr} (h : Fil w X F f S T R) (v2 : Value) (ho : Own w2 0 v2 T') (hg : w.grownBy w2 f.vt.ownBlock) (hw : Went w f.vt v2) :
    Fil (w2.setCell ⟨F, 1, none⟩ v2) (fun k => X k ∨ w.heap.size ≤ k) F { f with vt := v2 } S T' R ∧ Chg (fun k => k = F ∨ some k = f.vt.ownBlock) w (w2.setCell ⟨F, 1, none⟩ v2) := by
  have hc := Chg.of_grown hg
  have hF : ¬ (some F = f.vt.ownBlock) := fun e => (h.xt F e.symm).2.1 rfl
  have hA := h.at_.chg hc hF
  have hX : Chg (fun k => k = F ∨ some k = f.vt.ownBlock) w (w2.setCell ⟨F, 1, none⟩ v2) := ((hc.mono (fun i _ e => Or.inr e)) : Chg (fun k => k = F ∨ some k = f.vt.ownBlock) w w2).setCell F 1 v2 (fun _ => Or.inl rfl)
  have hs : Chg (fun k => k = F) w2 (w2.setCell ⟨F, 1, none⟩ v2) := (Chg.refl _ _).setCell F 1 v2 (fun _ => rfl)
  have hnew : ∀ g, v2.ownBlock = some g → (X g ∨ w.heap.size ≤ g) ∧ g ≠ F ∧ (g < w.heap.size → f.vt.ownBlock = some g) := by
    intro g hgg
    rcases hw with e | ⟨g', e, hle⟩
    · rw [e] at hgg
      exact ⟨Or.inl (h.xt g hgg).1, (h.xt g hgg).2.1, fun _ => hgg⟩
    · rw [e] at hgg
      cases hgg
      exact ⟨Or.inr hle, fun e => by have := h.at_.lt; omega, fun hlt => absurd hlt (by omega)⟩
  have hold : ∀ g, g < w.heap.size → f.vt.ownBlock ≠ some g → v2.ownBlock ≠ some g := fun g hlt hne e => hne ((hnew g e).2.2 hlt)
  have hfree : ∀ r, Free w X F f r → Free (w2.setCell ⟨F, 1, none⟩ v2) (fun k => X k ∨ w.heap.size ≤ k) F { f with vt := v2 } r := by
    intro r hr
    refine ⟨(hr.1.chg hc (fun x hx e => (hr.2 x hx).2.2.2.2.1 e.symm)).chg hs (fun x hx => (hr.2 x hx).2.2.1), fun x hx => ?_⟩
    obtain ⟨h1, h2, h3, h4, h5, h6⟩ := hr.2 x hx
    exact ⟨Nat.lt_of_lt_of_le h1 hX.size, Or.inl h2, h3, h4, hold _ h1 h5, h6⟩
  refine ⟨⟨hA.setvt v2, Or.inl h.xF, (h.seen.chg hc (fun g hgg e => (h.xt g e.symm).2.2 hgg)).chg hs (fun g hgg => (h.xs g hgg).2), ho.chg hs (fun g hgg => (hnew g hgg).2.1),
    ownsRow_chg (ownsRow_chg h.row hc (fun g hgg e => (h.xr g hgg).2.2.2 e.symm)) hs (fun g hgg => (h.xr g hgg).2.1), fun g hgg => ⟨Or.inl (h.xs g hgg).1, (h.xs g hgg).2⟩, fun g hgg => ⟨(hnew g hgg).1, (hnew g hgg).2.1, fun e => ?_⟩,
    fun g hgg => ⟨Or.inl (h.xr g hgg).1, (h.xr g hgg).2.1, (h.xr g hgg).2.2.1, hold g (ownsRow_lt h.row g hgg) (h.xr g hgg).2.2.2⟩, fun r hr => hfree r (h.ps r hr)⟩, hX⟩
  exact (h.xt g ((hnew g hgg).2.2 (ownsRow_lt h.seen g e))).2.2 e

/-- Nothing waits any longer. -/
theorem Fil.clear_row {w : World} {X : Nat → Prop} {F : Nat} {f : Fs} {S T : List Int} {R : List Wr} (h : Fil w X F f S T R) :
    Fil (w.setCell ⟨F, 2, none⟩ (.slice none 0 0)) X F { f with vr := .slice none 0 0 } S T [] ∧ Chg (fun k => k = F) w (w.setCell ⟨F, 2, none⟩ (.slice none 0 0)) := by
  have hs : Chg (fun k => k = F) w (w.setCell ⟨F, 2, none⟩ (.slice none 0 0)) := (Chg.refl _ _).setCell F 2 _ (fun _ => rfl)
  exact ⟨⟨h.at_.setvr _, h.xF, h.seen.chg hs (fun g hgg => (h.xs g hgg).2), h.safe.chg hs (fun g hgg => (h.xt g hgg).2.1), World.ownsRow_nil _ _ _ _, h.xs, h.xt, fun g hgg => by simp [Value.ownBlock] at hgg, fun r hr => by simp at hr⟩, hs⟩

theorem laidAll_take (T : List Int) (R : List Wr) (k : Nat) (hk : k < R.length) : laidAll T (R.take (k + 1)) = laid (R.getD k Wr.none) (laidAll T (R.take k)) := by
  have : R.getD k Wr.none = R[k] := by simp [hk]
  rw [List.take_succ_eq_append_getElem hk, laidAll_snoc, this]

theorem laidAll_le (R : List Wr) (hR : Small R) : ∀ (T : List Int), T.length ≤ 4194304 → (laidAll T R).length ≤ 4194304 := by
  induction R with
  | nil => intro T hT; exact hT
  | cons r R ih =>
    intro T hT
    have : laidAll T (r :: R) = laidAll (laid r T) R := by simp [laidAll]
    rw [this]
    exact ih (fun x hx => hR x (by simp [hx])) _ (laid_le _ _ _ hT (hR r (by simp)))

set_option maxHeartbeats 4000000 in
set_option maxRecDepth 100000 in
theorem flush_file (w : World) (X : Nat → Prop) (F : Nat) (f : Fs) (S T : List Int) (R : List Wr) (h : Fil w X F f S T R) (hops : -1000000 ≤ f.ops ∧ f.ops < 1000000) (h0 : f.said = 0) (hT : T.length ≤ 4194304) (hR : Small R) (hrl : R.length ≤ 10000000) :
    Calls Try.prog 43 #[.pointer (some ⟨F, 0, none⟩)] w fun e w' => e = .returned (.int .i64 0) ∧ ∃ vt, Fil w' (fun k => X k ∨ w.heap.size ≤ k) F { f.asked with vt := vt, vr := .slice none 0 0 } S (laidAll T R) [] ∧ Chg X w w' := by
  have HF := hide h
  have HLe : Hid (∀ k, (laidAll T (R.take k)).length ≤ 4194304) := hide (fun k => laidAll_le _ (fun r hr => hR r (List.mem_of_mem_take hr)) T hT)
  have HR := hide hR
  clear h hT hR
  go_enter Try.func43, Try.ntmps43
  go_wp2_with fail
  refine (ask_file w F f HF.out.at_ (by omega)).mono ?_
  rintro e w1 ⟨rfl, ha1, hc1⟩
  rw [h0]
  have hf1 := HF.out.fields hc1 ha1 rfl rfl rfl
  have HC1 : Hid (Chg X w w1) := hide (hc1.mono (fun i _ e => by subst e; exact HF.out.xF))
  obtain ⟨f1, hf1e⟩ : ∃ f1, f1 = f.asked := ⟨_, rfl⟩
  rw [← hf1e] at hf1
  have HFE := hide hf1e
  have h2 := hf1.at_.cell.2.2.1
  obtain ⟨a2, c2, e2, hrc, hrm, hrg⟩ := row_form hf1.row
  have HE2 := hide e2
  rw [e2] at h2
  have HRG : Hid (0 < R.length → ∃ g, a2 = some ⟨g, 0, none⟩) := hide (fun hp => by
    obtain ⟨g, e3, e4⟩ := hrg hp
    exact ⟨g, e3⟩)
  have HI : Hid (∃ (k : Nat) (vt : Value), k ≤ R.length ∧ Value.int .i64 0 = .int .i64 k ∧ Fil w1 (fun k => X k ∨ w.heap.size ≤ k) F { f1 with vt := vt } S (laidAll T (R.take k)) R ∧ Chg X w w1) :=
    hide ⟨0, f1.vt, by omega, by simp, hf1.mono (fun _ _ h => Or.inl h), HC1.out⟩
  clear hf1 hc1 ha1 hf1e hrg hrc hrm e2
  go_wp2_with fail
  go_loopw [16] (fun i wr => ∃ (k : Nat) (vt : Value), k ≤ R.length ∧ i = .int .i64 k ∧ Fil wr (fun k => X k ∨ w.heap.size ≤ k) F { f1 with vt := vt } S (laidAll T (R.take k)) R ∧ Chg X w wr) (fun i _ => R.length - (intOf i).toNat)
  case atStart => exact HI.out
  case round =>
    obtain ⟨k, vt, hk, rfl, hfil, hchg⟩ := hrel
    clear HI
    have HFil := hide hfil
    have HChg := hide hchg
    clear hchg
    by_cases hlt : k < R.length
    · obtain ⟨g, hag⟩ := HRG.out (by omega)
      subst hag
      have hrow := hfil.row
      dsimp only at hrow
      rw [HE2.out] at hrow
      obtain ⟨r0, r1, r2⟩ := row_cells hrow k hlt
      have hk0 : (0 : Int) ≤ (k : Int) := by omega
      have hk1 : (k : Int) < (R.length : Int) := by omega
      have HRm : Hid (R.getD k Wr.none ∈ R) := hide (by have : R.getD k Wr.none = R[k] := by simp [hlt]
                                                        rw [this]; exact List.getElem_mem _)
      have HLT := hide (laidAll_take T R k hlt)
      obtain ⟨r, hr⟩ : ∃ r, r = R.getD k Wr.none := ⟨_, rfl⟩
      rw [← hr] at r0 r1 r2 HRm HLT
      clear hr hrow hfil
      obtain ⟨w2, hw2⟩ : ∃ w2, w2 = wr.alloc (.cells #[.int .i64 r.at_, .slice r.a r.p.length r.cap, .bool r.cut] 91) := ⟨_, rfl⟩
      obtain ⟨b0, b1, b2⟩ := box3 wr 91 (.int .i64 r.at_) (.slice r.a r.p.length r.cap) (.bool r.cut)
      rw [← hw2] at b0 b1 b2
      have hc2 : Chg (fun _ => False) wr w2 := by rw [hw2]; exact (Chg.refl _ _).alloc _
      have hfl2 : Fil w2 (fun k => X k ∨ w.heap.size ≤ k) F { f1 with vt := vt } S (laidAll T (R.take k)) R := HFil.out.chg hc2 (fun _ _ _ h => h)
      have HW2 := hide hw2
      have HF2 := hide hfl2
      have HC2 := hide hc2
      have c0 : w2.drew.cell? ⟨wr.heap.size, 0, none⟩ = some (.int .i64 r.at_) := b0
      have c1 : w2.drew.cell? ⟨wr.heap.size, 1, none⟩ = some (.slice r.a r.p.length r.cap) := b1
      have c2 : w2.drew.cell? ⟨wr.heap.size, 2, none⟩ = some (.bool r.cut) := b2
      have cg : w2.drew.cell? ⟨F, 1, none⟩ = some vt := hfl2.at_.cell.2.1
      have z1 := hfl2.at_.frozen 1
      have HKF := hide hfl2.at_.lt
      have HNS : Hid (some F ≠ vt.ownBlock) := hide (fun e => (hfl2.xt _ e.symm).2.1 rfl)
      have hfr := hfl2.ps r HRm.out
      have HFr : Hid (Lies w2 r.a r.p ∧ ∀ x, r.a = some x → vt.ownBlock ≠ some x.block) := hide ⟨hfr.1, fun x hx => (hfr.2 x hx).2.2.2.2.1⟩
      have hsm := HR.out r HRm.out
      have hle := HLe.out k
      clear hw2 hfl2 hc2 hfr
      go_wp2_with fail
      rw [← HW2.out]
      go_region_with (go_at_call 40; refine (onto_own w2.drew 0 vt _ r HF2.out.safe.drew (Nat.zero_le _) HFr.out.1.drew HFr.out.2 (by omega) (by omega) (by omega)).mono ?_; rintro e w3 ⟨v3, rfl, ho3, hg3, hw3⟩; obtain ⟨x3, cap3, rfl, _, _⟩ := ho3.sl; have HO3 := hide ho3; have HG3 := hide hg3; have HW3 := hide hw3; have cF := hg3.cell (a := ⟨F, 1, none⟩) cg HNS.out; have zF : w3.frozen? ⟨F, 1, none⟩ = false := (World.frozen?_of_block (a := ⟨F, 1, none⟩) (HG3.out.block F HKF.out HNS.out)).trans z1; clear ho3 hg3 hw3)
      all_goals
        obtain ⟨hf4, hc4⟩ := HF2.out.step_safe (w2 := w3) (.slice x3 (laid r (laidAll T (R.take k))).length cap3) HO3.out ⟨HG3.out.os, HG3.out.tape, HG3.out.output, HG3.out.size, HG3.out.block⟩ HW3.out
        generalize w3.setCell ⟨F, 1, none⟩ (.slice x3 (laid r (laidAll T (R.take k))).length cap3) = w4 at *
        have HF4 := hide hf4
        have HC4 := hide hc4
        have hsz : w.heap.size ≤ w2.heap.size := Nat.le_trans HChg.out.size HC2.out.size
        clear hf4 hc4 cF zF c0 c1 c2 cg z1 b0 b1 b2 r0 r1 r2
        go_wp2_with fail
        refine ⟨⟨k + 1, .slice x3 (laid r (laidAll T (R.take k))).length cap3, by omega, by go_num, ?_, ?_⟩, ?_⟩
        · rw [HLT.out]
          exact HF4.out.mono (fun q _ h => h.elim id (fun h => Or.inr (by omega)))
        · refine (HChg.out.trans (HC2.out.mono (fun _ _ h => h.elim))).andThen HC4.out (fun i hi h => ?_)
          rcases h with h | h
          · subst h
            rcases HF2.out.xF with h | h
            · exact h
            · omega
          · rcases (HF2.out.xt i h.symm).1 with h | h
            · exact h
            · omega
        · simp [intOf]; omega
    · obtain rfl : k = R.length := by omega
      have d2 := hfil.at_.cell.2.2.1
      have y2 := hfil.at_.frozen 2
      dsimp only at d2
      clear hfil
      go_wp2_with fail
      obtain ⟨hf5, hc5⟩ := HFil.out.clear_row
      go_ret
      rw [List.take_length, HFE.out] at hf5
      exact ⟨rfl, vt, hf5, HChg.out.andThen hc5 (fun i hi h => by
        subst h
        rcases HFil.out.xF with h | h
        · exact h
        · omega)⟩

end Go.Proofs.Ytkhknfohcebicaa.Oct
