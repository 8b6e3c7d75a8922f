/- A file as lists: it is read. -/
import Derived.Test.YtkhknfohcebicaaJfm
namespace Go.Proofs.Ytkhknfohcebicaa.Oct
open Go.RowKit Go.Deep

set_option maxHeartbeats 2000000 in
set_option maxRecDepth 100000 in
theorem read_fl (w : World) (X : Nat → Prop) (F : Nat) (f : Fs) (A : A3) (k n : Nat) (h : Fl w X F f A k n) (hn : n ≤ 900000) (t m : Nat) (ht : t < A.S.length) (htm : t + m ≤ A.S.length) :
    Calls Try.prog 45 #[.pointer (some ⟨F, 0, none⟩), .int .i64 t, .int .i64 m] w fun e w' => (∃ f', Fl w' X F f' A (k - 1) (n + 1) ∧ Chg X w w') ∧
      ((1 ≤ k ∧ ∃ v, e = .returned (.tuple #[v, .int .i64 0]) ∧ Own w' w.heap.size v ((A.S.drop t).take m)) ∨ (k = 0 ∧ e = .returned (.tuple #[.slice none 0 0, .int .i64 5]))) := by
  obtain ⟨R, hf, hD⟩ := h.has
  have hops := h.ops
  have hwr := h.wrote
  have hd := h.d
  have hs := h.s
  have HSd := hide (h.bud.said hops.1 (by omega))
  have HF := hide hf
  have HRn : Hid (∀ w1, Fil w1 X F f.asked A.S A.T R → Chg (fun k => k = F) w w1 → ∃ f', Fl w1 X F f' A (k - 1) (n + 1) ∧ Chg X w w1) := hide (fun w1 hf1 hc1 =>
    ⟨f.asked, ⟨⟨R, hf1, hD⟩, fun q hq => Nat.lt_of_lt_of_le (h.x q hq) hc1.size, ⟨by show 0 ≤ f.ops + 1; omega, by show f.ops + 1 ≤ _; omega⟩, ⟨hwr.1, by show f.wrote ≤ _; omega⟩, h.s, h.t, by omega, h.small, h.bud.next hops.1 (by omega) rfl rfl rfl⟩, hc1.mono (fun i _ e => by subst e; exact hf.xF)⟩)
  have HA := hide (ask_file w F f hf.at_ (by omega))
  clear h hf hD hwr hd
  generalize A.S = S at *
  go_enter Try.func45, Try.ntmps45
  go_wp2_with fail
  refine HA.out.mono ?_
  rintro e w1 ⟨rfl, ha1, hc1⟩
  have hf1 := HF.out.fields hc1 ha1 rfl rfl rfl
  have HF1 := hide hf1
  have HC1 := hide hc1
  rw [HSd.out]
  by_cases hk : 1 ≤ k
  · rw [if_pos hk]
    have h0 := hf1.at_.cell.1
    obtain ⟨a1, c1, e1, hs1, _⟩ := hf1.seen.sl
    rw [e1] at h0
    have hcl := hs1.le
    have hcm := hs1.max
    unfold maxLen at hcm
    have g4 : wrap64 ((S.length : Int) - (t : Int)) = (S.length : Int) - (t : Int) := by unfold wrap64; omega
    have g5 : wrap64 ((t : Int) + (m : Int)) = ((t + m : Nat) : Int) := by unfold wrap64; omega
    obtain ⟨b, off, rfl, hbl, hcc⟩ : ∃ b off, a1 = some ⟨b, off, none⟩ ∧ b < w1.heap.size ∧ ∀ k, k < S.length → w1.cell? ⟨b, off + k, none⟩ = some (.int .u8 (S.getD k 0)) := by
      rcases hs1.lies with h | h
      · rw [h] at ht; simp at ht
      · exact h
    have hl9 : Lies w1 (some ⟨b, off + t, none⟩) ((S.drop t).take m) := Lies.of_part (Lies.mk hcc) t m
    have hlen : ((S.drop t).take m).length = m := by simp; omega
    have hcl9 := fun c => clone_any w1 (some ⟨b, off + t, none⟩) c ((S.drop t).take m) hl9 (by omega)
    rw [hlen] at hcl9
    have HCl := hide hcl9
    have hct : ¬ c1 = t := by omega
    clear hf1 hc1 ha1 hs1 e1 hcl9 hl9 hcc hlen
    go_wp2_with fail
    refine (HCl.out _).mono ?_
    rintro e w2 ⟨v2, rfl, ho2, hb2⟩
    have HO2 := hide (ho2.mono HC1.out.size)
    have HR2 := hide (HRn.out w2 (HF1.out.chg (Chg.of_below (X := fun _ => False) hb2) (fun _ _ _ h => h)) (HC1.out.trans (Chg.of_below hb2)))
    clear ho2 hb2
    go_wp2_with fail
    go_ret2
    exact ⟨HR2.out, Or.inl ⟨hk, v2, rfl, HO2.out⟩⟩
  · rw [if_neg hk]
    have HR2 := hide (HRn.out w1 HF1.out HC1.out)
    clear hf1 hc1 ha1
    go_wp2_with fail
    go_ret2
    exact ⟨HR2.out, Or.inr ⟨by omega, rfl⟩⟩

end Go.Proofs.Ytkhknfohcebicaa.Oct
