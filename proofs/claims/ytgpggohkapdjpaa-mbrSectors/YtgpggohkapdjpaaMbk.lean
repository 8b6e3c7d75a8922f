/- The first sector's entries. -/
import Derived.Test.YtgpggohkapdjpaaMbj
namespace Go.Proofs.Ytgpggohkapdjpaa.Oct
open Go.RowKit

theorem takeM_len {n : Nat} {st st' : MS} {slot : Int} {x : M3} (h : takeM n st slot x = .ok st') : st'.P.length ≤ st.P.length + 1 ∧ st'.H = st.H := by
  unfold takeM leadM addM at h
  repeat' split at h
  all_goals first
    | (cases h; exact ⟨by simp, rfl⟩)
    | (cases h)

theorem LiesM.at_ {w : World} {g : Nat} {L : List M3} (h : LiesM w (some ⟨g, 0, none⟩) L) (k : Nat) (hk : k < L.length) :
    w.cell? ⟨g, k * 3, none⟩ = some (.int .i64 (L.getD k zm3).1) ∧ w.cell? ⟨g, k * 3 + 1, none⟩ = some (.int .i64 (L.getD k zm3).2.1) ∧ w.cell? ⟨g, k * 3 + 2, none⟩ = some (.int .i64 (L.getD k zm3).2.2) := by
  rcases h with h | ⟨b, off, e, _, hc⟩
  · rw [h] at hk; simp at hk
  · cases e
    have := hc k hk
    rw [Nat.zero_add] at this
    exact this

theorem drop_get (L : List M3) (k : Nat) (hk : k < L.length) : L.drop k = L.getD k zm3 :: L.drop (k + 1) := by
  rw [List.drop_eq_getElem_cons hk]
  simp [hk]

set_option maxHeartbeats 8000000 in
set_option maxRecDepth 100000 in
theorem first_any (w : World) (K : Nat → Prop) (R : Nat) (a : Option Addr) (cap : Nat) (d : List Int) (vP vH : Value) (h : Rdg w K R (.iface 54 (.slice a d.length cap)) vP vH MS.z) (hl : LiesK K w a d) (hby : Byts d) (hd : d.length ≤ 1000000000) (hcap : d.length ≤ cap) :
    Calls Try.prog 25 #[.pointer (some ⟨R, 0, none⟩)] w fun e w' => Ends K R (.iface 54 (.slice a d.length cap)) (firstM d) e w' ∧ Kept K w w' := by
  have HE := hide (rentries_any w K R a cap d vP vH MS.z h hl hby hd hcap (by simp [MS.z]) 0 (by omega))
  have HBy : Hid (Byts (secD d 0)) := hide ((hby.drop _).take _)
  clear h hl hby
  go_enter Try.func25, Try.ntmps25
  go_wp2_with fail
  refine HE.out.mono ?_
  rintro e9 w1 ⟨h1 | h1, hk1⟩
  · obtain ⟨hz, g, c, vH1, rfl, hc4, hl1, hr1⟩ := h1
    have e0 : firstM d = takesM d.length { MS.z with H := MS.z.H ++ [((0 : Int) * 512, ((0 : Int) + 1) * 512)] } 0 (entsM (secD d 0)) := by
      unfold firstM rdM
      rw [if_pos hz]
    have hl1' : LiesM w1 (some ⟨g, 0, none⟩) (entsM (secD d 0)) := hl1
    obtain ⟨st1, hst1⟩ : ∃ st1 : MS, st1 = { MS.z with H := MS.z.H ++ [((0 : Int) * 512, ((0 : Int) + 1) * 512)] } := ⟨_, rfl⟩
    rw [← hst1] at e0 hr1
    have hp1 : st1.P.length = 0 := by rw [hst1]; rfl
    obtain ⟨L, hL⟩ : ∃ L, L = entsM (secD d 0) := ⟨_, rfl⟩
    rw [← hL] at e0 hl1'
    have hLn : L.length = 4 := by rw [hL]; rfl
    have HFt : Hid (∀ k, k < 4 → Fit3 (L.getD k zm3)) := hide (fun k hk => by rw [hL, ents_get _ k hk]; exact entM_fit _ HBy.out _)
    have HE0 := hide e0
    have HL1 := hide hl1'
    have HR1 := hide hr1
    have HK1 := hide hk1
    have HLn := hide hLn
    have HP1 := hide hp1
    clear hz hl1 hr1 e0 hst1 hl1' hk1 hL hLn hp1 HE
    go_wp2_with fail
    go_loopw [18] (fun i wr => ∃ (k : Nat) (st : MS) (vP vH : Value), k ≤ 4 ∧ i = .int .i64 k ∧ Rdg wr (fun k => K k ∨ k = g) R (.iface 54 (.slice a d.length cap)) vP vH st ∧ LiesM wr (some ⟨g, 0, none⟩) L ∧ st.P.length ≤ k ∧ firstM d = takesM d.length st (k : Int) (L.drop k) ∧ Kept K w wr) (fun i _ => 4 - (intOf i).toNat)
    case atStart => exact ⟨0, st1, _, _, by omega, rfl, HR1.out, HL1.out, by rw [HP1.out]; omega, HE0.out, HK1.out⟩
    case round =>
      obtain ⟨k, st, vP2, vH2, hk, rfl, hr2, hl2, hpl, hto, hkw⟩ := hrel
      have HL2 := hide hl2
      have HK2 := hide hkw
      have HT := hide hto
      have HR2 := hide hr2
      clear hl2 hkw hto hr2
      by_cases hlt : k < 4
      · obtain ⟨c0, c1, c2⟩ := HL2.out.at_ k (by rw [HLn.out]; exact hlt)
        have hfk := HFt.out k hlt
        have HDr := hide (drop_get L k (by rw [HLn.out]; exact hlt))
        obtain ⟨x, hx⟩ : ∃ x, x = L.getD k zm3 := ⟨_, rfl⟩
        rw [← hx] at c0 c1 c2 hfk HDr
        obtain ⟨x1, x2, x3⟩ := x
        dsimp only at c0 c1 c2
        have HTk := fun u (hu : Rdg u (fun k => K k ∨ k = g) R (.iface 54 (.slice a d.length cap)) vP2 vH2 st) => hide (take_any u (fun k => K k ∨ k = g) R a d.length cap vP2 vH2 st hu (by omega) (k : Int) x1 x2 x3 hfk)
        have HB := hide ((Below.refl wr.heap.size wr).alloc (Nat.le_refl _) (.cells #[.int .i64 x1, .int .i64 x2, .int .i64 x3] 32))
        clear hx hfk
        go_wp2_with fail
        refine ((HTk _ (HR2.out.below HB.out)).out).mono ?_
        rintro e9 w3 ⟨he3, hk3⟩
        obtain ⟨c3, rfl, hc3⟩ := he3.form
        have HKw := hide (HK2.out.trans ((Kept.of_below HB.out).trans (hk3.mono (fun k e => Or.inl e))))
        have HL3 := hide ((HL2.out.below HB.out).chg hk3 (fun x hx => fun h => by cases hx; exact h (Or.inr rfl)))
        clear he3 hk3
        rcases hc3 with ⟨st', vP', vH', h5, rfl, h6⟩ | ⟨h5, h6⟩
        · have h7 := (takeM_len h5).1
          have HT2 : Hid (firstM d = takesM d.length st' ((k + 1 : Nat) : Int) (L.drop (k + 1))) := hide (by
            rw [HT.out, HDr.out, takesM, h5]
            rfl)
          have HR3 := hide h6
          clear h5 h6
          go_wp2_with fail
          exact ⟨⟨k + 1, st', vP', vH', by omega, by go_num, HR3.out, HL3.out, by omega, HT2.out, HKw.out⟩, by simp [intOf]; omega⟩
        · have HT2 : Hid (firstM d = .error c3) := hide (by
            rw [HT.out, HDr.out, takesM, h5])
          have h6' : (c3 != 0) = true := by simpa using h6
          have H6 := hide h6
          clear h5 h6
          go_wp2_with fail
          go_ret
          exact ⟨Or.inr ⟨c3, HT2.out, H6.out, rfl⟩, HKw.out⟩
      · obtain rfl : k = 4 := by omega
        have HT2 : Hid (firstM d = .ok st) := hide (by
          rw [HT.out, List.drop_eq_nil_of_le (by rw [HLn.out]; omega)]
          rfl)
        go_wp2_with fail
        go_ret
        exact ⟨Or.inl ⟨st, _, _, HT2.out, rfl, HR2.out.mono (fun k e => Or.inl e)⟩, HK2.out⟩
  · obtain ⟨hz, rfl⟩ := h1
    have HO : Hid (firstM d = .error (secC d 0)) := hide (by
      unfold firstM rdM
      rw [if_neg hz])
    generalize secC d 0 = c at *
    have hc' : (c != 0) = true := by simpa using hz
    have HZ := hide hz
    have HK1 := hide hk1
    clear hz hk1
    go_wp2_with fail
    go_ret
    exact ⟨Or.inr ⟨c, HO.out, HZ.out, rfl⟩, HK1.out⟩
end Go.Proofs.Ytgpggohkapdjpaa.Oct
