/- The journal is replayed. -/
import Derived.Test.YtgmifbknmjdemaaGreatPJrm
namespace Go.Proofs.YtgmifbknmjdemaaGreat.Oct
open Go.RowKit Go.Deep

theorem decO_at {l : List Int} {p : Nat} {r : RD} (h : decO l p = some r) : p + 12 ≤ l.length ∧ r = (num l p 8, (l.drop (p + 12)).take (num l (p + 8) 4).toNat) := by
  unfold decO at h
  split at h
  · rename_i hc
    simp at h
    exact ⟨hc.1, h.symm⟩
  · cases h

theorem decM_len {l : List Int} : ∀ {k : Nat} {D : List RD} {p : Nat}, decM l k = some (D, p) → lenD D = p
  | 0, D, p, h => by
    simp [decM] at h
    obtain ⟨rfl, rfl⟩ := h
    rfl
  | k + 1, D, p, h => by
    rw [decM] at h
    split at h
    · cases h
    · rename_i D' p' hm
      split at h
      · cases h
      · rename_i r hr
        simp at h
        obtain ⟨rfl, rfl⟩ := h
        rw [lenD_append, decM_len hm]
        simp [lenD]

theorem decD_len {l : List Int} {c : Int} {D : List RD} (h : decD l c = some D) : lenD D = l.length := by
  unfold decD at h
  split at h
  · cases h
  · split at h
    · cases h
    · rename_i D' p' hm
      split at h
      · rename_i hp
        simp at h
        subst h
        rw [decM_len hm, hp]
      · cases h

theorem cntD_some {p q : Nat} {c s : Int} {l : List Int} {D : List RD} (h : cntD p q c s l = some D) : decD l c = some D ∧ okD p q D = true ∧ (moreC 0 l : Int) = s := by
  unfold cntD at h
  split at h
  · rename_i hs
    split at h
    · rename_i D' hd
      split at h
      · rename_i hok
        simp at h
        subst h
        exact ⟨hd, hok, hs⟩
      · cases h
    · cases h
  · cases h

/-- Records that may be written. -/
def MayD (p q : Nat) (D : List RD) : Prop := ∀ r ∈ D, 0 ≤ r.1 ∧ r.1 + r.2.length ≤ 4194304 ∧ (r.2.length = 0 ∨ (q : Int) ≤ r.1 ∨ r.1 + r.2.length ≤ p)

theorem okD_may {p q : Nat} {D : List RD} (h : okD p q D = true) : D ≠ [] ∧ MayD p q D := by
  unfold okD at h
  simp only [Bool.and_eq_true, Bool.not_eq_true', List.isEmpty_eq_false_iff, List.any_eq_false] at h
  refine ⟨h.1, fun r hr => ?_⟩
  have := h.2 r hr
  unfold barB at this
  simp at this
  omega

theorem may_okD {p q : Nat} {D : List RD} (h0 : D ≠ []) (h : MayD p q D) : okD p q D = true := by
  unfold okD
  simp only [Bool.and_eq_true, Bool.not_eq_true', List.isEmpty_eq_false_iff, List.any_eq_false]
  refine ⟨h0, fun r hr => ?_⟩
  have := h r hr
  unfold barB
  simp
  omega

theorem pnd_some {S : List Int} {p q : Nat} {D : List RD} (h : pnd S p q = some D) : isSgn (jFst S p) ∧ D ≠ [] ∧ MayD p q D ∧ lenD D = (jBod S p).length ∧ D.length ≤ (jBod S p).length := by
  unfold pnd at h
  split at h
  · rename_i hs
    obtain ⟨h1, h2, h3⟩ := cntD_some h
    have := okD_may h2
    refine ⟨hs, this.1, this.2, decD_len h1, ?_⟩
    rw [← decD_len h1]
    clear h h1 h2 h3 hs this
    induction D with
    | nil => simp
    | cons r D ih =>
      have e : lenD (r :: D) = (12 + r.2.length) + lenD D := by simp [lenD]
      rw [e]
      simp
      omega
  · cases h

set_option maxHeartbeats 8000000 in
set_option maxRecDepth 100000 in
theorem replay_j (w : World) (J F p q : Nat) (nu : Int) (hJ : Jrn w J F p q nu) (hp : p + 1024 ≤ q) (X : Nat → Prop) (f : Fs) (A : A3) (k n : Nat) (h : Fl w X F f A k n) (hq : q ≤ A.S.length) (hXJ : ¬ X J) (hby : Byts A.S) (hnn : n ≤ 300000) (hq2 : q - p ≤ 90000)
    (hsg : isSgn (jFst A.S p) → num (jFst A.S p) 16 4 ≤ (q : Int) - ((p : Int) + 512) ∧ num (jFst A.S p) 12 4 ≤ ((q : Int) - ((p : Int) + 512)) / 12) (hD0 : A.D = []) :
    Calls Tryz.prog 15 #[.pointer (some ⟨J, 0, none⟩)] w fun e w' =>
      (¬ rdsN A.S p ≤ k ∧ e = .returned (.tuple #[.int .i64 0, .int .i64 5]) ∧ ∃ nu' f', Fl w' X F f' A (k - rdsN A.S p) (n + 2) ∧ Chg (fun i => X i ∨ i = J) w w' ∧ Jrn w' J F p q nu') ∨
      (rdsN A.S p ≤ k ∧ pnd A.S p q = none ∧ e = .returned (.tuple #[.int .i64 0, .int .i64 0]) ∧ ∃ nu' f', Fl w' X F f' A (k - rdsN A.S p) (n + 2) ∧ Chg (fun i => X i ∨ i = J) w w' ∧ Jrn w' J F p q nu') ∨
      (rdsN A.S p ≤ k ∧ ∃ D, pnd A.S p q = some D ∧ ((D.length + 3 ≤ k - rdsN A.S p ∧ e = .returned (.tuple #[.int .i64 D.length, .int .i64 0])) ∨ (¬ D.length + 3 ≤ k - rdsN A.S p ∧ e = .returned (.tuple #[.int .i64 0, .int .i64 5]))) ∧ ∃ nu', RanJ w w' J p q nu' X F A (k - rdsN A.S p) (n + 2) (appO p D)) := by
  have hqs := h.s
  have HPe := hide (pending_j w J F p q nu hJ hp X f A k n h hq hXJ hby (by omega) (by omega) hsg)
  have HBl : Hid ((jBod A.S p).length ≤ q - p ∨ ¬ isSgn (jFst A.S p)) := hide (by
    by_cases hs : isSgn (jFst A.S p)
    · left
      have := (hsg hs).1
      unfold jBod
      simp
      omega
    · exact Or.inr hs)
  have hJw := hJ.isLt
  have HXw := hide h.x
  have HXJ := hide hXJ
  clear hJ h hby hsg hXJ
  go_enter Tryz.func15, Tryz.ntmps15
  go_wp2_with fail
  refine HPe.out.mono ?_
  rintro e9 w1 ⟨hst, ⟨hno, rfl⟩ | ⟨hyk, hno, rfl⟩ | ⟨hyk, R, v, hyes, rfl, hown⟩⟩
  · have HS := hide hst
    have HN := hide hno
    clear hst hno
    go_wp2_with fail
    go_ret2
    exact Or.inl ⟨HN.out, rfl, HS.out⟩
  · have HS := hide hst
    have HN := hide (And.intro hyk hno)
    clear hst hno hyk
    go_wp2_with fail
    go_ret2
    exact Or.inr (Or.inl ⟨HN.out.1, HN.out.2, rfl, HS.out⟩)
  · obtain ⟨nu', f1, hf1, hc1, hj1⟩ := hst
    obtain ⟨hsg, hne, hmay, hlen, hlen2⟩ := pnd_some hyes
    obtain ⟨av, cv, rfl, hlv, _, _, hav⟩ := hown.form
    have hbl : (jBod A.S p).length ≤ q - p := by
      rcases HBl.out with h | h
      · exact h
      · exact absurd hsg h
    have hXJ1 := HXJ.out
    have hap : ApJ (fun i => X i ∨ i = J) av R := by
      refine ⟨fun _ x hx e => ?_, fun r hr hne x hx e => ?_⟩
      · have h1 := (hav x hx).1
        rcases e with e | e
        · have := HXw.out _ e; omega
        · omega
      · obtain ⟨g, h1, h2, h3, _⟩ := (hown.far r hr).2 hne
        rw [h1] at hx
        cases hx
        rcases e with e | e
        · have : g < w.heap.size := HXw.out _ e
          omega
        · have : g = J := e
          omega
    have HAp := hide (apply_j w1 J F p q nu' hj1 hp (by omega) X f1 A _ _ hf1 hXJ1 av cv R hlv hap (fun r hr => by
      have := hmay r.dat (List.mem_map_of_mem hr)
      exact ⟨this.1, this.2.1⟩) (by have := hlen2; simp at this; omega) (by omega) (by omega))
    have hRl : (R.map JR.dat).length = R.length := by simp
    have HFi : Hid (∀ w', RanJ w1 w' J p q nu' X F A (k - rdsN A.S p) (n + 2) (appO p (R.map JR.dat)) → RanJ w w' J p q nu' X F A (k - rdsN A.S p) (n + 2) (appO p (R.map JR.dat))) := hide (fun w' hr => by
      obtain ⟨X2, f2, h2, hx2, hc2, hj2, hn2⟩ := hr
      exact ⟨X2, f2, h2, fun q hq => (hx2 q hq).imp id (fun h => Nat.le_trans hc1.size h), hc1.trans hc2, hj2, hn2⟩)
    have HY := hide hyes
    have HK := hide hyk
    have HWt : Hid (Calls Tryz.prog 33 #[.pointer (some ⟨F, 0, none⟩)] w1 fun e w' => e = .returned (.int .i64 0) ∧ w' = w1) := hide (by
      obtain ⟨R9, hf9, hm9⟩ := hf1.has
      have h9 := waiting_file w1 X F f1 A.S A.T R9 hf9
      have hl9 : R9.length = 0 := by
        have := congrArg List.length hm9
        rw [hD0] at this
        simpa using this
      rw [hl9] at h9
      exact h9)
    have cj0 : w1.cell? ⟨J, 0, none⟩ = some (.pointer (some ⟨F, 0, none⟩)) := by
      have hj9 := hj1
      unfold Jrn at hj9
      simp [World.cell?, hj9]
    clear hf1 hc1 hj1 hsg hne hmay hlen hlen2 hlv hav hap hown hyes hyk
    go_wp2_with fail
    refine HWt.out.mono ?_
    rintro e9 w2 ⟨rfl, h2⟩
    rw [h2]
    clear h2 cj0
    go_wp2_with fail
    refine HAp.out.mono ?_
    rintro e9 w2 ⟨rfl, hr2⟩
    have HR2 := hide (HFi.out w2 hr2)
    clear hr2
    by_cases hk : R.length + 3 ≤ k - rdsN A.S p
    · rw [cod_ok hk]
      have HKk := hide hk
      clear hk
      go_wp2_with fail
      go_ret2
      refine Or.inr (Or.inr ⟨HK.out, R.map JR.dat, HY.out, Or.inl ⟨by rw [hRl]; exact HKk.out, ?_⟩, nu', HR2.out⟩)
      rw [hRl]
      rfl
    · rw [cod_no hk]
      have HKk := hide hk
      clear hk
      go_wp2_with fail
      go_ret2
      exact Or.inr (Or.inr ⟨HK.out, R.map JR.dat, HY.out, Or.inr ⟨by rw [hRl]; exact HKk.out, rfl⟩, nu', HR2.out⟩)
end Go.Proofs.YtgmifbknmjdemaaGreat.Oct
