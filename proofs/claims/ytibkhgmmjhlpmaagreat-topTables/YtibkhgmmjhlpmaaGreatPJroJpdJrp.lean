/- What has a sign is done: the statements' small example. -/
import Derived.Test.YtibkhgmmjhlpmaaGreatPJrm
import Derived.Lib.SlBytesConst
namespace Go.Proofs.YtibkhgmmjhlpmaaGreat.Oct
open Go.RowKit Go.Deep

theorem decO_at {l : List Int} {p : Nat} {r : RD} (h : decO l p = some r) : p + 12 ≤ l.length ∧ r = (num l p 8, (l.drop (p + 12)).take (num l (p + 8) 4).toNat) := by
  unfold decO at h
  split at h
  · rename_i hc
    simp at h
    exact ⟨hc.1, h.symm⟩
  · cases h

theorem decM_len {l : List Int} : ∀ {k : Nat} {D : List RD} {p : Nat}, decM l k = some (D, p) → lenD D = p
  | 0, D, p, h => by
    simp [decM] at h
    obtain ⟨rfl, rfl⟩ := h
    rfl
  | k + 1, D, p, h => by
    rw [decM] at h
    split at h
    · cases h
    · rename_i D' p' hm
      split at h
      · cases h
      · rename_i r hr
        simp at h
        obtain ⟨rfl, rfl⟩ := h
        rw [lenD_append, decM_len hm]
        simp [lenD]

theorem decD_len {l : List Int} {c : Int} {D : List RD} (h : decD l c = some D) : lenD D = l.length := by
  unfold decD at h
  split at h
  · cases h
  · split at h
    · cases h
    · rename_i D' p' hm
      split at h
      · rename_i hp
        simp at h
        subst h
        rw [decM_len hm, hp]
      · cases h

theorem cntD_some {p q : Nat} {c s : Int} {l : List Int} {D : List RD} (h : cntD p q c s l = some D) : decD l c = some D ∧ okD p q D = true ∧ (moreC 0 l : Int) = s := by
  unfold cntD at h
  split at h
  · rename_i hs
    split at h
    · rename_i D' hd
      split at h
      · rename_i hok
        simp at h
        subst h
        exact ⟨hd, hok, hs⟩
      · cases h
    · cases h
  · cases h

/-- Records that may be written. -/
def MayD (p q : Nat) (D : List RD) : Prop := ∀ r ∈ D, 0 ≤ r.1 ∧ r.1 + r.2.length ≤ 4194304 ∧ (r.2.length = 0 ∨ (q : Int) ≤ r.1 ∨ r.1 + r.2.length ≤ p)

theorem okD_may {p q : Nat} {D : List RD} (h : okD p q D = true) : D ≠ [] ∧ MayD p q D := by
  unfold okD at h
  simp only [Bool.and_eq_true, Bool.not_eq_true', List.isEmpty_eq_false_iff, List.any_eq_false] at h
  refine ⟨h.1, fun r hr => ?_⟩
  have := h.2 r hr
  unfold barB at this
  simp at this
  omega

theorem may_okD {p q : Nat} {D : List RD} (h0 : D ≠ []) (h : MayD p q D) : okD p q D = true := by
  unfold okD
  simp only [Bool.and_eq_true, Bool.not_eq_true', List.isEmpty_eq_false_iff, List.any_eq_false]
  refine ⟨h0, fun r hr => ?_⟩
  have := h r hr
  unfold barB
  simp
  omega

theorem pnd_some {S : List Int} {p q : Nat} {D : List RD} (h : pnd S p q = some D) : isSgn (jFst S p) ∧ D ≠ [] ∧ MayD p q D ∧ lenD D = (jBod S p).length ∧ D.length ≤ (jBod S p).length := by
  unfold pnd at h
  split at h
  · rename_i hs
    obtain ⟨h1, h2, h3⟩ := cntD_some h
    have := okD_may h2
    refine ⟨hs, this.1, this.2, decD_len h1, ?_⟩
    rw [← decD_len h1]
    clear h h1 h2 h3 hs this
    induction D with
    | nil => simp
    | cons r D ih =>
      have e : lenD (r :: D) = (12 + r.2.length) + lenD D := by simp [lenD]
      rw [e]
      simp
      omega
  · cases h

set_option maxHeartbeats 8000000 in
set_option maxRecDepth 100000 in
theorem replay_j (w : World) (J F p q : Nat) (nu : Int) (hJ : Jrn w J F p q nu) (hp : p + 1024 ≤ q) (X : Nat → Prop) (f : Fs) (A : A3) (k n : Nat) (h : Fl w X F f A k n) (hq : q ≤ A.S.length) (hXJ : ¬ X J) (hby : Byts A.S) (hnn : n ≤ 300000) (hq2 : q - p ≤ 90000)
    (hsg : isSgn (jFst A.S p) → num (jFst A.S p) 16 4 ≤ (q : Int) - ((p : Int) + 512) ∧ num (jFst A.S p) 12 4 ≤ ((q : Int) - ((p : Int) + 512)) / 12) (hD0 : A.D = []) :
    Calls Tryz.prog 27 #[.pointer (some ⟨J, 0, none⟩)] w fun e w' =>
      (¬ rdsN A.S p ≤ k ∧ e = .returned (.tuple #[.int .i64 0, .int .i64 5]) ∧ ∃ nu' f', Fl w' X F f' A (k - rdsN A.S p) (n + 2) ∧ Chg (fun i => X i ∨ i = J) w w' ∧ Jrn w' J F p q nu') ∨
      (rdsN A.S p ≤ k ∧ pnd A.S p q = none ∧ e = .returned (.tuple #[.int .i64 0, .int .i64 0]) ∧ ∃ nu' f', Fl w' X F f' A (k - rdsN A.S p) (n + 2) ∧ Chg (fun i => X i ∨ i = J) w w' ∧ Jrn w' J F p q nu') ∨
      (rdsN A.S p ≤ k ∧ ∃ D, pnd A.S p q = some D ∧ ((D.length + 3 ≤ k - rdsN A.S p ∧ e = .returned (.tuple #[.int .i64 D.length, .int .i64 0])) ∨ (¬ D.length + 3 ≤ k - rdsN A.S p ∧ e = .returned (.tuple #[.int .i64 0, .int .i64 5]))) ∧ ∃ nu', RanJ w w' J p q nu' X F A (k - rdsN A.S p) (n + 2) (appO p D)) := by
  have hqs := h.s
  have HPe := hide (pending_j w J F p q nu hJ hp X f A k n h hq hXJ hby (by omega) (by omega) hsg)
  have HBl : Hid ((jBod A.S p).length ≤ q - p ∨ ¬ isSgn (jFst A.S p)) := hide (by
    by_cases hs : isSgn (jFst A.S p)
    · left
      have := (hsg hs).1
      unfold jBod
      simp
      omega
    · exact Or.inr hs)
  have hJw := hJ.isLt
  have HXw := hide h.x
  have HXJ := hide hXJ
  clear hJ h hby hsg hXJ
  go_enter Tryz.func27, Tryz.ntmps27
  go_wp2_with fail
  refine HPe.out.mono ?_
  rintro e9 w1 ⟨hst, ⟨hno, rfl⟩ | ⟨hyk, hno, rfl⟩ | ⟨hyk, R, v, hyes, rfl, hown⟩⟩
  · have HS := hide hst
    have HN := hide hno
    clear hst hno
    go_wp2_with fail
    go_ret2
    exact Or.inl ⟨HN.out, rfl, HS.out⟩
  · have HS := hide hst
    have HN := hide (And.intro hyk hno)
    clear hst hno hyk
    go_wp2_with fail
    go_ret2
    exact Or.inr (Or.inl ⟨HN.out.1, HN.out.2, rfl, HS.out⟩)
  · obtain ⟨nu', f1, hf1, hc1, hj1⟩ := hst
    obtain ⟨hsg, hne, hmay, hlen, hlen2⟩ := pnd_some hyes
    obtain ⟨av, cv, rfl, hlv, _, _, hav⟩ := hown.form
    have hbl : (jBod A.S p).length ≤ q - p := by
      rcases HBl.out with h | h
      · exact h
      · exact absurd hsg h
    have hXJ1 := HXJ.out
    have hap : ApJ (fun i => X i ∨ i = J) av R := by
      refine ⟨fun _ x hx e => ?_, fun r hr hne x hx e => ?_⟩
      · have h1 := (hav x hx).1
        rcases e with e | e
        · have := HXw.out _ e; omega
        · omega
      · obtain ⟨g, h1, h2, h3, _⟩ := (hown.far r hr).2 hne
        rw [h1] at hx
        cases hx
        rcases e with e | e
        · have : g < w.heap.size := HXw.out _ e
          omega
        · have : g = J := e
          omega
    have HAp := hide (apply_j w1 J F p q nu' hj1 hp (by omega) X f1 A _ _ hf1 hXJ1 av cv R hlv hap (fun r hr => by
      have := hmay r.dat (List.mem_map_of_mem hr)
      exact ⟨this.1, this.2.1⟩) (by have := hlen2; simp at this; omega) (by omega) (by omega))
    have hRl : (R.map JR.dat).length = R.length := by simp
    have HFi : Hid (∀ w', RanJ w1 w' J p q nu' X F A (k - rdsN A.S p) (n + 2) (appO p (R.map JR.dat)) → RanJ w w' J p q nu' X F A (k - rdsN A.S p) (n + 2) (appO p (R.map JR.dat))) := hide (fun w' hr => by
      obtain ⟨X2, f2, h2, hx2, hc2, hj2, hn2⟩ := hr
      exact ⟨X2, f2, h2, fun q hq => (hx2 q hq).imp id (fun h => Nat.le_trans hc1.size h), hc1.trans hc2, hj2, hn2⟩)
    have HY := hide hyes
    have HK := hide hyk
    have HWt : Hid (Calls Tryz.prog 56 #[.pointer (some ⟨F, 0, none⟩)] w1 fun e w' => e = .returned (.int .i64 0) ∧ w' = w1) := hide (by
      obtain ⟨R9, hf9, hm9⟩ := hf1.has
      have h9 := waiting_file w1 X F f1 A.S A.T R9 hf9
      have hl9 : R9.length = 0 := by
        have := congrArg List.length hm9
        rw [hD0] at this
        simpa using this
      rw [hl9] at h9
      exact h9)
    have cj0 : w1.cell? ⟨J, 0, none⟩ = some (.pointer (some ⟨F, 0, none⟩)) := by
      have hj9 := hj1
      unfold Jrn at hj9
      simp [World.cell?, hj9]
    clear hf1 hc1 hj1 hsg hne hmay hlen hlen2 hlv hav hap hown hyes hyk
    go_wp2_with fail
    refine HWt.out.mono ?_
    rintro e9 w2 ⟨rfl, h2⟩
    rw [h2]
    clear h2 cj0
    go_wp2_with fail
    refine HAp.out.mono ?_
    rintro e9 w2 ⟨rfl, hr2⟩
    have HR2 := hide (HFi.out w2 hr2)
    clear hr2
    by_cases hk : R.length + 3 ≤ k - rdsN A.S p
    · rw [cod_ok hk]
      have HKk := hide hk
      clear hk
      go_wp2_with fail
      go_ret2
      refine Or.inr (Or.inr ⟨HK.out, R.map JR.dat, HY.out, Or.inl ⟨by rw [hRl]; exact HKk.out, ?_⟩, nu', HR2.out⟩)
      rw [hRl]
      rfl
    · rw [cod_no hk]
      have HKk := hide hk
      clear hk
      go_wp2_with fail
      go_ret2
      exact Or.inr (Or.inr ⟨HK.out, R.map JR.dat, HY.out, Or.inr ⟨by rw [hRl]; exact HKk.out, rfl⟩, nu', HR2.out⟩)
end Go.Proofs.YtibkhgmmjhlpmaaGreat.Oct

namespace Go.Proofs.YtibkhgmmjhlpmaaGreat.Oct
open Go.RowKit Go.Deep

theorem getD_rep (k i : Nat) : (List.replicate k (0 : Int)).getD i 0 = 0 := by
  rw [List.getD_eq_getElem?_getD, List.getElem?_replicate]
  split <;> rfl

theorem getD_app (l m : List Int) (i : Nat) : (l ++ m).getD i 0 = if i < l.length then l.getD i 0 else m.getD (i - l.length) 0 := by
  by_cases h : i < l.length
  · rw [if_pos h]; simp [List.getElem?_append_left, h]
  · rw [if_neg h]; simp [List.getElem?_append_right, show l.length ≤ i by omega]

theorem getD_out (l : List Int) (i : Nat) (h : l.length ≤ i) : l.getD i 0 = 0 := by
  rw [List.getD_eq_getElem?_getD, List.getElem?_eq_none h]
  rfl

theorem overP_get (m : List Int) (o : Nat) (l : List Int) (h : o + l.length ≤ m.length) (i : Nat) : (over m o l).getD i 0 = if o ≤ i ∧ i < o + l.length then l.getD (i - o) 0 else m.getD i 0 := by
  unfold over
  rw [getD_app, List.length_take, Nat.min_eq_left (by omega)]
  by_cases h1 : i < o
  · rw [if_pos h1, if_neg (by omega)]
    simp [h1]
  · rw [if_neg h1, getD_app]
    by_cases h2 : i - o < l.length
    · rw [if_pos h2, if_pos (by omega)]
    · rw [if_neg h2, if_neg (by omega)]
      simp
      congr 2
      omega

theorem laidD_get (p : Nat) (b l : List Int) (i : Nat) : (laidD (p, b, false) l).getD i 0 = if p ≤ i ∧ i < p + b.length then b.getD (i - p) 0 else l.getD i 0 := by
  unfold laidD
  rw [if_neg (by simp)]
  simp only
  rw [overP_get _ _ _ (over_pad _ _ _), getD_app, getD_rep]
  by_cases h : p ≤ i ∧ i < p + b.length
  · rw [if_pos h, if_pos h]
  · rw [if_neg h, if_neg h]
    by_cases h2 : i < l.length
    · rw [if_pos h2]
    · rw [if_neg h2, getD_out l i (by omega)]

theorem laidD_length (p : Nat) (b l : List Int) : (laidD (p, b, false) l).length = max l.length (p + b.length) := by
  unfold laidD
  rw [if_neg (by simp)]
  simp only
  rw [over_length (over_pad _ _ _)]
  simp
  omega

theorem wr_both (n : Nat) : ∀ (p : Nat) (b l : List Int), b.length ≤ n → (laidsD l (cuts p b)).length = (if b = [] then l.length else max l.length (p + b.length)) ∧ ∀ i, (laidsD l (cuts p b)).getD i 0 = if p ≤ i ∧ i < p + b.length then b.getD (i - p) 0 else l.getD i 0 := by
  induction n with
  | zero =>
    intro p b l hn
    have hb : b = [] := List.length_eq_zero_iff.1 (by omega)
    subst hb
    rw [cuts_nil, if_pos rfl]
    refine ⟨rfl, fun i => ?_⟩
    rw [if_neg (by simp)]
    rfl
  | succ n ih =>
    intro p b l hn
    by_cases hb : b = []
    · subst hb
      rw [cuts_nil, if_pos rfl]
      refine ⟨rfl, fun i => ?_⟩
      rw [if_neg (by simp)]
      rfl
    · have hpos := List.length_pos_iff.2 hb
      have hm : p % 512 < 512 := Nat.mod_lt _ (by omega)
      rw [cuts_step p b _ hb rfl, if_neg hb]
      generalize hmn : min (512 - p % 512) b.length = m
      have hm1 : 0 < m := by omega
      have hm2 : m ≤ b.length := by omega
      obtain ⟨h1, h2⟩ := ih (p + m) (b.drop m) (laidD (p, b.take m, false) l) (by simp; omega)
      have e : laidsD l ((p, b.take m, false) :: cuts (p + m) (b.drop m)) = laidsD (laidD (p, b.take m, false) l) (cuts (p + m) (b.drop m)) := rfl
      rw [e]
      have hl := laidD_length p (b.take m) l
      have htl : (b.take m).length = m := by simp; omega
      have hdl : (b.drop m).length = b.length - m := by simp
      rw [htl] at hl
      refine ⟨?_, fun i => ?_⟩
      · rw [h1, hl]
        split
        · rename_i hd
          have : b.length = m := by rw [hd] at hdl; simp at hdl; omega
          omega
        · rw [hdl]; omega
      · rw [h2, laidD_get, htl, hdl]
        by_cases c1 : p + m ≤ i ∧ i < p + m + (b.length - m)
        · rw [if_pos c1, if_pos (by omega)]
          simp
          congr 2
          omega
        · rw [if_neg c1]
          by_cases c2 : p ≤ i ∧ i < p + m
          · rw [if_pos c2, if_pos (by omega)]
            simp [show i - p < m by omega]
          · rw [if_neg c2, if_neg (by omega)]

theorem wr_get (p : Nat) (b l : List Int) (i : Nat) : (laidsD l (cuts p b)).getD i 0 = if p ≤ i ∧ i < p + b.length then b.getD (i - p) 0 else l.getD i 0 := (wr_both _ p b l (Nat.le_refl _)).2 i
theorem wr_len (p : Nat) (b l : List Int) : (laidsD l (cuts p b)).length = if b = [] then l.length else max l.length (p + b.length) := (wr_both _ p b l (Nat.le_refl _)).1

theorem ext_getD {l m : List Int} (hl : l.length = m.length) (h : ∀ i, i < l.length → l.getD i 0 = m.getD i 0) : l = m := by
  refine List.ext_getElem hl (fun i h1 h2 => ?_)
  have := h i h1
  simpa [List.getD_eq_getElem?_getD, h1, h2] using this

theorem part_get (l : List Int) (t m i : Nat) : ((l.drop t).take m).getD i 0 = if i < m then l.getD (t + i) 0 else 0 := by
  by_cases h : i < m
  · rw [if_pos h]; simp [h]
  · rw [if_neg h]
    rw [List.getD_eq_getElem?_getD, List.getElem?_take, if_neg h]
    rfl

/-- A part that holds bytes. -/
theorem part_is {S b : List Int} {t : Nat} (hl : t + b.length ≤ S.length) (h : ∀ i, i < b.length → S.getD (t + i) 0 = b.getD i 0) : (S.drop t).take b.length = b := by
  refine ext_getD (by simp; omega) (fun i hi => ?_)
  have hi2 : i < b.length := by simp at hi; omega
  rw [part_get, if_pos hi2, h i hi2]

theorem num_congr (l m : List Int) (p q : Nat) : ∀ n, (∀ i, i < n → l.getD (p + i) 0 = m.getD (q + i) 0) → num l p n = num m q n
  | 0, _ => rfl
  | n + 1, h => by rw [num, num, num_congr l m p q n (fun i hi => h i (by omega)), h n (by omega)]

theorem num_at_part (X Z Y : List Int) (v : Int) (n p : Nat) (hp : p = X.length) (hZ : Z = leB v n) (h0 : 0 ≤ v) (h1 : v < 256 ^ n) : num (X ++ (Z ++ Y)) p n = v := by
  subst hp hZ
  rw [num_part X (leB v n) Y n (by rw [leB_length]; exact Nat.le_refl _), num_leB v n h0 h1]

theorem secL_nums (nu c m s : Int) (h1 : 0 ≤ nu ∧ nu < 18446744073709551616) (h2 : 0 ≤ c ∧ c < 4294967296) (h3 : 0 ≤ m ∧ m < 4294967296) (h4 : 0 ≤ s ∧ s < 4294967296) :
    num (secL nu c m s) 4 8 = nu ∧ num (secL nu c m s) 12 4 = c ∧ num (secL nu c m s) 16 4 = m ∧ num (secL nu c m s) 20 4 = s := by
  have e8 : (256 : Int) ^ 8 = 18446744073709551616 := by decide
  have e4 : (256 : Int) ^ 4 = 4294967296 := by decide
  have g : secL nu c m s = leB 826954822 4 ++ (leB nu 8 ++ (leB c 4 ++ (leB m 4 ++ (leB s 4 ++ (leB (moreC 0 (sgn5 nu c m s) : Int) 4 ++ List.replicate (512 - (sgn6 nu c m s).length) 0))))) := by
    unfold secL sgn6 sgn5
    simp only [List.append_assoc]
  rw [g]
  refine ⟨num_at_part _ _ _ nu 8 4 (by simp [leB_length]) rfl h1.1 (by rw [e8]; exact h1.2), ?_, ?_, ?_⟩
  · have := num_at_part (leB 826954822 4 ++ leB nu 8) (leB c 4) (leB m 4 ++ (leB s 4 ++ (leB (moreC 0 (sgn5 nu c m s) : Int) 4 ++ List.replicate (512 - (sgn6 nu c m s).length) 0))) c 4 12 (by simp [leB_length]) rfl h2.1 (by rw [e4]; exact h2.2)
    simpa only [List.append_assoc] using this
  · have := num_at_part (leB 826954822 4 ++ leB nu 8 ++ leB c 4) (leB m 4) (leB s 4 ++ (leB (moreC 0 (sgn5 nu c m s) : Int) 4 ++ List.replicate (512 - (sgn6 nu c m s).length) 0)) m 4 16 (by simp [leB_length]) rfl h3.1 (by rw [e4]; exact h3.2)
    simpa only [List.append_assoc] using this
  · have := num_at_part (leB 826954822 4 ++ leB nu 8 ++ leB c 4 ++ leB m 4) (leB s 4) (leB (moreC 0 (sgn5 nu c m s) : Int) 4 ++ List.replicate (512 - (sgn6 nu c m s).length) 0) s 4 20 (by simp [leB_length]) rfl h4.1 (by rw [e4]; exact h4.2)
    simpa only [List.append_assoc] using this

theorem isSgn_secL (nu c m s : Int) (h1 : 0 ≤ nu ∧ nu < 18446744073709551616) (h2 : 0 ≤ c ∧ c < 4294967296) (h3 : 0 ≤ m ∧ m < 4294967296) (h4 : 0 ≤ s ∧ s < 4294967296) : isSgn (secL nu c m s) := by
  unfold isSgn
  obtain ⟨a, b, c', d⟩ := secL_nums nu c m s h1 h2 h3 h4
  rw [a, b, c', d]

/-- Noughts are no sign. -/
theorem not_sgn {l : List Int} (h : l.getD 0 0 = 0) : ¬ isSgn l := by
  intro hs
  unfold isSgn at hs
  have e : (secL (num l 4 8) (num l 12 4) (num l 16 4) (num l 20 4)).getD 0 0 = 70 := by
    unfold secL sgn6 sgn5
    simp only [List.append_assoc]
    rw [getD_app, if_pos (by rw [leB_length]; omega), leB_get _ _ _ (by omega)]
    decide
  rw [← hs, h] at e
  cases e

theorem decO_enc (X Y : List Int) (r : RD) (h : 0 ≤ r.1 ∧ r.1 ≤ 4194304) (hl : r.2.length < 4294967296) : decO (X ++ (encR r ++ Y)) X.length = some r := by
  have e8 : (256 : Int) ^ 8 = 18446744073709551616 := by decide
  have e4 : (256 : Int) ^ 4 = 4294967296 := by decide
  have hw : IntKind.u64.wrap r.1 = r.1 := by rw [IntKind.wrap_u64]; omega
  have g : X ++ (encR r ++ Y) = X ++ (leB r.1 8 ++ (leB (r.2.length : Int) 4 ++ (r.2 ++ Y))) := by
    unfold encR
    rw [hw]
    simp only [List.append_assoc]
  rw [g]
  have n1 : num (X ++ (leB r.1 8 ++ (leB (r.2.length : Int) 4 ++ (r.2 ++ Y)))) X.length 8 = r.1 := num_at_part X _ _ r.1 8 X.length rfl rfl h.1 (by rw [e8]; omega)
  have n2 : num (X ++ (leB r.1 8 ++ (leB (r.2.length : Int) 4 ++ (r.2 ++ Y)))) (X.length + 8) 4 = (r.2.length : Int) := by
    have := num_at_part (X ++ leB r.1 8) (leB (r.2.length : Int) 4) (r.2 ++ Y) (r.2.length : Int) 4 (X.length + 8) (by simp [leB_length]) rfl (by omega) (by rw [e4]; omega)
    simpa only [List.append_assoc] using this
  unfold decO
  rw [n1, n2, if_pos]
  · congr 1
    refine Prod.ext rfl ?_
    simp only [Int.toNat_natCast]
    have : (X ++ (leB r.1 8 ++ (leB (r.2.length : Int) 4 ++ (r.2 ++ Y)))).drop (X.length + 12) = r.2 ++ Y := by
      have e : X ++ (leB r.1 8 ++ (leB (r.2.length : Int) 4 ++ (r.2 ++ Y))) = (X ++ leB r.1 8 ++ leB (r.2.length : Int) 4) ++ (r.2 ++ Y) := by simp only [List.append_assoc]
      rw [e, List.drop_left' (by simp [leB_length])]
    rw [this, List.take_left' rfl]
  · simp [leB_length]
    omega

theorem decM_enc (D : List RD) (h : ∀ r ∈ D, 0 ≤ r.1 ∧ r.1 ≤ 4194304 ∧ r.2.length < 4294967296) : ∀ k, k ≤ D.length → decM (encD D) k = some (D.take k, lenD (D.take k))
  | 0, _ => rfl
  | k + 1, hk => by
    rw [decM, decM_enc D h k (by omega)]
    simp only
    have hmem : D.getD k (0, []) ∈ D := by
      have : D.getD k (0, []) = D[k] := by simp [show k < D.length by omega]
      rw [this]
      exact List.getElem_mem _
    have hd := h _ hmem
    have e : encD D = encD (D.take k) ++ (encR (D.getD k (0, [])) ++ encD (D.drop (k + 1))) := by
      conv => lhs; rw [← List.take_append_drop (k + 1) D, encD_append, encD_take D k (by omega) (0, [])]
      rw [List.append_assoc]
    have hO : decO (encD D) (lenD (D.take k)) = some (D.getD k (0, [])) := by
      rw [e, ← encD_length (D.take k)]
      exact decO_enc _ _ _ ⟨hd.1, hd.2.1⟩ hd.2.2
    rw [hO]
    simp only
    rw [lenD_take D k (by omega) (0, []), take_get D k (by omega) (0, [])]

theorem decD_enc (D : List RD) (h : ∀ r ∈ D, 0 ≤ r.1 ∧ r.1 ≤ 4194304 ∧ r.2.length < 4294967296) : decD (encD D) D.length = some D := by
  have hl : 12 * D.length ≤ lenD D := by
    clear h
    induction D with
    | nil => simp [lenD]
    | cons r D ih =>
      have e : lenD (r :: D) = (12 + r.2.length) + lenD D := by simp [lenD]
      rw [e]
      simp
      omega
  unfold decD
  rw [if_neg (by rw [encD_length]; omega), Int.toNat_natCast, decM_enc D h D.length (Nat.le_refl _), List.take_length]
  simp only
  rw [if_pos (by rw [encD_length])]

/-- What is pending behind a commit. -/
theorem pnd_com {S : List Int} {p q : Nat} {nu : Int} {D : List RD} (hq : q ≤ S.length) (hp : p + 1024 ≤ q) (hroom : p + 512 + lenD D ≤ q) (hD : D ≠ []) (hmay : MayD p q D) (hq2 : q ≤ 4194304)
    (hs : ∀ i, i < 512 → S.getD (p + i) 0 = (signOf nu D).getD i 0) (hb : ∀ i, i < lenD D → S.getD (p + 512 + i) 0 = (encD D).getD i 0) :
    jFst S p = signOf nu D ∧ isSgn (jFst S p) ∧ num (jFst S p) 16 4 = lenD D ∧ num (jFst S p) 12 4 = D.length ∧ pnd S p q = some D := by
  have hl : (signOf nu D).length = 512 := secL_len _ _ _ _
  have hf : jFst S p = signOf nu D := by
    unfold jFst
    rw [← hl]
    exact part_is (by rw [hl]; omega) (by rw [hl]; exact hs)
  have hDl : 12 * D.length ≤ lenD D := by
    clear hs hb hf hroom hmay hD hl
    induction D with
    | nil => simp [lenD]
    | cons r D ih =>
      have e : lenD (r :: D) = (12 + r.2.length) + lenD D := by simp [lenD]
      rw [e]
      simp
      omega
  have hnu : 0 ≤ IntKind.u64.wrap (nu + 1) ∧ IntKind.u64.wrap (nu + 1) < 18446744073709551616 := by rw [IntKind.wrap_u64]; omega
  have hm4 : (0 : Int) ≤ (moreC 0 (encD D) : Nat) ∧ ((moreC 0 (encD D) : Nat) : Int) < 4294967296 := ⟨by omega, by have := moreC_lt 0 (encD D); omega⟩
  have hn := secL_nums (IntKind.u64.wrap (nu + 1)) D.length (encD D).length (moreC 0 (encD D)) hnu ⟨by omega, by omega⟩ ⟨by omega, by rw [encD_length]; omega⟩ hm4
  have hsg : isSgn (jFst S p) := by
    rw [hf]
    exact isSgn_secL _ _ _ _ hnu ⟨by omega, by omega⟩ ⟨by omega, by rw [encD_length]; omega⟩ hm4
  have n16 : num (jFst S p) 16 4 = lenD D := by rw [hf, ← encD_length]; exact hn.2.2.1
  have n12 : num (jFst S p) 12 4 = D.length := by rw [hf]; exact hn.2.1
  have n20 : num (jFst S p) 20 4 = (moreC 0 (encD D) : Nat) := by rw [hf]; exact hn.2.2.2
  refine ⟨hf, hsg, n16, n12, ?_⟩
  have hbod : jBod S p = encD D := by
    unfold jBod
    rw [n16, Int.toNat_natCast, ← encD_length]
    exact part_is (by rw [encD_length]; omega) (by rw [encD_length]; exact hb)
  unfold pnd
  rw [if_pos hsg, n12, n20, hbod]
  unfold cntD
  rw [if_pos rfl, decD_enc D (fun r hr => by
    have h1 := hmay r hr
    have h2 := lenD_mem hr
    omega)]
  simp only
  rw [if_pos (may_okD hD hmay)]
end Go.Proofs.YtibkhgmmjhlpmaaGreat.Oct

namespace Go.Proofs.YtibkhgmmjhlpmaaGreat.Oct
open Go.RowKit Go.Deep

theorem jnew_fl (w : World) (X : Nat → Prop) (F : Nat) (f : Fs) (A : A3) (k n : Nat) (h : Fl w X F f A k n) (p s : Nat) (hp : p % 512 = 0) (hs : s % 512 = 0) (hs2 : 1024 ≤ s) (hf : p + s ≤ A.S.length) :
    Calls Tryz.prog 25 #[.pointer (some ⟨F, 0, none⟩), .int .i64 p, .int .i64 s] w fun e w' => ∃ J, e = .returned (.tuple #[.pointer (some ⟨J, 0, none⟩), .int .i64 0]) ∧ w.heap.size ≤ J ∧ Jrn w' J F p (p + s : Nat) 0 ∧ Below w.heap.size w w' := by
  obtain ⟨R, hf', _⟩ := h.has
  have := jnew_ok w X F f A.S A.T R hf' p s hp hs hs2 hf h.s
  refine this.mono ?_
  rintro e9 w9 ⟨J, rfl, h1, h2, h3⟩
  refine ⟨J, rfl, h1, ?_, h3⟩
  rw [show ((p + s : Nat) : Int) = (p : Int) + s by omega]
  exact h2

/-- The bytes behind a commit. -/
def comS (S : List Int) (p : Nat) (nu : Int) (D : List RD) : List Int := laidsD (laidsD S (cuts (p + 512) (encD D))) (cuts p (signOf nu D))

theorem com_state (S : List Int) (p : Nat) (nu : Int) (D : List RD) : doAll (comO p nu D) ⟨S, S, []⟩ = ⟨comS S p nu D, comS S p nu D, []⟩ := by
  simp [comO, doAll, AO.on, comS]

theorem signOf_len (nu : Int) (D : List RD) : (signOf nu D).length = 512 := secL_len _ _ _ _

theorem comS_get (S : List Int) (p : Nat) (nu : Int) (D : List RD) (i : Nat) : (comS S p nu D).getD i 0 = if p ≤ i ∧ i < p + 512 then (signOf nu D).getD (i - p) 0 else if p + 512 ≤ i ∧ i < p + 512 + lenD D then (encD D).getD (i - (p + 512)) 0 else S.getD i 0 := by
  unfold comS
  rw [wr_get, signOf_len, wr_get, encD_length]

theorem comS_len (S : List Int) (p q : Nat) (nu : Int) (D : List RD) (hq : q ≤ S.length) (hp : p + 1024 ≤ q) (hroom : p + 512 + lenD D ≤ q) : (comS S p nu D).length = S.length := by
  unfold comS
  rw [wr_len, signOf_len, wr_len, encD_length]
  have h1 : signOf nu D ≠ [] := fun e => by have := signOf_len nu D; rw [e] at this; simp at this
  rw [if_neg h1]
  split <;> omega

theorem comS_byts {S : List Int} (p : Nat) (nu : Int) {D : List RD} (hS : Byts S) (hD : ∀ r ∈ D, Byts r.2) : Byts (comS S p nu D) := fun i => by
  rw [comS_get]
  split
  · exact secL_byts _ _ _ _ _
  · split
    · exact encD_byts hD _
    · exact hS i

/-- The bytes behind records that are done. -/
def putS (S : List Int) : List RD → List Int
  | [] => S
  | r :: D => putS (laidsD S (cuts r.1.toNat r.2)) D

theorem doRecs (D : List RD) : ∀ (A : A3), ∃ E, doAll (recO D) A = ⟨putS A.S D, A.T, A.D ++ E⟩ ∧ (∀ T, laidsD T E = putS T D) := by
  induction D with
  | nil => intro A; exact ⟨[], by simp [recO, doAll, putS], fun T => rfl⟩
  | cons r D ih =>
    intro A
    obtain ⟨E, h1, h2⟩ := ih ((AO.wr r.1.toNat r.2).on A)
    refine ⟨cuts r.1.toNat r.2 ++ E, ?_, fun T => ?_⟩
    · have e : doAll (recO (r :: D)) A = doAll (recO D) ((AO.wr r.1.toNat r.2).on A) := rfl
      rw [e, h1]
      simp [AO.on, putS]
    · rw [laidsD_append, h2]
      rfl

/-- The bytes behind an apply. -/
def appS (S : List Int) (p : Nat) (D : List RD) : List Int := laidsD (putS S D) (cuts p Z512)

theorem app_state (S : List Int) (p : Nat) (D : List RD) : doAll (appO p D) ⟨S, S, []⟩ = ⟨appS S p D, appS S p D, []⟩ := by
  unfold appO
  obtain ⟨E, h1, h2⟩ := doRecs D ⟨S, S, []⟩
  rw [doAll_append, h1]
  simp [doAll, AO.on, clrO, appS, h2]

theorem appS_get (S : List Int) (p : Nat) (D : List RD) (i : Nat) : (appS S p D).getD i 0 = if p ≤ i ∧ i < p + 512 then 0 else (putS S D).getD i 0 := by
  unfold appS
  rw [wr_get, Z512_len]
  split
  · unfold Z512
    exact getD_rep _ _
  · rfl

def D0 : List RD := [(2048, [97, 98, 99])]

theorem D0_len : lenD D0 = 15 := by decide
theorem D0_may : MayD 512 1536 D0 := fun r hr => by
  simp [D0] at hr
  subst hr
  simp
end Go.Proofs.YtibkhgmmjhlpmaaGreat.Oct
