/- A file with its journal, step by step, above what came in. -/
import Derived.Test.YtifngegkijdbmaaJxq
namespace Go.Proofs.Ytifngegkijdbmaa.Oct
open Go.RowKit Go.Deep Go.WideShapes Go.ChangeShapes Go.ChangeAt

/-- A file and its journal, made behind w1; nothing of w1 has changed. -/
def Run (w1 w : World) (F J p q : Nat) (A : A3) (k n : Nat) (nu : Int) : Prop :=
  ∃ X f, Fl w X F f A k n ∧ Jrn w J F p q nu ∧ ¬ X J ∧ (∀ i, X i → w1.heap.size ≤ i) ∧ w1.heap.size ≤ J ∧ Below w1.heap.size w1 w

theorem Run.bel {w1 w : World} {F J p q : Nat} {A : A3} {k n : Nat} {nu : Int} (h : Run w1 w F J p q A k n nu) : Below w1.heap.size w1 w := by
  obtain ⟨X, f, _, _, _, _, _, h⟩ := h
  exact h

theorem Run.below {w1 w w' : World} {F J p q : Nat} {A : A3} {k n : Nat} {nu : Int} (h : Run w1 w F J p q A k n nu) (hb : Below w.heap.size w w') : Run w1 w' F J p q A k n nu := by
  obtain ⟨X, f, h1, h2, h3, h4, h5, h6⟩ := h
  exact ⟨X, f, h1.below hb, h2.below hb, h3, h4, h5, h6.trans (hb.mono h6.size)⟩

theorem stop_r {w1 w : World} {F J p q : Nat} {A : A3} {k n : Nat} {nu : Int} (h : Run w1 w F J p q A k n nu) (hn : n ≤ 900000) (m : Nat) (h1 : 1 ≤ m) (h2 : m ≤ 65536) :
    Calls Try.prog 10 #[.pointer (some ⟨F, 0, none⟩), .int .i64 m] w fun e w' => e = .returned (.tuple #[]) ∧ Run w1 w' F J p q A (m - 1) n nu := by
  obtain ⟨X, f, h3, h4, h5, h6, h7, h8⟩ := h
  refine (stop_fl w X F f A k n h3 hn m h1 h2).mono ?_
  rintro e w' ⟨rfl, f', hf, hc⟩
  have hF := h6 F h3.xF
  refine ⟨rfl, X, f', hf, h4.chg hc (fun e => h5 (e ▸ h3.xF)), h5, h6, h7, h8.trans (hc.below _ h8.size (fun i hi e => by omega))⟩

theorem ranj_r {w1 w w' : World} {F J p q : Nat} {A : A3} {k n : Nat} {nu' : Int} {os : List AO} {X : Nat → Prop} (h : RanJ w w' J p q nu' X F A k n os) (h5 : ¬ X J) (hJl : J < w.heap.size) (h6 : ∀ i, X i → w1.heap.size ≤ i) (h7 : w1.heap.size ≤ J) (h8 : Below w1.heap.size w1 w) : Run w1 w' F J p q (doAll (os.take k) A) (k - os.length) (n + costs os) nu' := by
  obtain ⟨X', f', hf, hx, hc, hj, hxj⟩ := h
  have hs := h8.size
  refine ⟨X', f', hf, hj, fun e => ?_, fun i hi => ?_, h7, h8.trans (hc.below _ hs (fun i hi e => ?_))⟩
  · rcases hx J e with h | h
    · exact h5 h
    · omega
  · rcases hx i hi with h | h
    · exact h6 i h
    · omega
  · rcases e with e | e
    · have := h6 i e; omega
    · omega

theorem ApJ.of {w1 : World} {X : Nat → Prop} {a : Option Addr} {R : List JR} (h : LiesJ w1 a R) (hx : ∀ i, X i → w1.heap.size ≤ i) : ApJ X a R := by
  rcases h with h | ⟨b, off, rfl, hlt, hc⟩
  · subst h
    exact ⟨fun h => absurd rfl h, fun r hr => by cases hr⟩
  · refine ⟨fun _ x hx2 e => ?_, fun r hr hne x hxa e => ?_⟩
    · cases hx2
      have := hx _ e
      simp at this
      omega
    · obtain ⟨i, hi, rfl⟩ := List.getElem_of_mem hr
      obtain ⟨_, _, h3⟩ := hc i hi
      have hl := h3.lies
      rw [show R.getD i JR.z = R[i] by simp [hi]] at hl
      rcases hl with h0 | ⟨b2, o2, e2, hb2, _⟩
      · exact hne h0
      · rw [hxa] at e2
        cases e2
        have := hx _ e
        simp at this
        omega

theorem commit_r {w1 w : World} {F J p q : Nat} {A : A3} {k n : Nat} {nu : Int} (h : Run w1 w F J p q A k n nu) (hp : p + 1024 ≤ q) (hq : q ≤ 4194304) (a : Option Addr) (cap : Nat) (R : List JR) (hR : LiesJ w1 a R)
    (hf : ∀ r ∈ R, r.fit) (hn : R.length ≤ 1000000) (hlen : lenD (R.map JR.dat) ≤ 100000) (hnn : n ≤ 400000)
    (hbar : anyB p q R = false) (hroom : (lenD (R.map JR.dat) : Int) ≤ (q : Int) - ((p : Int) + 512)) :
    Calls Try.prog 11 #[.pointer (some ⟨J, 0, none⟩), .slice a R.length cap] w fun e w' => e = .returned (.int .i64 (cod 4 k)) ∧ Run w1 w' F J p q (doAll ((comO p nu (R.map JR.dat)).take k) A) (k - 4) (n + costs (comO p nu (R.map JR.dat))) (numJ nu k) := by
  obtain ⟨X, f, h3, h4, h5, h6, h7, h8⟩ := h
  refine (commit_j w J F p q nu h4 hp hq X f A k n h3 h5 a cap R (hR.below h8) (fun r hr => (hf r hr).1) (fun r hr => (hf r hr).2) hn hlen hnn hbar hroom).mono ?_
  rintro e w' ⟨rfl, hr⟩
  exact ⟨rfl, ranj_r hr h5 h4.isLt h6 h7 h8⟩

theorem apply_r {w1 w : World} {F J p q : Nat} {A : A3} {k n : Nat} {nu : Int} (h : Run w1 w F J p q A k n nu) (hp : p + 1024 ≤ q) (hq : q ≤ 4194304) (a : Option Addr) (cap : Nat) (R : List JR) (hR : LiesJ w1 a R)
    (hat : ∀ r ∈ R, 0 ≤ r.at_ ∧ r.at_ + r.b.length ≤ 4194304) (hn : R.length ≤ 1000000) (hlen : lenD (R.map JR.dat) ≤ 100000) (hnn : n ≤ 400000) :
    Calls Try.prog 12 #[.pointer (some ⟨J, 0, none⟩), .slice a R.length cap] w fun e w' => e = .returned (.int .i64 (cod (R.length + 3) k)) ∧ Run w1 w' F J p q (doAll ((appO p (R.map JR.dat)).take k) A) (k - (appO p (R.map JR.dat)).length) (n + costs (appO p (R.map JR.dat))) nu := by
  obtain ⟨X, f, h3, h4, h5, h6, h7, h8⟩ := h
  refine (apply_j w J F p q nu h4 hp hq X f A k n h3 h5 a cap R (hR.below h8) (ApJ.of hR (fun i e => by
    rcases e with e | e
    · exact h6 i e
    · omega)) hat hn hlen hnn).mono ?_
  rintro e w' ⟨rfl, hr⟩
  exact ⟨rfl, ranj_r hr h5 h4.isLt h6 h7 h8⟩

theorem crash_r {w1 w : World} {F J p q : Nat} {A : A3} {k n : Nat} {nu : Int} (h : Run w1 w F J p q A k n nu) (hn : n ≤ 900000) (ak : Option Addr) (ck : Nat) (kp : List Bool) (hk : LiesB w1 ak kp) :
    Calls Try.prog 13 #[.pointer (some ⟨F, 0, none⟩), .slice ak kp.length ck] w fun e w' => ∃ v, e = .returned v ∧ Own w' w.heap.size v (crashD A kp) ∧ Below w1.heap.size w1 w' := by
  obtain ⟨X, f, h3, h4, h5, h6, h7, h8⟩ := h
  refine (crash_fl w X F f A k n h3 hn ak ck kp (hk.below h8)).mono ?_
  rintro e w' ⟨v, rfl, ho, hb⟩
  exact ⟨v, rfl, ho, h8.trans (hb.mono h8.size)⟩

theorem bytes_r {w1 w : World} {F J p q : Nat} {A : A3} {k n : Nat} {nu : Int} (h : Run w1 w F J p q A k n nu) :
    Calls Try.prog 15 #[.pointer (some ⟨F, 0, none⟩)] w fun e w' => ∃ v, e = .returned v ∧ Own w' w.heap.size v A.S ∧ Below w1.heap.size w1 w' := by
  obtain ⟨X, f, h3, h4, h5, h6, h7, h8⟩ := h
  refine (bytes_fl w X F f A k n h3).mono ?_
  rintro e w' ⟨v, rfl, ho, hb⟩
  exact ⟨v, rfl, ho, h8.trans (hb.mono h8.size)⟩

theorem rds_le (S : List Int) (p : Nat) : 1 ≤ rdsN S p ∧ rdsN S p ≤ 2 := by
  unfold rdsN
  split <;> omega

theorem like_len {b : List Int} {p : Nat} {nu : Int} {D : List RD} {S : List Int} (h : Like D (comS b p nu D) S) : doAll (appO p D) ⟨S, S, []⟩ = ⟨appS (comS b p nu D) p D, appS (comS b p nu D) p D, []⟩ := by
  rw [app_state, h.app p]

/-- A replay that may be cut off. -/
theorem replay_cut {w1 w : World} {F J p q : Nat} {b : List Int} {mu : Int} {D : List RD} {S : List Int} {k n : Nat} {nu : Int} (g : Giv b p q D) (hS : St b p q mu D S) (h : Run w1 w F J p q ⟨S, S, []⟩ k n nu) (hnn : n ≤ 10) (hlD : lenD D ≤ 100000) :
    Calls Try.prog 14 #[.pointer (some ⟨J, 0, none⟩)] w fun e w' => ∃ i1 i2 : Int, e = .returned (.tuple #[.int .i64 i1, .int .i64 i2]) ∧ ∃ A' k' n' nu', Run w1 w' F J p q A' k' n' nu' ∧ n' ≤ 900000 ∧ ∀ kp, St b p q mu D (crashD A' kp) := by
  obtain ⟨X, f, h3, h4, h5, h6, h7, h8⟩ := h
  obtain ⟨s1, s2, s3, s4, s5⟩ := hS.says g
  have g1 := g.two
  have g2 := g.len
  have g3 := g.max
  refine (replay_j w J F p q nu h4 g.two X f ⟨S, S, []⟩ k n h3 s1 h5 s3 (by omega) (by omega) s4 rfl).mono ?_
  have hbel : ∀ w' (hc : Chg (fun i => X i ∨ i = J) w w'), Below w1.heap.size w1 w' := fun w' hc => h8.trans (hc.below _ h8.size (fun i hi e => by
    rcases e with e | e
    · have := h6 i e; omega
    · omega))
  have hsame : ∀ kp, St b p q mu D (crashD ⟨S, S, []⟩ kp) := fun kp => hS
  rintro e w' (⟨_, rfl, nu', f', hf, hc, hj⟩ | ⟨_, _, rfl, nu', f', hf, hc, hj⟩ | ⟨_, D', hD', he, nu', hr⟩)
  · exact ⟨_, _, rfl, _, _, _, _, ⟨X, f', hf, hj, h5, h6, h7, hbel w' hc⟩, by omega, hsame⟩
  · exact ⟨_, _, rfl, _, _, _, _, ⟨X, f', hf, hj, h5, h6, h7, hbel w' hc⟩, by omega, hsame⟩
  · rcases s5 with s5 | ⟨s5, s6⟩
    · rw [show pnd (A3.S ⟨S, S, []⟩) p q = none from s5] at hD'
      cases hD'
    · have : D' = D := by
        rw [show pnd (A3.S ⟨S, S, []⟩) p q = some D from s5] at hD'
        simpa using hD'.symm
      subst this
      have hcost : costs (appO p D') ≤ lenD D' + 1000 := by
        unfold appO
        rw [costs_append]
        have := recO_cost D'
        have e : costs ([.fl] ++ clrO p) = 515 := by
          unfold clrO
          simp [costs, AO.cost, Z512_len]
        omega
      have hrun := ranj_r hr h5 h4.isLt h6 h7 h8
      rcases he with ⟨_, rfl⟩ | ⟨_, rfl⟩
      · exact ⟨_, _, rfl, _, _, _, _, hrun, by omega, fun kp => St.next g s6 _ kp⟩
      · exact ⟨_, _, rfl, _, _, _, _, hrun, by omega, fun kp => St.next g s6 _ kp⟩

/-- A replay that is done. -/
theorem replay_all {w1 w : World} {F J p q : Nat} {b : List Int} {mu : Int} {D : List RD} {S : List Int} {k n : Nat} {nu : Int} (g : Giv b p q D) (hS : St b p q mu D S) (h : Run w1 w F J p q ⟨S, S, []⟩ k n nu) (hk : 1000 ≤ k) (hnn : n ≤ 200000) (hlD : lenD D ≤ 100000) (hD : D.length ≤ 12) :
    Calls Try.prog 14 #[.pointer (some ⟨J, 0, none⟩)] w fun e w' => ∃ i1 : Int, e = .returned (.tuple #[.int .i64 i1, .int .i64 0]) ∧ (pnd S p q = none → i1 = 0) ∧ ∃ S' k' n' nu', Run w1 w' F J p q ⟨S', S', []⟩ k' n' nu' ∧ k ≤ k' + 20 ∧ n' ≤ n + 102000 ∧ St b p q mu D S' ∧ pnd S' p q = none := by
  obtain ⟨X, f, h3, h4, h5, h6, h7, h8⟩ := h
  obtain ⟨s1, s2, s3, s4, s5⟩ := hS.says g
  have g1 := g.two
  have g2 := g.len
  have g3 := g.max
  have hrd := rds_le S p
  refine (replay_j w J F p q nu h4 g.two X f ⟨S, S, []⟩ k n h3 s1 h5 s3 (by omega) (by omega) s4 rfl).mono ?_
  have hbel : ∀ w' (hc : Chg (fun i => X i ∨ i = J) w w'), Below w1.heap.size w1 w' := fun w' hc => h8.trans (hc.below _ h8.size (fun i hi e => by
    rcases e with e | e
    · have := h6 i e; omega
    · omega))
  rintro e w' (⟨hno, rfl, nu', f', hf, hc, hj⟩ | ⟨_, hp, rfl, nu', f', hf, hc, hj⟩ | ⟨_, D', hD', he, nu', hr⟩)
  · exact absurd (show rdsN S p ≤ k by omega) hno
  · exact ⟨_, rfl, fun _ => rfl, S, _, _, _, ⟨X, f', hf, hj, h5, h6, h7, hbel w' hc⟩, (by show k ≤ k - rdsN S p + 20; omega), by omega, hS, hp⟩
  · rcases s5 with s5 | ⟨s5, s6⟩
    · rw [show pnd (A3.S ⟨S, S, []⟩) p q = none from s5] at hD'
      cases hD'
    · have : D' = D := by
        rw [show pnd (A3.S ⟨S, S, []⟩) p q = some D from s5] at hD'
        simpa using hD'.symm
      subst this
      have hlen : (appO p D').length = D'.length + 3 := by
        unfold appO clrO
        rw [List.length_append, recO_length]
        rfl
      have hcost : costs (appO p D') ≤ lenD D' + 1000 := by
        unfold appO
        rw [costs_append]
        have := recO_cost D'
        have e : costs ([.fl] ++ clrO p) = 515 := by
          unfold clrO
          simp [costs, AO.cost, Z512_len]
        omega
      have hrun := ranj_r hr h5 h4.isLt h6 h7 h8
      have hrs : rdsN (A3.S ⟨S, S, []⟩) p = rdsN S p := rfl
      rw [hrs] at he hrun
      rw [List.take_of_length_le (by omega), like_len s6] at hrun
      rcases he with ⟨_, rfl⟩ | ⟨hno, rfl⟩
      · exact ⟨_, rfl, fun e => (by rw [s5] at e; cases e), _, _, _, _, hrun, by omega, by omega, app_none.1, app_none.2⟩
      · exact absurd (by omega) hno

theorem over_laid {l b : List Int} {t : Nat} (h : t + b.length ≤ l.length) : over l t b = laidsD l (cuts t b) := by
  rw [wr_over t b l (by omega), show t + b.length - l.length = 0 by omega]
  simp

theorem over_get {l b : List Int} {t : Nat} (h : t + b.length ≤ l.length) (i : Nat) : (over l t b).getD i 0 = if t ≤ i ∧ i < t + b.length then b.getD (i - t) 0 else l.getD i 0 := by
  rw [over_laid h, wr_get]

/-- Noughts over a part make two lists the same that agree outside it. -/
theorem over_same {S T b : List Int} {p : Nat} (hS : p + b.length ≤ S.length) (hl : S.length = T.length) (h : ∀ i, ¬ (p ≤ i ∧ i < p + b.length) → S.getD i 0 = T.getD i 0) : over S p b = over T p b := by
  refine ext_getD (by rw [over_length hS, over_length (by omega)]; exact hl) (fun i _ => ?_)
  rw [over_get hS, over_get (by omega)]
  split
  · rfl
  · rename_i hi
    exact h i hi

theorem endD_le {D : List RD} {M : Nat} (h : ∀ r ∈ D, r.1.toNat + r.2.length ≤ M) : endD D ≤ M := by
  induction D with
  | nil => simp [endD]
  | cons r D ih =>
    rw [endD]
    have h1 := h r (List.mem_cons_self ..)
    have h2 := ih (fun x hx => h x (List.mem_cons_of_mem _ hx))
    split <;> omega

theorem appS_len {b : List Int} {p : Nat} {D : List RD} (h : p + 512 ≤ b.length) : (appS b p D).length = max b.length (endD D) := by
  unfold appS
  rw [wr_len, Z512_len, if_neg (fun e => by have := Z512_len; rw [e] at this; simp at this), putS_len]
  omega

theorem fin_over {b : List Int} {p s : Nat} {D : List RD} {S : List Int} (g : Giv b p (p + s) D) (h : Fin b p (p + s) D S) :
    b.length ≤ S.length ∧ S.length ≤ max b.length (endD D) ∧ (over S p (List.replicate s 0) = over b p (List.replicate s 0) ∨ over S p (List.replicate s 0) = over (appS b p D) p (List.replicate s 0)) := by
  have g1 := g.two
  have g2 := g.len
  rcases h with ⟨h1, h2⟩ | ⟨h1, h2⟩
  · refine ⟨by omega, by omega, Or.inl (over_same (by rw [List.length_replicate]; omega) h1 (fun i hi => h2 i (by rw [List.length_replicate] at hi; omega)))⟩
  · rw [putS_len] at h1
    refine ⟨by omega, by omega, Or.inr (over_same (by rw [List.length_replicate]; omega) (by rw [appS_len (by omega)]; exact h1) (fun i hi => ?_))⟩
    rw [List.length_replicate] at hi
    rw [h2 i (by omega), appS_get, if_neg (by omega)]

theorem over_byts {l b : List Int} {t : Nat} (h : t + b.length ≤ l.length) (hl : Byts l) (hb : Byts b) : Byts (over l t b) := fun i => by
  rw [over_get h]
  split
  · exact hb _
  · exact hl i

theorem zeros_byts (s : Nat) : Byts (List.replicate s 0) := fun i => by
  rw [List.getD_eq_getElem?_getD, List.getElem?_replicate]
  split <;> simp

theorem appS_byts {b : List Int} {p : Nat} {D : List RD} (hb : Byts b) (hD : ∀ r ∈ D, Byts r.2) : Byts (appS b p D) := fun i => by
  rw [appS_get]
  split
  · omega
  · exact putS_byts D b hb hD i
end Go.Proofs.Ytifngegkijdbmaa.Oct
