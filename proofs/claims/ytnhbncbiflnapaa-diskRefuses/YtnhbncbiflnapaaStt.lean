/- A file with the reference's beside it, through operations; what is kept of all else. -/
import Derived.Test.YtnhbncbiflnapaaDon3
namespace Go.Proofs.Ytnhbncbiflnapaa.Oct
open Go.RowKit Go.Deep

theorem Good.more {A : Ab} {n k : Nat} (h : Good A n) (hk : n ≤ k) : Good A k := ⟨h.seen, h.s, h.t, h.small, by have := h.d; omega, h.w0, by have := h.wn; omega⟩

theorem Ref.more {w : World} {Y Z : Nat → Prop} {M : Nat} {m : Rf} {s : List Int} {R : List RW} {n k : Nat} (h : Ref w Y Z M m s R n) (hk : n ≤ k) : Ref w Y Z M m s R k :=
  ⟨h.at_, h.yM, h.safe, h.sl, h.row, h.yr, h.ps, by have := h.rl; omega, by have := h.ops; omega, by have := h.wr; omega⟩

theorem Good.fit {w : World} {X : Nat → Prop} {f : Fs} {A : Ab} {n : Nat} (h : Good A n) (hn : n ≤ 1000) (hX : ∀ q, X q → q < w.heap.size) (ho : 0 ≤ f.ops ∧ f.ops ≤ n) : Fit w X f A :=
  ⟨hX, by omega, ⟨h.w0, by have := h.wn; omega⟩, h.s, h.t, by have := h.d; omega, h.small⟩

/-- A file that is right, and the reference's beside it; the blocks K are none of theirs. -/
def St (w : World) (K : Nat → Prop) (F M : Nat) (A : Ab) (n : Nat) : Prop :=
  Good A n ∧ ∃ X Y Z f m s R, Pair w X Y Z F f A M m s R n ∧ (f.refuse = 0 ∧ f.stop = 0) ∧ (0 ≤ f.ops ∧ f.ops ≤ n) ∧ (∀ q, K q → q < w.heap.size ∧ ¬ X q ∧ ¬ Y q ∧ Z q)

theorem St.below {w w' : World} {K : Nat → Prop} {F M : Nat} {A : Ab} {n : Nat} (h : St w K F M A n) (hb : Below w.heap.size w w') : St w' (fun q => K q ∨ (w.heap.size ≤ q ∧ q < w'.heap.size)) F M A n := by
  obtain ⟨hg, X, Y, Z, f, m, s, R, hp, hz, ho, hk⟩ := h
  obtain ⟨R0, q1, q2⟩ := hp.has
  have hs := hb.size
  refine ⟨hg, X, Y, fun q => Z q ∨ (w.heap.size ≤ q ∧ q < w'.heap.size), f, m, s, R, ⟨⟨R0, q1.below_keeps hb, q2⟩, (hp.ref.chg (X := fun _ => False) (Chg.of_below hb) (fun _ h => h.elim)).mono (fun _ h => h) (fun _ h => Or.inl h),
    ⟨fun q hq => Nat.lt_of_lt_of_le (hp.fit.x q hq) hs, hp.fit.ops, hp.fit.wr, hp.fit.s, hp.fit.t, hp.fit.d, hp.fit.small⟩, fun q hq => Nat.lt_of_lt_of_le (hp.by_ q hq) hs, fun q hq => ?_, fun q hx => ⟨(hp.xy q hx).1, fun hz => ?_⟩⟩, hz, ho, fun q hq => ?_⟩
  · rcases hq with hq | hq
    · exact Nat.lt_of_lt_of_le (hp.bz q hq) hs
    · exact hq.2
  · rcases hz with hz | hz
    · exact (hp.xy q hx).2 hz
    · have := hp.fit.x q hx; omega
  · rcases hq with hq | hq
    · obtain ⟨k1, k2, k3, k4⟩ := hk q hq
      exact ⟨Nat.lt_of_lt_of_le k1 hs, k2, k3, Or.inl k4⟩
    · exact ⟨hq.2, fun hx => by have := hp.fit.x q hx; omega, fun hy => by have := hp.by_ q hy; omega, Or.inr hq⟩

theorem St.mono {w : World} {K K' : Nat → Prop} {F M : Nat} {A : Ab} {n : Nat} (h : St w K F M A n) (hk : ∀ q, K' q → K q) : St w K' F M A n := by
  obtain ⟨hg, X, Y, Z, f, m, s, R, hp, hz, ho, hkk⟩ := h
  exact ⟨hg, X, Y, Z, f, m, s, R, hp, hz, ho, fun q hq => hkk q (hk q hq)⟩

theorem St.same {w w' : World} {K : Nat → Prop} {F M : Nat} {A : Ab} {n : Nat} (h : St w K F M A n) (hb : Below w.heap.size w w') : St w' K F M A n := (h.below hb).mono (fun _ h => Or.inl h)

theorem St.of_pdid {w w' : World} {K X Y Z : Nat → Prop} {F M : Nat} {f : Fs} {A : Ab} {n : Nat} (hn : n ≤ 1000) (hg : Good A n) (hz : f.refuse = 0 ∧ f.stop = 0) (ho : 0 ≤ f.ops ∧ f.ops + 1 ≤ n) (hk : ∀ q, K q → q < w.heap.size ∧ ¬ X q ∧ ¬ Y q ∧ Z q) (h : PDid w w' X Y Z F f A M n) : St w' K F M A n ∧ Chg (fun q => ¬ K q) w w' := by
  obtain ⟨X', Y', Z', f', m, s, R, h1, h2, h3, h4, h5, h6, ⟨e1, e2, e3⟩, h8, h9, h10, h11⟩ := h
  have hs := h11.size
  refine ⟨⟨hg, X', Y', Z', f', m, s, R, ⟨h1, h2, hg.fit hn h3 (by omega), h4, h5, h6⟩, ⟨by rw [e2]; exact hz.1, by rw [e3]; exact hz.2⟩, by omega, fun q hq => ?_⟩, h11.mono (fun q _ h hq => ?_)⟩
  · obtain ⟨k1, k2, k3, k4⟩ := hk q hq
    refine ⟨Nat.lt_of_lt_of_le k1 hs, fun hx => ?_, fun hy => ?_, h10 q k4⟩
    · rcases h8 q hx with h | h
      · exact k2 h
      · omega
    · rcases h9 q hy with h | h
      · exact k3 h
      · omega
  · obtain ⟨k1, k2, k3, k4⟩ := hk q hq
    rcases h with h | h
    · exact k2 h
    · exact k3 h

theorem said_zero {f : Fs} (hz : f.refuse = 0 ∧ f.stop = 0) (ho : 0 ≤ f.ops) : f.said = 0 := by
  unfold Fs.said
  rw [hz.1, hz.2, if_neg (by omega)]

set_option maxHeartbeats 4000000 in
set_option maxRecDepth 100000 in
theorem done_none (w : World) (F M : Nat) (kind at_ k : Int) (a : Option Addr) (cap bl : Nat) (hk : kind < 1) :
    Calls Try.prog 11 #[.pointer (some ⟨F, 0, none⟩), .pointer (some ⟨M, 0, none⟩), .agg #[.int .i64 kind, .int .i64 at_, .int .i64 k, .slice a bl cap]] w fun e w' => ToldB e ∧ Below w.heap.size w w' := by
  obtain ⟨b0, b1, b2, b3⟩ := box4 w 37 (.int .i64 kind) (.int .i64 at_) (.int .i64 k) (.slice a bl cap)
  have hb : Below w.heap.size w (w.alloc (.cells #[.int .i64 kind, .int .i64 at_, .int .i64 k, .slice a bl cap] 37)) := (Below.refl _ _).alloc (Nat.le_refl _) _
  have HB := hide hb
  have e1 : (kind == 1) = false := by simp; omega
  have e2 : (kind == 2) = false := by simp; omega
  have e3 : (kind == 3) = false := by simp; omega
  have e4 : (kind == 4) = false := by simp; omega
  have e5 : (kind == 5) = false := by simp; omega
  have e6 : (kind == 6) = false := by simp; omega
  clear hb
  go_enter Try.func11, Try.ntmps11
  go_wp2_with fail
  go_ret
  exact ⟨⟨_, rfl⟩, HB.out⟩

/-- An operation on both, below the fifth kind. -/
theorem done_st (w : World) (K : Nat → Prop) (F M : Nat) (A : Ab) (n : Nat) (h : St w K F M A n) (hn : n < 1000) (o : GOp) (hk : o.kind < 5) (hfit : o.fit) (hb : o.b.length ≤ 1500) (hsl : Sl w o.a o.cap o.b) (hK : o.b ≠ [] → ∀ x, o.a = some x → K x.block) :
    Calls Try.prog 11 #[.pointer (some ⟨F, 0, none⟩), .pointer (some ⟨M, 0, none⟩), .agg #[.int .i64 o.kind, .int .i64 o.at_, .int .i64 o.n, .slice o.a o.b.length o.cap]] w fun e w' => ToldB e ∧ St w' K F M (A.op o) (n + 1) ∧ Chg (fun q => ¬ K q) w w' := by
  have hst := h
  obtain ⟨hg, X, Y, Z, f, m, s, R, hp, hz, ho, hkk⟩ := h
  have h0 := said_zero hz ho.1
  have hg' := hg.op o hb
  have hap : Apart Z M m.vr o.a o.b := fun hl x hx => by
    obtain ⟨_, _, k3, k4⟩ := hkk _ (hK hl x hx)
    exact ⟨k4, fun e => k3 (by rw [e]; exact hp.ref.yM), fun e => k3 (hp.ref.yr _ e).1⟩
  obtain ⟨kind, at_, k, a, cap, b⟩ := o
  simp only at *
  by_cases h1 : kind = 1
  · subst h1
    refine (done_read w X Y Z F f A M m s R n hp (by omega) at_ k a cap b.length hfit.2.1 hfit.2.2.1).mono ?_
    rintro e w' ⟨he, hd⟩
    have hA : A.op ⟨1, at_, k, a, cap, b⟩ = A := rfl
    rw [hA] at hg' ⊢
    exact ⟨he, St.of_pdid (by omega) hg' hz (by omega) hkk hd⟩
  by_cases h2 : kind = 2
  · subst h2
    refine (done_write w X Y Z F f A M m s R n hp (by omega) at_ k a cap b hfit.2.1 hsl hb hap).mono ?_
    rintro e w' ⟨he, hd⟩
    rw [h0, if_neg (by decide)] at hd
    exact ⟨he, St.of_pdid (by omega) hg' hz (by omega) hkk hd⟩
  by_cases h3 : kind = 3
  · subst h3
    refine (done_cut w X Y Z F f A M m s R n hp (by omega) at_ k a cap b).mono ?_
    rintro e w' ⟨he, hd⟩
    rw [h0, if_neg (by decide)] at hd
    exact ⟨he, St.of_pdid (by omega) hg' hz (by omega) hkk hd⟩
  by_cases h4 : kind = 4
  · subst h4
    refine (done_flush w X Y Z F f A M m s R n hp (by omega) at_ k a cap b).mono ?_
    rintro e w' ⟨he, hd⟩
    rw [h0, if_neg (by decide)] at hd
    exact ⟨he, St.of_pdid (by omega) hg' hz (by omega) hkk hd⟩
  · refine (done_none w F M kind at_ k a cap b.length (by omega)).mono ?_
    rintro e w' ⟨he, hbel⟩
    have hA : A.op ⟨kind, at_, k, a, cap, b⟩ = A := by
      unfold Ab.op
      simp only
      rw [if_neg h2, if_neg h3, if_neg h4]
    rw [hA] at hg' ⊢
    obtain ⟨_, X', Y', Z', f', m', s', R', hp', hz', ho', hk'⟩ := hst.same hbel
    exact ⟨he, ⟨hg', X', Y', Z', f', m', s', R', ⟨hp'.has, hp'.ref.more (by omega), hp'.fit, hp'.by_, hp'.bz, hp'.xy⟩, hz', by omega, hk'⟩, Chg.of_below hbel⟩

/-- All is made safe. -/
theorem flush_st (w : World) (K : Nat → Prop) (F M : Nat) (A : Ab) (n : Nat) (h : St w K F M A n) (hn : n < 1000) :
    Calls Try.prog 22 #[.pointer (some ⟨F, 0, none⟩)] w fun e w' => e = .returned (.int .i64 0) ∧ St w' K F M ⟨A.S, A.S, [], A.wr⟩ (n + 1) ∧ Chg (fun q => ¬ K q) w w' := by
  obtain ⟨hg, X, Y, Z, f, m, s, R, hp, hz, ho, hkk⟩ := h
  have h0 := said_zero hz ho.1
  have hg' := hg.op ⟨4, 0, 0, none, 0, []⟩ (by simp)
  refine (flush_any w X F f A hp.has hp.fit 0 0 none 0 []).mono ?_
  rintro e w' ⟨c, rfl, h1, h2, hd⟩
  rw [h0] at h1
  rw [h0, if_neg (by decide)] at hd
  have hA : A.op ⟨4, 0, 0, none, 0, []⟩ = ⟨A.S, A.S, [], A.wr⟩ := by
    show (⟨A.S, laidsD A.T A.D, [], A.wr⟩ : Ab) = _
    rw [← hg.seen]
  rw [hA] at hd hg'
  have hc : c = 0 := by
    rcases h2 with h2 | h2
    · exact absurd (h1.1 h2) (by decide)
    · exact h2
  subst hc
  have hr := (hp.ref1 hd).more (Nat.le_succ n)
  have hcc := did_chg hd
  have hrd : RDid w' w' Y Z M (n + 1) := ⟨m, s, R, hr.mono (fun _ h => Or.inl h) (fun _ h => Or.inl h), Chg.refl _ _⟩
  obtain ⟨h3, h4⟩ := St.of_pdid (K := K) (by omega) hg' hz (by omega) hkk (hp.after hd hrd)
  exact ⟨rfl, h3, h4⟩

theorem waiting_st (w : World) (K : Nat → Prop) (F M : Nat) (A : Ab) (n : Nat) (h : St w K F M A n) :
    Calls Try.prog 14 #[.pointer (some ⟨F, 0, none⟩)] w fun e w' => e = .returned (.int .i64 A.D.length) ∧ w' = w := by
  obtain ⟨hg, X, Y, Z, f, m, s, R, hp, hz, ho, hkk⟩ := h
  obtain ⟨R0, q1, q2, q3⟩ := hp.has
  have := waiting_file w X F f A.S A.T R0 q1
  rw [← q2, List.length_map]
  exact this

theorem bytes_st (w : World) (K : Nat → Prop) (F M : Nat) (A : Ab) (n : Nat) (h : St w K F M A n) :
    Calls Try.prog 18 #[.pointer (some ⟨F, 0, none⟩)] w fun e w' => ∃ v, e = .returned v ∧ Own w' w.heap.size v A.S ∧ Below w.heap.size w w' := by
  obtain ⟨hg, X, Y, Z, f, m, s, R, hp, hz, ho, hkk⟩ := h
  obtain ⟨R0, q1, q2, q3⟩ := hp.has
  exact bytes_file w X F f A.S A.T R0 q1 (by have := hg.s; omega)

theorem left_nil (T : List Int) (R : List Wr) : ∀ k, left T R [] k = T
  | 0 => rfl
  | k + 1 => by
    unfold left
    rw [if_neg (by simp)]
    exact left_nil T R k

theorem left_all (T : List Int) (R : List Wr) (kp : List Bool) (hk : ∀ j, j < R.length → kp.getD j false = true) : ∀ k, k ≤ R.length → left T R kp k = laidAll T (R.take k)
  | 0, _ => by simp [left, laidAll]
  | k + 1, h => by
    unfold left
    rw [if_pos (hk k (by omega)), left_all T R kp hk k (by omega), laidAll_take T R k (by omega)]

theorem crash_none_st (w : World) (K : Nat → Prop) (F M : Nat) (A : Ab) (n : Nat) (h : St w K F M A n) (hn : n ≤ 1000) :
    Calls Try.prog 20 #[.pointer (some ⟨F, 0, none⟩), .slice none 0 0] w fun e w' => ∃ v, e = .returned v ∧ Own w' w.heap.size v A.T ∧ Below w.heap.size w w' := by
  obtain ⟨hg, X, Y, Z, f, m, s, R, hp, hz, ho, hkk⟩ := h
  obtain ⟨R0, q1, q2, q3⟩ := hp.has
  have hl : R0.length = A.D.length := by rw [← q2]; simp
  have hd := hg.d
  have := crash_file w X F f A.S A.T R0 q1 none 0 [] (Or.inl rfl) hg.t (small_dat (by rw [q2]; exact hg.small)) (by omega)
  rw [left_nil] at this
  exact this

theorem crash_all_st (w : World) (K : Nat → Prop) (F M : Nat) (A : Ab) (n : Nat) (h : St w K F M A n) (hn : n ≤ 1000) (a : Option Addr) (c : Nat) (kp : List Bool) (hkp : LiesB w a kp) (hall : ∀ j, j < A.D.length → kp.getD j false = true) :
    Calls Try.prog 20 #[.pointer (some ⟨F, 0, none⟩), .slice a kp.length c] w fun e w' => ∃ v, e = .returned v ∧ Own w' w.heap.size v A.S ∧ Below w.heap.size w w' := by
  obtain ⟨hg, X, Y, Z, f, m, s, R, hp, hz, ho, hkk⟩ := h
  obtain ⟨R0, q1, q2, q3⟩ := hp.has
  have hl : R0.length = A.D.length := by rw [← q2]; simp
  have hd := hg.d
  have := crash_file w X F f A.S A.T R0 q1 a c kp hkp hg.t (small_dat (by rw [q2]; exact hg.small)) (by omega)
  rw [left_all A.T R0 kp (fun j hj => hall j (by omega)) R0.length (Nat.le_refl _), List.take_length, laidAll_dat, q2, ← hg.seen] at this
  exact this

end Go.Proofs.Ytnhbncbiflnapaa.Oct
