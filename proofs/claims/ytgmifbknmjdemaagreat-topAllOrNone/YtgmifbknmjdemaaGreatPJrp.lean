/- What has a sign is done: the statements' small example. -/
import Derived.Test.YtgmifbknmjdemaaGreatPJpd
import Derived.Lib.SlBytesConst
namespace Go.Proofs.YtgmifbknmjdemaaGreat.Oct
open Go.RowKit Go.Deep

theorem jnew_fl (w : World) (X : Nat → Prop) (F : Nat) (f : Fs) (A : A3) (k n : Nat) (h : Fl w X F f A k n) (p s : Nat) (hp : p % 512 = 0) (hs : s % 512 = 0) (hs2 : 1024 ≤ s) (hf : p + s ≤ A.S.length) :
    Calls Tryz.prog 6 #[.pointer (some ⟨F, 0, none⟩), .int .i64 p, .int .i64 s] w fun e w' => ∃ J, e = .returned (.tuple #[.pointer (some ⟨J, 0, none⟩), .int .i64 0]) ∧ w.heap.size ≤ J ∧ Jrn w' J F p (p + s : Nat) 0 ∧ Below w.heap.size w w' := by
  obtain ⟨R, hf', _⟩ := h.has
  have := jnew_ok w X F f A.S A.T R hf' p s hp hs hs2 hf h.s
  refine this.mono ?_
  rintro e9 w9 ⟨J, rfl, h1, h2, h3⟩
  refine ⟨J, rfl, h1, ?_, h3⟩
  rw [show ((p + s : Nat) : Int) = (p : Int) + s by omega]
  exact h2

/-- The bytes behind a commit. -/
def comS (S : List Int) (p : Nat) (nu : Int) (D : List RD) : List Int := laidsD (laidsD S (cuts (p + 512) (encD D))) (cuts p (signOf nu D))

theorem com_state (S : List Int) (p : Nat) (nu : Int) (D : List RD) : doAll (comO p nu D) ⟨S, S, []⟩ = ⟨comS S p nu D, comS S p nu D, []⟩ := by
  simp [comO, doAll, AO.on, comS]

theorem signOf_len (nu : Int) (D : List RD) : (signOf nu D).length = 512 := secL_len _ _ _ _

theorem comS_get (S : List Int) (p : Nat) (nu : Int) (D : List RD) (i : Nat) : (comS S p nu D).getD i 0 = if p ≤ i ∧ i < p + 512 then (signOf nu D).getD (i - p) 0 else if p + 512 ≤ i ∧ i < p + 512 + lenD D then (encD D).getD (i - (p + 512)) 0 else S.getD i 0 := by
  unfold comS
  rw [wr_get, signOf_len, wr_get, encD_length]

theorem comS_len (S : List Int) (p q : Nat) (nu : Int) (D : List RD) (hq : q ≤ S.length) (hp : p + 1024 ≤ q) (hroom : p + 512 + lenD D ≤ q) : (comS S p nu D).length = S.length := by
  unfold comS
  rw [wr_len, signOf_len, wr_len, encD_length]
  have h1 : signOf nu D ≠ [] := fun e => by have := signOf_len nu D; rw [e] at this; simp at this
  rw [if_neg h1]
  split <;> omega

theorem comS_byts {S : List Int} (p : Nat) (nu : Int) {D : List RD} (hS : Byts S) (hD : ∀ r ∈ D, Byts r.2) : Byts (comS S p nu D) := fun i => by
  rw [comS_get]
  split
  · exact secL_byts _ _ _ _ _
  · split
    · exact encD_byts hD _
    · exact hS i

/-- The bytes behind records that are done. -/
def putS (S : List Int) : List RD → List Int
  | [] => S
  | r :: D => putS (laidsD S (cuts r.1.toNat r.2)) D

theorem doRecs (D : List RD) : ∀ (A : A3), ∃ E, doAll (recO D) A = ⟨putS A.S D, A.T, A.D ++ E⟩ ∧ (∀ T, laidsD T E = putS T D) := by
  induction D with
  | nil => intro A; exact ⟨[], by simp [recO, doAll, putS], fun T => rfl⟩
  | cons r D ih =>
    intro A
    obtain ⟨E, h1, h2⟩ := ih ((AO.wr r.1.toNat r.2).on A)
    refine ⟨cuts r.1.toNat r.2 ++ E, ?_, fun T => ?_⟩
    · have e : doAll (recO (r :: D)) A = doAll (recO D) ((AO.wr r.1.toNat r.2).on A) := rfl
      rw [e, h1]
      simp [AO.on, putS]
    · rw [laidsD_append, h2]
      rfl

/-- The bytes behind an apply. -/
def appS (S : List Int) (p : Nat) (D : List RD) : List Int := laidsD (putS S D) (cuts p Z512)

theorem app_state (S : List Int) (p : Nat) (D : List RD) : doAll (appO p D) ⟨S, S, []⟩ = ⟨appS S p D, appS S p D, []⟩ := by
  unfold appO
  obtain ⟨E, h1, h2⟩ := doRecs D ⟨S, S, []⟩
  rw [doAll_append, h1]
  simp [doAll, AO.on, clrO, appS, h2]

theorem appS_get (S : List Int) (p : Nat) (D : List RD) (i : Nat) : (appS S p D).getD i 0 = if p ≤ i ∧ i < p + 512 then 0 else (putS S D).getD i 0 := by
  unfold appS
  rw [wr_get, Z512_len]
  split
  · unfold Z512
    exact getD_rep _ _
  · rfl

def D0 : List RD := [(2048, [97, 98, 99])]

theorem D0_len : lenD D0 = 15 := by decide
theorem D0_may : MayD 512 1536 D0 := fun r hr => by
  simp [D0] at hr
  subst hr
  simp
end Go.Proofs.YtgmifbknmjdemaaGreat.Oct
