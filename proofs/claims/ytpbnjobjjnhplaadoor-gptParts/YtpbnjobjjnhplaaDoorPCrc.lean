/- Plain mathematics of the sum: halving with a divisor is a linear map; a text's sum is the halving, as often as it has bits, of its number. -/
import Derived.Test.YtpbnjobjjnhplaaDoorPNumMem
namespace Go.Proofs.YtpbnjobjjnhplaaDoor.Oct
open Go.RowKit

/-- A number is halved; if a 1 fell out, it is changed by Poly. -/
def half (s : Nat) : Nat := if s % 2 = 1 then (s / 2) ^^^ 3988292384 else s / 2

def halves : Nat → Nat → Nat
  | 0, s => s
  | k + 1, s => half (halves k s)

/-- The number of bytes, the lowest first. -/
def le : List Int → Nat
  | [] => 0
  | x :: r => x.toNat + 256 * le r

/-- The sum's inner state behind bytes. -/
def runC (s : Nat) (l : List Int) : Nat := l.foldl (fun s x => halves 8 (s ^^^ x.toNat)) s

/-- The sum of bytes and others behind them. -/
def moreC (sum : Nat) (l : List Int) : Nat := 4294967295 - runC (4294967295 - sum) l

theorem xor_mod2 (a b : Nat) : (a ^^^ b) % 2 = (a % 2 + b % 2) % 2 := by
  have h := Nat.testBit_xor (x := a) (y := b) (i := 0)
  simp only [Nat.testBit_zero] at h
  have ha : a % 2 = 0 ∨ a % 2 = 1 := by omega
  have hb : b % 2 = 0 ∨ b % 2 = 1 := by omega
  have hc : (a ^^^ b) % 2 = 0 ∨ (a ^^^ b) % 2 = 1 := by omega
  rcases ha with ha | ha <;> rcases hb with hb | hb <;> rcases hc with hc | hc <;> simp [ha, hb, hc] at h ⊢

theorem xor_div2 (a b : Nat) : (a ^^^ b) / 2 = (a / 2) ^^^ (b / 2) := by
  have := Nat.shiftRight_xor_distrib (a := a) (b := b) (i := 1)
  simpa [Nat.shiftRight_succ] using this

theorem half_xor (a b : Nat) : half (a ^^^ b) = half a ^^^ half b := by
  unfold half
  rw [xor_mod2, xor_div2]
  have ha : a % 2 = 0 ∨ a % 2 = 1 := by omega
  have hb : b % 2 = 0 ∨ b % 2 = 1 := by omega
  rcases ha with ha | ha <;> rcases hb with hb | hb <;> simp [ha, hb]
  · ac_rfl
  · ac_rfl
  · have : ∀ x y p : Nat, x ^^^ y = x ^^^ p ^^^ (y ^^^ p) := fun x y p => by
      rw [show x ^^^ p ^^^ (y ^^^ p) = x ^^^ y ^^^ (p ^^^ p) from by ac_rfl, Nat.xor_self, Nat.xor_zero]
    exact this _ _ _

theorem halves_xor (a b : Nat) : ∀ k, halves k (a ^^^ b) = halves k a ^^^ halves k b
  | 0 => rfl
  | k + 1 => by rw [halves, halves, halves, halves_xor a b k, half_xor]

theorem half_double (t : Nat) : half (2 * t) = t := by
  unfold half
  rw [if_neg (by omega)]
  omega

theorem halves_half (k s : Nat) : halves k (half s) = half (halves k s) := by
  induction k with
  | zero => rfl
  | succ k ih => rw [halves, halves, ih]

theorem halves_add (j k s : Nat) : halves (j + k) s = halves j (halves k s) := by
  induction j with
  | zero => simp [halves]
  | succ j ih => rw [Nat.succ_add, halves, halves, ih]

theorem halves_pow (k t : Nat) : halves k (t * 2 ^ k) = t := by
  induction k generalizing t with
  | zero => simp [halves]
  | succ k ih =>
    have e : t * 2 ^ (k + 1) = 2 * (t * 2 ^ k) := by rw [Nat.pow_succ, ← Nat.mul_assoc, Nat.mul_comm]
    rw [e, halves, ← halves_half, half_double, ih]

theorem add_xor (x y : Nat) (k : Nat) (hx : x < 2 ^ k) : x + 2 ^ k * y = x ^^^ (y * 2 ^ k) := by
  apply Nat.eq_of_testBit_eq
  intro i
  rw [Nat.testBit_xor, Nat.add_comm, Nat.testBit_two_pow_mul_add _ hx, Nat.testBit_mul_two_pow]
  by_cases h : i < k
  · have h2 : ¬ k ≤ i := by omega
    simp [h, h2]
  · have : x.testBit i = false := Nat.testBit_lt_two_pow (Nat.lt_of_lt_of_le hx (Nat.pow_le_pow_right (by omega) (by omega)))
    have h2 : k ≤ i := by omega
    simp [h, this, h2]

/-- A text's inner state is the halving of its number. -/
theorem runC_eq (l : List Int) (hb : Byts l) : ∀ s, runC s l = halves (8 * l.length) (s ^^^ le l) := by
  induction l with
  | nil => intro s; simp [runC, le, halves]
  | cons x r ih =>
    intro s
    have hx : 0 ≤ x ∧ x < 256 := by simpa using hb 0
    have hr : Byts r := fun k => by simpa using hb (k + 1)
    have e1 : runC s (x :: r) = runC (halves 8 (s ^^^ x.toNat)) r := rfl
    have e2 : le (x :: r) = x.toNat ^^^ (le r * 2 ^ 8) := by
      show x.toNat + 256 * le r = _
      exact add_xor x.toNat (le r) 8 (by omega)
    have e3 : 8 * (x :: r).length = 8 * r.length + 8 := by simp; omega
    rw [e1, ih hr, e3, halves_add, e2, ← Nat.xor_assoc, halves_xor (s ^^^ x.toNat) (le r * 2 ^ 8) 8, halves_pow]

theorem half_lt {s : Nat} (h : s < 4294967296) : half s < 4294967296 := by
  unfold half
  split
  · exact Nat.xor_lt_two_pow (n := 32) (by omega) (by omega)
  · omega

theorem halves_lt {s : Nat} (h : s < 4294967296) : ∀ k, halves k s < 4294967296
  | 0 => h
  | k + 1 => half_lt (halves_lt h k)

theorem runC_lt (l : List Int) (hb : Byts l) : ∀ s, s < 4294967296 → runC s l < 4294967296 := by
  induction l with
  | nil => intro s h; exact h
  | cons x r ih =>
    intro s h
    have hx : 0 ≤ x ∧ x < 256 := by simpa using hb 0
    exact ih (fun k => by simpa using hb (k + 1)) _ (halves_lt (Nat.xor_lt_two_pow (n := 32) h (by omega)) 8)

theorem moreC_lt (sum : Nat) (l : List Int) : moreC sum l < 4294967296 := by unfold moreC; omega

theorem half_zero {s : Nat} (h : s < 4294967296) (h0 : half s = 0) : s = 0 := by
  unfold half at h0
  split at h0
  · have : s / 2 = 3988292384 := by
      have e : s / 2 ^^^ 3988292384 ^^^ 3988292384 = 0 ^^^ 3988292384 := by rw [h0]
      rw [Nat.xor_assoc, Nat.xor_self, Nat.xor_zero, Nat.zero_xor] at e
      exact e
    omega
  · omega

theorem halves_zero {s : Nat} (h : s < 4294967296) : ∀ k, halves k s = 0 → s = 0
  | 0, h0 => h0
  | k + 1, h0 => halves_zero h k (half_zero (halves_lt h k) h0)

/-- Going on with a sum. -/
theorem moreC_append (sum : Nat) (l m : List Int) (hs : sum < 4294967296) (hl : Byts l) : moreC (moreC sum l) m = moreC sum (l ++ m) := by
  have h1 := runC_lt l hl (4294967295 - sum) (by omega)
  unfold moreC
  have e : 4294967295 - (4294967295 - runC (4294967295 - sum) l) = runC (4294967295 - sum) l := by omega
  rw [e]
  simp [runC]

/-- Two texts changed by one another, byte by byte. -/
def xorL : List Int → List Int → List Int
  | x :: a, y :: b => ((x.toNat ^^^ y.toNat : Nat) : Int) :: xorL a b
  | _, _ => []

theorem xorL_length : ∀ (a b : List Int), a.length = b.length → (xorL a b).length = a.length
  | [], _, _ => by simp [xorL]
  | _ :: _, [], h => by simp at h
  | x :: a, y :: b, h => by simp [xorL, xorL_length a b (by simpa using h)]

theorem xorL_getD : ∀ (a b : List Int) (k : Nat), a.length = b.length → k < a.length → (xorL a b).getD k 0 = (((a.getD k 0).toNat ^^^ (b.getD k 0).toNat : Nat) : Int)
  | [], _, _, _, h => by simp at h
  | _ :: _, [], _, h, _ => by simp at h
  | x :: a, y :: b, 0, _, _ => by simp [xorL]
  | x :: a, y :: b, k + 1, h, hk => by
    have := xorL_getD a b k (by simpa using h) (by simpa using hk)
    simpa [xorL] using this

theorem xor_byte {x y : Int} (hx : 0 ≤ x ∧ x < 256) (hy : 0 ≤ y ∧ y < 256) : x.toNat ^^^ y.toNat < 256 := Nat.xor_lt_two_pow (n := 8) (by omega) (by omega)

theorem Byts.cons {x : Int} {r : List Int} (h : Byts (x :: r)) : (0 ≤ x ∧ x < 256) ∧ Byts r := ⟨by simpa using h 0, fun k => by simpa using h (k + 1)⟩

theorem Byts.mk {x : Int} {r : List Int} (hx : 0 ≤ x ∧ x < 256) (h : Byts r) : Byts (x :: r) := by
  intro k
  match k with
  | 0 => simpa using hx
  | k + 1 => simpa using h k

theorem Byts.xorL : ∀ {a b : List Int}, Byts a → Byts b → Byts (xorL a b)
  | [], _, _, _ => by intro k; simp [Oct.xorL]
  | _ :: _, [], _, _ => by intro k; simp [Oct.xorL]
  | x :: a, y :: b, ha, hb => by
    have h := xor_byte ha.cons.1 hb.cons.1
    exact Byts.mk (by omega) (Byts.xorL ha.cons.2 hb.cons.2)

theorem le_cons {x : Int} {r : List Int} (hx : 0 ≤ x ∧ x < 256) : le (x :: r) = x.toNat ^^^ (le r * 2 ^ 8) := by
  show x.toNat + 256 * le r = _
  exact add_xor x.toNat (le r) 8 (by omega)

theorem xor_mul (a b k : Nat) : (a * 2 ^ k) ^^^ (b * 2 ^ k) = (a ^^^ b) * 2 ^ k := by
  have := Nat.shiftLeft_xor_distrib (a := a) (b := b) (i := k)
  simp only [Nat.shiftLeft_eq] at this
  exact this.symm

theorem le_xorL : ∀ (a b : List Int), a.length = b.length → Byts a → Byts b → le (xorL a b) = le a ^^^ le b
  | [], [], _, _, _ => rfl
  | [], _ :: _, h, _, _ => by simp at h
  | _ :: _, [], h, _, _ => by simp at h
  | x :: a, y :: b, h, ha, hb => by
    have hx := ha.cons.1
    have hy := hb.cons.1
    have hxy := xor_byte hx hy
    have e : xorL (x :: a) (y :: b) = ((x.toNat ^^^ y.toNat : Nat) : Int) :: xorL a b := rfl
    rw [e, le_cons (by omega), le_cons hx, le_cons hy, le_xorL a b (by simpa using h) ha.cons.2 hb.cons.2, ← xor_mul, Int.toNat_natCast]
    ac_rfl

/-- The inner states of three equally long texts go together. -/
theorem runC_three (s : Nat) (a b c : List Int) (hb : a.length = b.length) (hc : a.length = c.length) (ha : Byts a) (hb' : Byts b) (hc' : Byts c) :
    runC s a ^^^ runC s b ^^^ runC s c = runC s (xorL (xorL a b) c) := by
  have h1 := xorL_length a b hb
  have h2 := xorL_length (xorL a b) c (by omega)
  rw [runC_eq a ha, runC_eq b hb', runC_eq c hc', runC_eq _ ((ha.xorL hb').xorL hc'), h2, h1, ← hb, ← hc, ← halves_xor, ← halves_xor,
    le_xorL (xorL a b) c (by omega) (ha.xorL hb') hc', le_xorL a b hb ha hb']
  congr 1
  have e : ∀ s a b c : Nat, s ^^^ a ^^^ (s ^^^ b) ^^^ (s ^^^ c) = s ^^^ (a ^^^ b ^^^ c) := fun s a b c => by
    rw [show s ^^^ a ^^^ (s ^^^ b) ^^^ (s ^^^ c) = (s ^^^ s) ^^^ (s ^^^ (a ^^^ b ^^^ c)) from by ac_rfl, Nat.xor_self, Nat.zero_xor]
  exact e _ _ _ _
end Go.Proofs.YtpbnjobjjnhplaaDoor.Oct
