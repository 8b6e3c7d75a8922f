/- What the calls More and Sum of the program and Fast of the reference answer. -/
import Derived.Test.YtibkhgmmjhlpmaaGreatPNumMem
import Derived.Test.YtibkhgmmjhlpmaaGreatChecked
import Derived.ProofKit
import Derived.OpenShut
import Derived.Carry
import Derived.Deep.Matrix
import Derived.Lib.SlBytesConst
namespace Go.Proofs.YtibkhgmmjhlpmaaGreat.Oct
open Go.RowKit

/-- A number is halved; if a 1 fell out, it is changed by Poly. -/
def half (s : Nat) : Nat := if s % 2 = 1 then (s / 2) ^^^ 3988292384 else s / 2

def halves : Nat → Nat → Nat
  | 0, s => s
  | k + 1, s => half (halves k s)

/-- The number of bytes, the lowest first. -/
def le : List Int → Nat
  | [] => 0
  | x :: r => x.toNat + 256 * le r

/-- The sum's inner state behind bytes. -/
def runC (s : Nat) (l : List Int) : Nat := l.foldl (fun s x => halves 8 (s ^^^ x.toNat)) s

/-- The sum of bytes and others behind them. -/
def moreC (sum : Nat) (l : List Int) : Nat := 4294967295 - runC (4294967295 - sum) l

theorem xor_mod2 (a b : Nat) : (a ^^^ b) % 2 = (a % 2 + b % 2) % 2 := by
  have h := Nat.testBit_xor (x := a) (y := b) (i := 0)
  simp only [Nat.testBit_zero] at h
  have ha : a % 2 = 0 ∨ a % 2 = 1 := by omega
  have hb : b % 2 = 0 ∨ b % 2 = 1 := by omega
  have hc : (a ^^^ b) % 2 = 0 ∨ (a ^^^ b) % 2 = 1 := by omega
  rcases ha with ha | ha <;> rcases hb with hb | hb <;> rcases hc with hc | hc <;> simp [ha, hb, hc] at h ⊢

theorem xor_div2 (a b : Nat) : (a ^^^ b) / 2 = (a / 2) ^^^ (b / 2) := by
  have := Nat.shiftRight_xor_distrib (a := a) (b := b) (i := 1)
  simpa [Nat.shiftRight_succ] using this

theorem half_xor (a b : Nat) : half (a ^^^ b) = half a ^^^ half b := by
  unfold half
  rw [xor_mod2, xor_div2]
  have ha : a % 2 = 0 ∨ a % 2 = 1 := by omega
  have hb : b % 2 = 0 ∨ b % 2 = 1 := by omega
  rcases ha with ha | ha <;> rcases hb with hb | hb <;> simp [ha, hb]
  · ac_rfl
  · ac_rfl
  · have : ∀ x y p : Nat, x ^^^ y = x ^^^ p ^^^ (y ^^^ p) := fun x y p => by
      rw [show x ^^^ p ^^^ (y ^^^ p) = x ^^^ y ^^^ (p ^^^ p) from by ac_rfl, Nat.xor_self, Nat.xor_zero]
    exact this _ _ _

theorem halves_xor (a b : Nat) : ∀ k, halves k (a ^^^ b) = halves k a ^^^ halves k b
  | 0 => rfl
  | k + 1 => by rw [halves, halves, halves, halves_xor a b k, half_xor]

theorem half_double (t : Nat) : half (2 * t) = t := by
  unfold half
  rw [if_neg (by omega)]
  omega

theorem halves_half (k s : Nat) : halves k (half s) = half (halves k s) := by
  induction k with
  | zero => rfl
  | succ k ih => rw [halves, halves, ih]

theorem halves_add (j k s : Nat) : halves (j + k) s = halves j (halves k s) := by
  induction j with
  | zero => simp [halves]
  | succ j ih => rw [Nat.succ_add, halves, halves, ih]

theorem halves_pow (k t : Nat) : halves k (t * 2 ^ k) = t := by
  induction k generalizing t with
  | zero => simp [halves]
  | succ k ih =>
    have e : t * 2 ^ (k + 1) = 2 * (t * 2 ^ k) := by rw [Nat.pow_succ, ← Nat.mul_assoc, Nat.mul_comm]
    rw [e, halves, ← halves_half, half_double, ih]

theorem add_xor (x y : Nat) (k : Nat) (hx : x < 2 ^ k) : x + 2 ^ k * y = x ^^^ (y * 2 ^ k) := by
  apply Nat.eq_of_testBit_eq
  intro i
  rw [Nat.testBit_xor, Nat.add_comm, Nat.testBit_two_pow_mul_add _ hx, Nat.testBit_mul_two_pow]
  by_cases h : i < k
  · have h2 : ¬ k ≤ i := by omega
    simp [h, h2]
  · have : x.testBit i = false := Nat.testBit_lt_two_pow (Nat.lt_of_lt_of_le hx (Nat.pow_le_pow_right (by omega) (by omega)))
    have h2 : k ≤ i := by omega
    simp [h, this, h2]

/-- A text's inner state is the halving of its number. -/
theorem runC_eq (l : List Int) (hb : Byts l) : ∀ s, runC s l = halves (8 * l.length) (s ^^^ le l) := by
  induction l with
  | nil => intro s; simp [runC, le, halves]
  | cons x r ih =>
    intro s
    have hx : 0 ≤ x ∧ x < 256 := by simpa using hb 0
    have hr : Byts r := fun k => by simpa using hb (k + 1)
    have e1 : runC s (x :: r) = runC (halves 8 (s ^^^ x.toNat)) r := rfl
    have e2 : le (x :: r) = x.toNat ^^^ (le r * 2 ^ 8) := by
      show x.toNat + 256 * le r = _
      exact add_xor x.toNat (le r) 8 (by omega)
    have e3 : 8 * (x :: r).length = 8 * r.length + 8 := by simp; omega
    rw [e1, ih hr, e3, halves_add, e2, ← Nat.xor_assoc, halves_xor (s ^^^ x.toNat) (le r * 2 ^ 8) 8, halves_pow]

theorem half_lt {s : Nat} (h : s < 4294967296) : half s < 4294967296 := by
  unfold half
  split
  · exact Nat.xor_lt_two_pow (n := 32) (by omega) (by omega)
  · omega

theorem halves_lt {s : Nat} (h : s < 4294967296) : ∀ k, halves k s < 4294967296
  | 0 => h
  | k + 1 => half_lt (halves_lt h k)

theorem runC_lt (l : List Int) (hb : Byts l) : ∀ s, s < 4294967296 → runC s l < 4294967296 := by
  induction l with
  | nil => intro s h; exact h
  | cons x r ih =>
    intro s h
    have hx : 0 ≤ x ∧ x < 256 := by simpa using hb 0
    exact ih (fun k => by simpa using hb (k + 1)) _ (halves_lt (Nat.xor_lt_two_pow (n := 32) h (by omega)) 8)

theorem moreC_lt (sum : Nat) (l : List Int) : moreC sum l < 4294967296 := by unfold moreC; omega

theorem half_zero {s : Nat} (h : s < 4294967296) (h0 : half s = 0) : s = 0 := by
  unfold half at h0
  split at h0
  · have : s / 2 = 3988292384 := by
      have e : s / 2 ^^^ 3988292384 ^^^ 3988292384 = 0 ^^^ 3988292384 := by rw [h0]
      rw [Nat.xor_assoc, Nat.xor_self, Nat.xor_zero, Nat.zero_xor] at e
      exact e
    omega
  · omega

theorem halves_zero {s : Nat} (h : s < 4294967296) : ∀ k, halves k s = 0 → s = 0
  | 0, h0 => h0
  | k + 1, h0 => halves_zero h k (half_zero (halves_lt h k) h0)

/-- Going on with a sum. -/
theorem moreC_append (sum : Nat) (l m : List Int) (hs : sum < 4294967296) (hl : Byts l) : moreC (moreC sum l) m = moreC sum (l ++ m) := by
  have h1 := runC_lt l hl (4294967295 - sum) (by omega)
  unfold moreC
  have e : 4294967295 - (4294967295 - runC (4294967295 - sum) l) = runC (4294967295 - sum) l := by omega
  rw [e]
  simp [runC]

/-- Two texts changed by one another, byte by byte. -/
def xorL : List Int → List Int → List Int
  | x :: a, y :: b => ((x.toNat ^^^ y.toNat : Nat) : Int) :: xorL a b
  | _, _ => []

theorem xorL_length : ∀ (a b : List Int), a.length = b.length → (xorL a b).length = a.length
  | [], _, _ => by simp [xorL]
  | _ :: _, [], h => by simp at h
  | x :: a, y :: b, h => by simp [xorL, xorL_length a b (by simpa using h)]

theorem xorL_getD : ∀ (a b : List Int) (k : Nat), a.length = b.length → k < a.length → (xorL a b).getD k 0 = (((a.getD k 0).toNat ^^^ (b.getD k 0).toNat : Nat) : Int)
  | [], _, _, _, h => by simp at h
  | _ :: _, [], _, h, _ => by simp at h
  | x :: a, y :: b, 0, _, _ => by simp [xorL]
  | x :: a, y :: b, k + 1, h, hk => by
    have := xorL_getD a b k (by simpa using h) (by simpa using hk)
    simpa [xorL] using this

theorem xor_byte {x y : Int} (hx : 0 ≤ x ∧ x < 256) (hy : 0 ≤ y ∧ y < 256) : x.toNat ^^^ y.toNat < 256 := Nat.xor_lt_two_pow (n := 8) (by omega) (by omega)

theorem Byts.cons {x : Int} {r : List Int} (h : Byts (x :: r)) : (0 ≤ x ∧ x < 256) ∧ Byts r := ⟨by simpa using h 0, fun k => by simpa using h (k + 1)⟩

theorem Byts.mk {x : Int} {r : List Int} (hx : 0 ≤ x ∧ x < 256) (h : Byts r) : Byts (x :: r) := by
  intro k
  match k with
  | 0 => simpa using hx
  | k + 1 => simpa using h k

theorem Byts.xorL : ∀ {a b : List Int}, Byts a → Byts b → Byts (xorL a b)
  | [], _, _, _ => by intro k; simp [Oct.xorL]
  | _ :: _, [], _, _ => by intro k; simp [Oct.xorL]
  | x :: a, y :: b, ha, hb => by
    have h := xor_byte ha.cons.1 hb.cons.1
    exact Byts.mk (by omega) (Byts.xorL ha.cons.2 hb.cons.2)

theorem le_cons {x : Int} {r : List Int} (hx : 0 ≤ x ∧ x < 256) : le (x :: r) = x.toNat ^^^ (le r * 2 ^ 8) := by
  show x.toNat + 256 * le r = _
  exact add_xor x.toNat (le r) 8 (by omega)

theorem xor_mul (a b k : Nat) : (a * 2 ^ k) ^^^ (b * 2 ^ k) = (a ^^^ b) * 2 ^ k := by
  have := Nat.shiftLeft_xor_distrib (a := a) (b := b) (i := k)
  simp only [Nat.shiftLeft_eq] at this
  exact this.symm

theorem le_xorL : ∀ (a b : List Int), a.length = b.length → Byts a → Byts b → le (xorL a b) = le a ^^^ le b
  | [], [], _, _, _ => rfl
  | [], _ :: _, h, _, _ => by simp at h
  | _ :: _, [], h, _, _ => by simp at h
  | x :: a, y :: b, h, ha, hb => by
    have hx := ha.cons.1
    have hy := hb.cons.1
    have hxy := xor_byte hx hy
    have e : xorL (x :: a) (y :: b) = ((x.toNat ^^^ y.toNat : Nat) : Int) :: xorL a b := rfl
    rw [e, le_cons (by omega), le_cons hx, le_cons hy, le_xorL a b (by simpa using h) ha.cons.2 hb.cons.2, ← xor_mul, Int.toNat_natCast]
    ac_rfl

/-- The inner states of three equally long texts go together. -/
theorem runC_three (s : Nat) (a b c : List Int) (hb : a.length = b.length) (hc : a.length = c.length) (ha : Byts a) (hb' : Byts b) (hc' : Byts c) :
    runC s a ^^^ runC s b ^^^ runC s c = runC s (xorL (xorL a b) c) := by
  have h1 := xorL_length a b hb
  have h2 := xorL_length (xorL a b) c (by omega)
  rw [runC_eq a ha, runC_eq b hb', runC_eq c hc', runC_eq _ ((ha.xorL hb').xorL hc'), h2, h1, ← hb, ← hc, ← halves_xor, ← halves_xor,
    le_xorL (xorL a b) c (by omega) (ha.xorL hb') hc', le_xorL a b hb ha hb']
  congr 1
  have e : ∀ s a b c : Nat, s ^^^ a ^^^ (s ^^^ b) ^^^ (s ^^^ c) = s ^^^ (a ^^^ b ^^^ c) := fun s a b c => by
    rw [show s ^^^ a ^^^ (s ^^^ b) ^^^ (s ^^^ c) = (s ^^^ s) ^^^ (s ^^^ (a ^^^ b ^^^ c)) from by ac_rfl, Nat.xor_self, Nat.zero_xor]
  exact e _ _ _ _
end Go.Proofs.YtibkhgmmjhlpmaaGreat.Oct

namespace Go.Proofs.YtibkhgmmjhlpmaaGreat.Oct
open Go.RowKit Go.ChangeShapes Go.WideShapes Go.ChangeAt

theorem own : ownKnob Tryz.prog.godebug = none := by kernel_rfl
theorem laidOut : laidOutB Tryz.prog = true := by kernel_rfl
theorem cells5 : Tryz.prog.cellsOf 5 = 1 := by kernel_rfl

theorem wf_u8 {n : Int} (h : (Lit.int .u8 n).wf = true) : 0 ≤ n ∧ n < 256 := by
  have : 0 ≤ n ∧ n ≤ 255 := by simpa [Lit.wf, IntKind.min, IntKind.max, IntKind.signed, IntKind.bits] using h
  omega

theorem wf_i64 {n : Int} (h : (Lit.int .i64 n).wf = true) : -9223372036854775808 ≤ n ∧ n ≤ 9223372036854775807 := by
  simpa [Lit.wf, IntKind.min, IntKind.max, IntKind.signed, IntKind.bits] using h

theorem wf_u64 {n : Int} (h : (Lit.int .u64 n).wf = true) : 0 ≤ n ∧ n < 18446744073709551616 := by
  have : 0 ≤ n ∧ n ≤ 18446744073709551615 := by simpa [Lit.wf, IntKind.min, IntKind.max, IntKind.signed, IntKind.bits] using h
  omega

theorem wf_u32 {n : Int} (h : (Lit.int .u32 n).wf = true) : 0 ≤ n ∧ n < 4294967296 := by
  have : 0 ≤ n ∧ n ≤ 4294967295 := by simpa [Lit.wf, IntKind.min, IntKind.max, IntKind.signed, IntKind.bits] using h
  omega

theorem byts_of {l : List Int} (h : ∀ n ∈ l, (Lit.int .u8 n).wf = true) : Byts l := by
  intro k
  rw [List.getD_eq_getElem?_getD]
  rcases Nat.lt_or_ge k l.length with hk | hk
  · rw [List.getElem?_eq_getElem hk]
    exact wf_u8 (h _ (List.getElem_mem hk))
  · rw [List.getElem?_eq_none hk]
    simp

theorem open_bytes_trod {H : Type} {enc : TypeId × Value → H} {W : World} {fuel : Nat} {v : Value} {x : DataW H × List MemPlace}
    (hf : DataW.trod enc Tryz.prog W 0 (fun _ => true) true fuel 29 [v] = some x) :
    ∃ a cap l, v = .slice a l.length cap ∧ l.length ≤ maxLen ∧ Byts l ∧ Lies W a l ∧ Sl W a cap l := by
  rcases open_ints Tryz.underlying29 Tryz.underlying5 cells5 hf with ⟨hcs, _⟩ | ⟨a, len, cap, zs, hcs, _, hl, hm, hz, _, hcell, hwz⟩
  · simp at hcs
    subst hcs
    exact ⟨none, 0, [], rfl, by simp, byts_of (by simp), Or.inl rfl, ⟨by simp, by simp, fun _ => rfl, Or.inl rfl⟩⟩
  · simp at hcs
    subst hcs
    simp only [if_true] at hz
    have el : (zs.take len).length = len := by simp; omega
    have hL : Lies W (some a) (zs.take len) := by
      by_cases h0 : len = 0
      · left; subst h0; simp
      · obtain ⟨b, off, rfl, hc⟩ := ints_at hcell (by omega)
        refine Lies.mk fun k hk => ?_
        rw [el] at hk
        rw [hc k (by omega)]
        simp [hk]
    exact ⟨some a, cap, zs.take len, by rw [el], by omega, byts_of (fun n hn => hwz n (List.mem_of_mem_take hn)), hL, ⟨by omega, hm, fun h => (by cases h), hL⟩⟩

set_option maxRecDepth 100000 in
/-- A list of bytes that came in. -/
theorem open_bytes {H : Type} {enc : TypeId × Value → H} {W : World} {base : Nat} {v : Value} {d : DataW H} {ps : List MemPlace}
    (hok : Value.okWide Tryz.prog W .any base 29 v) (h : DataW.Trod enc Tryz.prog W 0 (fun _ => true) true 29 v d ps) :
    ∃ a cap l, v = .slice a l.length cap ∧ l.length ≤ maxLen ∧ Byts l ∧ Lies W a l ∧ Sl W a cap l := by
  obtain ⟨a0, len, cap, rfl⟩ := okWide_slice Tryz.underlying29 hok
  obtain ⟨fuel, hf⟩ := h
  exact open_bytes_trod (by simpa [Value.cells] using hf)

theorem open_int_trod {H : Type} {enc : TypeId × Value → H} {W : World} {fuel : Nat} {t : TypeId} {k : IntKind} {v : Value} {x : DataW H × List MemPlace} (ht : Tryz.prog.underlying t = some (.int k))
    (hf : DataW.trod enc Tryz.prog W 0 (fun _ => true) true fuel t [v] = some x) : ∃ n, v = .int k n ∧ (Lit.int k n).wf = true := by
  obtain ⟨n, h, _, hw⟩ := DataW.trod_int ht hf
  simp at h
  exact ⟨n, h, hw⟩
end Go.Proofs.YtibkhgmmjhlpmaaGreat.Oct

namespace Go.Proofs.YtibkhgmmjhlpmaaGreat.Oct
open Go.RowKit Go.ChangeShapes Go.WideShapes Go.ChangeAt

/-- Lists of bytes, one behind the other, from the address on. -/
def Pts (w : World) (a : Option Addr) (Ls : List (List Int)) : Prop :=
  Ls = [] ∨ ∃ b off, a = some ⟨b, off, none⟩ ∧ b < w.heap.size ∧ ∀ r, r < Ls.length → ∃ ar cr, w.cell? ⟨b, off + r, none⟩ = some (.slice ar (Ls.getD r []).length cr) ∧ Sl w ar cr (Ls.getD r [])

theorem Pts.below {w w' : World} {a : Option Addr} {Ls : List (List Int)} (h : Pts w a Ls) (hb : Below w.heap.size w w') : Pts w' a Ls := by
  rcases h with rfl | ⟨b, off, rfl, hlt, hc⟩
  · exact Or.inl rfl
  · refine Or.inr ⟨b, off, rfl, Nat.lt_of_lt_of_le hlt hb.size, fun r hr => ?_⟩
    obtain ⟨ar, cr, h1, h2⟩ := hc r hr
    exact ⟨ar, cr, (hb.cell (p := ⟨b, off + r, none⟩) hlt).trans h1, h2.below hb⟩

/-- All are bytes. -/
def Bytss (Ls : List (List Int)) : Prop := ∀ r, Byts (Ls.getD r [])

theorem cells22 : Tryz.prog.cellsOf 29 = 1 := by kernel_rfl

theorem open_parts_trod {H : Type} {enc : TypeId × Value → H} {W : World} {fuel : Nat} {v : Value} {x : DataW H × List MemPlace}
    (hf : DataW.trod enc Tryz.prog W 0 (fun _ => true) true fuel 154 [v] = some x) :
    ∃ a cap Ls, v = .slice a Ls.length cap ∧ Ls.length ≤ maxLen ∧ Bytss Ls ∧ Pts W a Ls := by
  rcases Go.Deep.open_int_rows Tryz.underlying154 Tryz.underlying29 Tryz.underlying5 cells22 cells5 hf with ⟨hcs, _⟩ | ⟨a, len, cap, A, L, C, Z, hcs, _, hl, hm, _, hrow⟩
  · simp at hcs
    subst hcs
    exact ⟨none, 0, [], rfl, by simp, fun r => by simpa using byts_of (by simp), Or.inl rfl⟩
  · simp at hcs
    subst hcs
    obtain ⟨Ls, hLs⟩ : ∃ Ls, Ls = (List.range len).map fun r => (Z r).take (L r) := ⟨_, rfl⟩
    have hlen : Ls.length = len := by rw [hLs]; simp
    have hget : ∀ r, r < len → Ls.getD r [] = (Z r).take (L r) := fun r hr => by rw [hLs]; simp [hr]
    refine ⟨some a, cap, Ls, by rw [hlen], by omega, fun r => ?_, ?_⟩
    · rcases Nat.lt_or_ge r len with hr | hr
      · rw [hget r hr]
        exact byts_of (fun n hn => (hrow r (by omega)).2.2.2.2.1 n (List.mem_of_mem_take hn))
      · have : Ls.getD r [] = [] := by rw [List.getD_eq_getElem?_getD, List.getElem?_eq_none (by omega)]; rfl
        rw [this]
        exact byts_of (by simp)
    · by_cases h0 : len = 0
      · left; exact List.length_eq_zero_iff.1 (by omega)
      · obtain ⟨b, off, spot⟩ := a
        have hspot : spot = none := by simpa [Addr.add] using World.cell?_spot (hrow 0 (by omega)).1
        subst hspot
        refine Or.inr ⟨b, off, rfl, ?_, fun r hr => ?_⟩
        · have h1 := (hrow 0 (by omega)).1
          rw [Go.WideShapes.add_plain] at h1
          exact lt_of_cell h1
        · rw [hlen] at hr
          obtain ⟨h1, h2, h3, h4, h5, h6, h7⟩ := hrow r (by omega)
          rw [Go.WideShapes.add_plain] at h1
          have el : ((Z r).take (L r)).length = L r := by simp; omega
          refine ⟨A r, C r, by rw [hget r hr, el]; exact h1, ?_⟩
          rw [hget r hr]
          refine ⟨by omega, h3, h6, ?_⟩
          cases ha : A r with
          | none => left; have := h6 ha; exact List.length_eq_zero_iff.1 (by omega)
          | some a' =>
            by_cases hz : L r = 0
            · left; exact List.length_eq_zero_iff.1 (by omega)
            · obtain ⟨_, hc⟩ := h7 a' ha
              obtain ⟨b', off', rfl, hc'⟩ := ints_at (zs := Z r) (fun i hi => hc i (by omega)) (by omega)
              refine Lies.mk fun k hk => ?_
              rw [el] at hk
              rw [hc' k (by omega)]
              simp [hk]

set_option maxRecDepth 100000 in
theorem open_parts {H : Type} {enc : TypeId × Value → H} {W : World} {base : Nat} {v : Value} {d : DataW H} {ps : List MemPlace}
    (hok : Value.okWide Tryz.prog W .any base 154 v) (h : DataW.Trod enc Tryz.prog W 0 (fun _ => true) true 154 v d ps) :
    ∃ a cap Ls, v = .slice a Ls.length cap ∧ Ls.length ≤ maxLen ∧ Bytss Ls ∧ Pts W a Ls := by
  obtain ⟨a0, len, cap, rfl⟩ := okWide_slice Tryz.underlying154 hok
  obtain ⟨fuel, hf⟩ := h
  exact open_parts_trod (by simpa [Value.cells] using hf)

theorem flat_step (Ls : List (List Int)) (k : Nat) (hk : k < Ls.length) : (Ls.take (k + 1)).flatten = (Ls.take k).flatten ++ Ls.getD k [] := by
  rw [List.take_succ_eq_append_getElem hk, List.flatten_append]
  simp [hk]

theorem flat_le (Ls : List (List Int)) (k : Nat) : (Ls.take k).flatten.length ≤ Ls.flatten.length := by
  have h : (Ls.take k).flatten.length + (Ls.drop k).flatten.length = Ls.flatten.length := by
    rw [← List.length_append, ← List.flatten_append, List.take_append_drop]
  omega

theorem flat_all (Ls : List (List Int)) : Ls.take Ls.length = Ls := List.take_of_length_le (Nat.le_refl _)

theorem flat_bound (Ls : List (List Int)) (m : Nat) : ∀ k, k ≤ Ls.length → (∀ r, r < k → (Ls.getD r []).length ≤ m) → (Ls.take k).flatten.length ≤ m * k
  | 0, _, _ => by simp
  | k + 1, hk, h => by
    rw [flat_step Ls k (by omega), List.length_append]
    have h1 := flat_bound Ls m k (by omega) (fun r hr => h r (by omega))
    have h2 := h k (by omega)
    rw [Nat.mul_succ]
    omega

theorem Byts.flat {Ls : List (List Int)} (h : Bytss Ls) : ∀ k, k ≤ Ls.length → Byts (Ls.take k).flatten
  | 0, _ => by intro j; simp
  | k + 1, hk => by
    rw [flat_step Ls k (by omega)]
    exact (Byts.flat h k (by omega)).append (h k)

end Go.Proofs.YtibkhgmmjhlpmaaGreat.Oct

namespace Go.Proofs.YtibkhgmmjhlpmaaGreat.Oct
open Go.RowKit

theorem xor_ones (s : Nat) (h : s < 4294967296) : 4294967295 ^^^ s = 4294967295 - s := by
  have e1 : (BitVec.allOnes 32 ^^^ BitVec.ofNat 32 s).toNat = (~~~ (BitVec.ofNat 32 s)).toNat := by rw [BitVec.not_def]
  rw [BitVec.toNat_xor, BitVec.toNat_not, BitVec.toNat_allOnes, BitVec.toNat_ofNat, Nat.mod_eq_of_lt (by omega)] at e1
  simpa using e1

theorem not_u32 (s : Nat) (h : s < 4294967296) : bits .xor .u32 IntKind.u32.max (s : Int) = ((4294967295 - s : Nat) : Int) := by
  have e : IntKind.u32.max = ((4294967295 : Nat) : Int) := by decide
  rw [e, u32_xor_nat 4294967295 s (by omega) h, xor_ones s h]

theorem half_u32 (t : Nat) (h : t < 4294967296) : bits .xor .u32 ((t : Int) / 2) (bits .and .u32 (t : Int) 1 * 3988292384 % 4294967296) = (half t : Int) := by
  have e1 : bits .and .u32 (t : Int) 1 = ((t % 2 : Nat) : Int) := by
    rw [show (1 : Int) = ((1 : Nat) : Int) from rfl, u32_and_nat t 1 h (by omega), nat_mask1]
  rw [e1]
  unfold half
  by_cases h2 : t % 2 = 1
  · rw [if_pos h2, h2]
    have e2 : (((1 : Nat) : Int) * 3988292384 % 4294967296) = ((3988292384 : Nat) : Int) := by decide
    rw [e2, show ((t : Int) / 2) = ((t / 2 : Nat) : Int) from by omega, u32_xor_nat (t / 2) _ (by omega) (by omega)]
  · have h3 : t % 2 = 0 := by omega
    rw [if_neg h2, h3]
    have e2 : (((0 : Nat) : Int) * 3988292384 % 4294967296) = ((0 : Nat) : Int) := by decide
    rw [e2, show ((t : Int) / 2) = ((t / 2 : Nat) : Int) from by omega, u32_xor_nat (t / 2) _ (by omega) (by omega), Nat.xor_zero]

theorem xor_u32 (s : Nat) (x : Int) (h : s < 4294967296) (hx : 0 ≤ x ∧ x < 256) : bits .xor .u32 (s : Int) x = ((s ^^^ x.toNat : Nat) : Int) := by
  obtain ⟨x, rfl⟩ := Int.eq_ofNat_of_zero_le hx.1
  rw [u32_xor_nat s x h (by omega), Int.toNat_natCast]

theorem runC_step (s : Nat) (l : List Int) (k : Nat) (hk : k < l.length) : runC s (l.take (k + 1)) = halves 8 (runC s (l.take k) ^^^ (l.getD k 0).toNat) := by
  unfold runC
  rw [List.take_succ_eq_append_getElem hk, List.foldl_append, List.getD_eq_getElem?_getD, List.getElem?_eq_getElem hk]
  rfl

theorem moreC_def (sum : Nat) (l : List Int) : (moreC sum l : Int) = ((4294967295 - runC (4294967295 - sum) l : Nat) : Int) := rfl

theorem ret_int {k : IntKind} {a b : Int} (h : a = b) : Ending.returned (.int k a) = .returned (.int k b) := by rw [h]

set_option maxHeartbeats 1000000 in
theorem More_some (b off cap : Nat) (l : List Int) (sum : Nat) (w : World) (hlen : l.length ≤ maxLen) (hb : Byts l) (hs : sum < 4294967296)
    (hc : ∀ k, k < l.length → w.cell? ⟨b, off + k, none⟩ = some (.int .u8 (l.getD k 0))) :
    Calls Tryz.prog 95 #[.int .u32 sum, .slice (some ⟨b, off, none⟩) l.length cap] w fun e w' => e = .returned (.int .u32 (moreC sum l)) ∧ w' = w := by
  unfold maxLen at hlen
  have HC := hide hc
  have HBY := hide hb
  clear hc hb
  go_enter Tryz.func95, Tryz.ntmps95
  go_wp2_with fail
  go_loop [5, 13] (fun s i => ∃ k : Nat, k ≤ l.length ∧ i = .int .i64 k ∧ s = .int .u32 (runC (4294967295 - sum) (l.take k))) (fun _ i => l.length - (intOf i).toNat)
  case atStart => exact ⟨0, by omega, rfl, by rw [not_u32 sum hs]; rfl⟩
  case round =>
    obtain ⟨k, hk, rfl, rfl⟩ := hrel
    have HR := hide (runC_lt (l.take k) (HBY.out.take k) (4294967295 - sum) (by omega))
    by_cases hlt : k < l.length
    · have hcell := HC.out k hlt
      have hx0 := HBY.out k
      have HST := hide (runC_step (4294967295 - sum) l k hlt)
      generalize hx : l.getD k 0 = x at *
      generalize hS : runC (4294967295 - sum) (l.take k) = S at *
      have HX := hide hx
      have HS := hide hS
      clear hx hS
      have HSX : Hid (S ^^^ x.toNat < 4294967296) := Nat.xor_lt_two_pow (n := 32) HR.out (by omega)
      have HXU := hide (xor_u32 S x HR.out hx0)
      go_wp2_with fail
      go_loop [5, 21] (fun s i => ∃ j : Nat, j ≤ 8 ∧ i = .int .i64 j ∧ s = .int .u32 (halves j (S ^^^ x.toNat))) (fun _ i => 8 - (intOf i).toNat)
      case atStart => exact ⟨0, by omega, rfl, by rw [HXU.out]; rfl⟩
      case round =>
        obtain ⟨j, hj, rfl, rfl⟩ := hrel
        by_cases hlt8 : j < 8
        · have HT := hide (halves_lt HSX.out j)
          have HN : Hid (halves (j + 1) (S ^^^ x.toNat) = half (halves j (S ^^^ x.toNat))) := rfl
          generalize halves j (S ^^^ x.toNat) = t at *
          go_wp2_with fail
          go_round
          case rel => exact ⟨j + 1, by omega, by go_num, by rw [half_u32 t HT.out, HN.out]⟩
          case measure => simp [intOf]; omega
        · obtain rfl : j = 8 := by omega
          go_wp2_with fail
          go_round
          case rel => exact ⟨k + 1, by omega, by go_num, by rw [HST.out]⟩
          case measure => simp [intOf]; omega
    · obtain rfl : k = l.length := by omega
      go_wp2_with fail
      go_ret
      refine ⟨ret_int ?_, rfl⟩
      have h := HR.out
      rw [List.take_of_length_le (Nat.le_refl _)] at h
      rw [not_u32 _ h, moreC_def]

set_option maxHeartbeats 400000 in
theorem More_empty (a : Option Addr) (cap : Nat) (sum : Nat) (w : World) (hs : sum < 4294967296) :
    Calls Tryz.prog 95 #[.int .u32 sum, .slice a 0 cap] w fun e w' => e = .returned (.int .u32 (moreC sum [])) ∧ w' = w := by
  go_enter Tryz.func95, Tryz.ntmps95
  go_wp2_with fail
  refine wp_loop_rounds 1 ?_
  rw [rounds_succ]
  go_wp2_with fail
  go_ret
  refine ⟨ret_int ?_, rfl⟩
  rw [not_u32 sum hs, not_u32 _ (by omega)]
  rfl

theorem More_any (a : Option Addr) (cap : Nat) (l : List Int) (sum : Nat) (w : World) (hlen : l.length ≤ maxLen) (hb : Byts l) (hs : sum < 4294967296) (hl : Lies w a l) :
    Calls Tryz.prog 95 #[.int .u32 sum, .slice a l.length cap] w fun e w' => e = .returned (.int .u32 (moreC sum l)) ∧ w' = w := by
  rcases hl with rfl | ⟨b, off, rfl, _, hc⟩
  · exact More_empty a cap sum w hs
  · exact More_some b off cap l sum w hlen hb hs hc

theorem moreC_nil : moreC 0 [] = 0 := by simp [moreC, runC]

/-- The sum of parts. -/
theorem flatC (Ls : List (List Int)) (hb : Bytss Ls) (k : Nat) (hk : k < Ls.length) : moreC (moreC 0 (Ls.take k).flatten) (Ls.getD k []) = moreC 0 (Ls.take (k + 1)).flatten := by
  rw [moreC_append 0 _ _ (by omega) (Byts.flat hb k (by omega)), flat_step Ls k hk]

set_option maxHeartbeats 1000000 in
theorem Sum_any (a : Option Addr) (cap : Nat) (Ls : List (List Int)) (w : World) (hn : Ls.length ≤ maxLen) (hsm : ∀ r, (Ls.getD r []).length ≤ maxLen) (hb : Bytss Ls) (hp : Pts w a Ls) :
    Calls Tryz.prog 76 #[.slice a Ls.length cap] w fun e w' => e = .returned (.int .u32 (moreC 0 Ls.flatten)) ∧ w' = w := by
  unfold maxLen at hn
  have HP := hide hp
  have HBs := hide hb
  have HSM := hide hsm
  clear hp hb hsm
  go_enter Tryz.func76, Tryz.ntmps76
  go_wp2_with fail
  go_loop [3, 8] (fun s i => ∃ k : Nat, k ≤ Ls.length ∧ i = .int .i64 k ∧ s = .int .u32 (moreC 0 (Ls.take k).flatten)) (fun _ i => Ls.length - (intOf i).toNat)
  case atStart => exact ⟨0, by omega, rfl, by rw [List.take_zero, List.flatten_nil, moreC_nil]; rfl⟩
  case round =>
    obtain ⟨k, hk, rfl, rfl⟩ := hrel
    by_cases hlt : k < Ls.length
    · rcases HP.out with hE | ⟨b, off, rfl, hblt, hc⟩
      · rw [hE] at hlt
        simp at hlt
      obtain ⟨ar, cr, hcell, hsl0⟩ := hc k hlt
      have HSL := hide hsl0.lies
      have HST := hide (flatC Ls HBs.out k hlt)
      have HB := hide (HBs.out k)
      have HQ := hide (HSM.out k)
      clear hc hsl0
      generalize Ls.getD k [] = q at *
      generalize hS : moreC 0 (Ls.take k).flatten = S at *
      have HS : Hid (S < 4294967296) := by rw [← hS]; exact moreC_lt _ _
      clear hS
      go_wp2_with (go_at_call 95; refine (More_any ar cr q S _ HQ.out HB.out HS.out HSL.out).mono ?_; rintro e w' ⟨rfl, rfl⟩)
      go_round
      case rel => exact ⟨k + 1, by omega, by go_num, by rw [HST.out]⟩
      case measure => simp [intOf]; omega
    · obtain rfl : k = Ls.length := by omega
      rw [flat_all]
      go_wp2_with fail
      go_ret
      exact ⟨rfl, rfl⟩

/-- The sum of one text. -/
theorem Sum_one (a : Option Addr) (n cap : Nat) (l : List Int) (w : World) (H : Nat) (hH : w.heap.size = H) (hnl : n = l.length) (hlen : l.length ≤ maxLen) (hb : Byts l) (hs : Sl w a cap l) :
    Calls Tryz.prog 76 #[.slice (some ⟨H, 0, none⟩) 1 1] (w.alloc (.cells #[.slice a n cap] 29)) fun e w' =>
      e = .returned (.int .u32 (moreC 0 l)) ∧ w' = (w.alloc (.cells #[.slice a n cap] 29)) := by
  subst hH hnl
  have := Sum_any (some ⟨w.heap.size, 0, none⟩) 1 [l] (w.alloc (.cells #[.slice a l.length cap] 29)) (by unfold maxLen; simp) (fun r => by
    match r with
    | 0 => simpa using hlen
    | r + 1 => simp) (fun r => by
    match r with
    | 0 => simpa using hb
    | r + 1 => intro k; simp) (Or.inr ⟨w.heap.size, 0, rfl, by simp, fun r hr => by
      have : r = 0 := by simpa using hr
      subst this
      exact ⟨a, cap, by simp, by simpa using hs.below ((Below.refl _ _).alloc (Nat.le_refl _) _)⟩⟩)
  simpa using this

/-- The same, the new block left aside. -/
theorem Sum_one' (a : Option Addr) (n cap : Nat) (l : List Int) (w : World) (H : Nat) (hH : w.heap.size = H) (hnl : n = l.length) (hlen : l.length ≤ maxLen) (hb : Byts l) (hs : Sl w a cap l) :
    Calls Tryz.prog 76 #[.slice (some ⟨H, 0, none⟩) 1 1] (w.alloc (.cells #[.slice a n cap] 29)) fun e w' =>
      e = .returned (.int .u32 (moreC 0 l)) ∧ Below w.heap.size w w' := by
  refine (Sum_one a n cap l w H hH hnl hlen hb hs).mono ?_
  rintro e w' ⟨rfl, rfl⟩
  exact ⟨rfl, (Below.refl _ _).alloc (Nat.le_refl _) _⟩

theorem known_sum : moreC 0 [49, 50, 51, 52, 53, 54, 55, 56, 57] = 3421780262 := by decide +kernel

theorem lies_marked (w : World) (cs : List Int) (fr : Nat × Nat) : Lies (w.alloc (.cells (cs.map (Value.int .u8)).toArray 5 fr)) (some ⟨w.heap.size, 0, none⟩) cs := by
  refine Lies.mk fun k hk => ?_
  have h := heap_alloc_new w (.cells (cs.map (Value.int .u8)).toArray 5 fr)
  unfold World.cell?
  simp only [h]
  simp [hk]

theorem byts9 : Byts [49, 50, 51, 52, 53, 54, 55, 56, 57] := by
  intro k
  match k with
  | 0 => simp
  | 1 => simp
  | 2 => simp
  | 3 => simp
  | 4 => simp
  | 5 => simp
  | 6 => simp
  | 7 => simp
  | 8 => simp
  | k + 9 => simp

end Go.Proofs.YtibkhgmmjhlpmaaGreat.Oct
