/- A file as lists: it is read. -/
import Derived.Test.YtibkhgmmjhlpmaaGreatPWrtCrsFlu
import Derived.Test.YtibkhgmmjhlpmaaGreatPTxbTak
namespace Go.Proofs.YtibkhgmmjhlpmaaGreat.Oct
open Go.RowKit Go.Deep

/-- Bytes behind a write, wherever its bytes lie. -/
def laidD (d : Nat × List Int × Bool) (l : List Int) : List Int :=
  if d.2.2 = true ∧ d.1 < l.length then l.take d.1 else over (l ++ List.replicate (d.1 + d.2.1.length - l.length) 0) d.1 d.2.1

def laidsD (l : List Int) (D : List (Nat × List Int × Bool)) : List Int := D.foldl (fun m d => laidD d m) l

theorem laid_dat (r : Wr) (l : List Int) : laid r l = laidD r.dat l := rfl

theorem laidAll_dat (R : List Wr) : ∀ l, laidAll l R = laidsD l (R.map Wr.dat) := by
  induction R with
  | nil => intro l; rfl
  | cons r R ih => intro l; exact ih (laid r l)

theorem laidsD_append (l : List Int) (D E : List (Nat × List Int × Bool)) : laidsD l (D ++ E) = laidsD (laidsD l D) E := by simp [laidsD]

def SmallD (D : List (Nat × List Int × Bool)) : Prop := ∀ d ∈ D, d.1 + d.2.1.length ≤ 4194304

theorem small_dat {R : List Wr} (h : SmallD (R.map Wr.dat)) : Small R := fun r hr => h r.dat (List.mem_map_of_mem hr)

theorem laidD_le (d : Nat × List Int × Bool) (l : List Int) (hl : l.length ≤ 4194304) (hd : d.1 + d.2.1.length ≤ 4194304) : (laidD d l).length ≤ 4194304 := by
  unfold laidD
  split
  · simp; omega
  · rw [over_length (over_pad _ _ _)]
    simp
    omega

theorem laidsD_le (D : List (Nat × List Int × Bool)) : ∀ l, l.length ≤ 4194304 → SmallD D → (laidsD l D).length ≤ 4194304 := by
  induction D with
  | nil => intro l hl _; exact hl
  | cons d D ih =>
    intro l hl hD
    exact ih (laidD d l) (laidD_le d l hl (hD d (by simp))) (fun x hx => hD x (by simp [hx]))

theorem cuts_small (n : Nat) : ∀ (at_ : Nat) (p : List Int), p.length ≤ n → at_ + p.length ≤ 4194304 → SmallD (cuts at_ p) := by
  induction n with
  | zero =>
    intro at_ p hn _ d hd
    have : p = [] := List.length_eq_zero_iff.1 (by omega)
    rw [this, cuts_nil] at hd
    simp at hd
  | succ n ih =>
    intro at_ p hn hle
    by_cases hp : p = []
    · intro d hd
      rw [hp, cuts_nil] at hd
      simp at hd
    · have hpos := List.length_pos_iff.2 hp
      have hm : at_ % 512 < 512 := Nat.mod_lt _ (by omega)
      rw [cuts_step at_ p _ hp rfl]
      intro d hd
      rcases List.mem_cons.1 hd with rfl | hd
      · simp
        omega
      · exact ih _ _ (by simp; omega) (by simp; omega) d hd

theorem cuts_le (n : Nat) : ∀ (at_ : Nat) (p : List Int), p.length ≤ n → (cuts at_ p).length ≤ p.length := by
  induction n with
  | zero =>
    intro at_ p hn
    have : p = [] := List.length_eq_zero_iff.1 (by omega)
    rw [this, cuts_nil]
    simp
  | succ n ih =>
    intro at_ p hn
    by_cases hp : p = []
    · rw [hp, cuts_nil]
      simp
    · have hpos := List.length_pos_iff.2 hp
      have hm : at_ % 512 < 512 := Nat.mod_lt _ (by omega)
      rw [cuts_step at_ p _ hp rfl]
      have h1 := ih (at_ + min (512 - at_ % 512) p.length) (p.drop (min (512 - at_ % 512) p.length)) (by simp; omega)
      simp only [List.length_cons, List.length_drop] at h1 ⊢
      omega

/-- A file as lists: what is seen, what is safe, what waits. -/
structure A3 where
  S : List Int
  T : List Int
  D : List (Nat × List Int × Bool)

/-- An operation: bytes are written at a place; all is flushed; bytes are read. -/
inductive AO where
  | wr (p : Nat) (b : List Int)
  | fl
  | rd

def AO.on : AO → A3 → A3
  | .wr p b, A => ⟨laidsD A.S (cuts p b), A.T, A.D ++ cuts p b⟩
  | .fl, A => ⟨A.S, laidsD A.T A.D, []⟩
  | .rd, A => A

def AO.cost : AO → Nat
  | .wr _ b => b.length + 1
  | _ => 1

def doAll (os : List AO) (A : A3) : A3 := os.foldl (fun A o => o.on A) A
def costs (os : List AO) : Nat := (os.map AO.cost).sum

theorem doAll_append (os ps : List AO) (A : A3) : doAll (os ++ ps) A = doAll ps (doAll os A) := by simp [doAll]
theorem costs_append (os ps : List AO) : costs (os ++ ps) = costs os + costs ps := by simp [costs]

/-- What so many operations answer, one behind the other. -/
def cod (l k : Nat) : Int := if l ≤ k then 0 else 5
theorem cod_ok {l k : Nat} (h : l ≤ k) : cod l k = 0 := if_pos h
theorem cod_no {l k : Nat} (h : ¬ l ≤ k) : cod l k = 5 := if_neg h

/-- How many operations more are done. -/
def Bud (f : Fs) (k : Nat) : Prop := f.refuse = 0 ∧ ((f.stop = 0 ∧ 1000000 < f.ops + k) ∨ (0 < f.stop ∧ (k : Int) = max (f.stop - 1 - f.ops) 0))

theorem Bud.said {f : Fs} {k : Nat} (h : Bud f k) (h0 : 0 ≤ f.ops) (h1 : f.ops ≤ 1000000) : f.said = if 1 ≤ k then 0 else 5 := by
  obtain ⟨h2, h3 | h3⟩ := h
  · rw [if_pos (by omega)]
    unfold Fs.said
    rw [if_neg (by omega)]
  · unfold Fs.said
    by_cases hk : 1 ≤ k
    · rw [if_pos hk, if_neg (by omega)]
    · rw [if_neg hk, if_pos (by omega)]

theorem Bud.next {f f' : Fs} {k : Nat} (h : Bud f k) (h0 : 0 ≤ f.ops) (h1 : f.ops ≤ 1000000) (ho : f'.ops = f.ops + 1) (hr : f'.refuse = f.refuse) (hs : f'.stop = f.stop) : Bud f' (k - 1) := by
  obtain ⟨h2, h3 | h3⟩ := h
  · exact ⟨by omega, Or.inl ⟨by omega, by omega⟩⟩
  · exact ⟨by omega, Or.inr ⟨by omega, by omega⟩⟩

/-- A file in memory: it is these lists, so many operations are done more; n bounds what was done. -/
structure Fl (w : World) (X : Nat → Prop) (F : Nat) (f : Fs) (A : A3) (k n : Nat) : Prop where
  has : ∃ R, Fil w X F f A.S A.T R ∧ R.map Wr.dat = A.D
  x : ∀ q, X q → q < w.heap.size
  ops : 0 ≤ f.ops ∧ f.ops ≤ n
  wrote : 0 ≤ f.wrote ∧ f.wrote ≤ n
  s : A.S.length ≤ 4194304
  t : A.T.length ≤ 4194304
  d : A.D.length ≤ n
  small : SmallD A.D
  bud : Bud f k

theorem Fl.xF {w : World} {X : Nat → Prop} {F : Nat} {f : Fs} {A : A3} {k n : Nat} (h : Fl w X F f A k n) : X F := by
  obtain ⟨R, hf, _⟩ := h.has
  exact hf.xF

theorem Fl.mono {w : World} {X : Nat → Prop} {F : Nat} {f : Fs} {A : A3} {k n n' : Nat} (h : Fl w X F f A k n) (hn : n ≤ n') : Fl w X F f A k n' :=
  ⟨h.has, h.x, ⟨h.ops.1, by have := h.ops.2; omega⟩, ⟨h.wrote.1, by have := h.wrote.2; omega⟩, h.s, h.t, by have := h.d; omega, h.small, h.bud⟩

theorem Fl.chg {w w' : World} {X Y : Nat → Prop} {F : Nat} {f : Fs} {A : A3} {k n : Nat} (h : Fl w X F f A k n) (hc : Chg Y w w') (hy : ∀ q, q < w.heap.size → X q → ¬ Y q) : Fl w' X F f A k n := by
  obtain ⟨R, hf, hD⟩ := h.has
  exact ⟨⟨R, hf.chg hc hy, hD⟩, fun q hq => Nat.lt_of_lt_of_le (h.x q hq) hc.size, h.ops, h.wrote, h.s, h.t, h.d, h.small, h.bud⟩

theorem Fl.below {w w' : World} {X : Nat → Prop} {F : Nat} {f : Fs} {A : A3} {k n : Nat} (h : Fl w X F f A k n) (hb : Below w.heap.size w w') : Fl w' X F f A k n :=
  h.chg (Chg.of_below (X := fun _ => False) hb) (fun _ _ _ h => h)

/-- What operations, one behind the other, leave, till the first that is refused. -/
def Ran (w w' : World) (X : Nat → Prop) (F : Nat) (A : A3) (k n : Nat) (os : List AO) : Prop :=
  ∃ X' f', Fl w' X' F f' (doAll (os.take k) A) (k - os.length) (n + costs os) ∧ (∀ q, X' q → X q ∨ w.heap.size ≤ q) ∧ Chg X w w'

theorem Ran.nil {w : World} {X : Nat → Prop} {F : Nat} {f : Fs} {A : A3} {k n : Nat} (h : Fl w X F f A k n) : Ran w w X F A k n [] :=
  ⟨X, f, by simpa [doAll, costs] using h, fun _ h => Or.inl h, Chg.refl _ _⟩

/-- More operations behind those that were done. -/
theorem Ran.more {w w1 w2 : World} {X X1 : Nat → Prop} {F : Nat} {f1 : Fs} {A : A3} {k n : Nat} {os ps : List AO}
    (_ : Fl w1 X1 F f1 (doAll (os.take k) A) (k - os.length) (n + costs os)) (hx : ∀ q, X1 q → X q ∨ w.heap.size ≤ q) (hc : Chg X w w1)
    (h : Ran w1 w2 X1 F (doAll (os.take k) A) (k - os.length) (n + costs os) ps) : Ran w w2 X F A k n (os ++ ps) := by
  obtain ⟨X2, f2, h2, hx2, hc2⟩ := h
  refine ⟨X2, f2, ?_, fun q hq => ?_, hc.andThen hc2 (fun i hi hy => ?_)⟩
  · rw [List.take_append, doAll_append, List.length_append, costs_append, Nat.sub_add_eq]
    rw [Nat.add_assoc] at h2
    exact h2
  · rcases hx2 q hq with h | h
    · exact hx q h
    · exact Or.inr (Nat.le_trans hc.size h)
  · rcases hx i hy with h | h
    · exact h
    · omega

/-- None behind those of which one was refused. -/
theorem Ran.stop {w w1 : World} {X : Nat → Prop} {F : Nat} {A : A3} {k n : Nat} {os : List AO} (h : Ran w w1 X F A k n os) (hk : ¬ os.length ≤ k) (ps : List AO) : Ran w w1 X F A k n (os ++ ps) := by
  obtain ⟨X2, f2, h2, hx2, hc2⟩ := h
  refine ⟨X2, f2, ?_, hx2, hc2⟩
  rw [List.take_append_of_le_length (by omega), List.length_append, costs_append, show k - (os.length + ps.length) = k - os.length by omega]
  exact h2.mono (by omega)

/-- What else changes nothing of the file. -/
theorem Ran.below {w w1 w2 : World} {X : Nat → Prop} {F : Nat} {A : A3} {k n : Nat} {os : List AO} (h : Ran w w1 X F A k n os) (hb : Below w1.heap.size w1 w2) : Ran w w2 X F A k n os := by
  obtain ⟨X2, f2, h2, hx2, hc2⟩ := h
  exact ⟨X2, f2, h2.below hb, hx2, hc2.trans (Chg.of_below hb)⟩

theorem Ran.first {w w1 w2 : World} {X : Nat → Prop} {F : Nat} {A : A3} {k n : Nat} {os : List AO} (hb : Below w.heap.size w w1) (h : Ran w1 w2 X F A k n os) : Ran w w2 X F A k n os := by
  obtain ⟨X2, f2, h2, hx2, hc2⟩ := h
  exact ⟨X2, f2, h2, fun q hq => (hx2 q hq).imp id (fun h => Nat.le_trans hb.size h), (Chg.of_below hb).trans hc2⟩
end Go.Proofs.YtibkhgmmjhlpmaaGreat.Oct

namespace Go.Proofs.YtibkhgmmjhlpmaaGreat.Oct
open Go.RowKit Go.Deep

theorem new_fl (w : World) (a : Option Addr) (cap : Nat) (l : List Int) (hl : Lies w a l) (hlen : l.length ≤ 4194304) :
    Calls Tryz.prog 7 #[.slice a l.length cap] w fun e w' => ∃ F f, e = .returned (.tuple #[.pointer (some ⟨F, 0, none⟩), .int .i64 0]) ∧ Fl w' (fun q => w.heap.size ≤ q ∧ q < w'.heap.size) F f ⟨l, l, []⟩ 2000000 0 ∧ f.ops = 0 ∧ Below w.heap.size w w' := by
  refine (new_file w a cap l hl hlen).mono ?_
  rintro e w' ⟨F, v1, v2, rfl, hf, hb⟩
  refine ⟨F, _, rfl, ⟨⟨[], hf.mono (fun q hq h => ⟨h, hq⟩), rfl⟩, fun q hq => hq.2, by simp, by simp, hlen, hlen, by simp, fun d hd => by simp at hd, ⟨rfl, Or.inl ⟨rfl, by simp⟩⟩⟩, rfl, hb⟩

theorem write_fl (w : World) (X : Nat → Prop) (F : Nat) (f : Fs) (A : A3) (k n : Nat) (h : Fl w X F f A k n) (hn : n ≤ 900000) (p : Nat) (a : Option Addr) (cap : Nat) (b : List Int) (hb : Lies w a b) (hx : b ≠ [] → ∀ x, a = some x → ¬ X x.block) (hp : p + b.length ≤ 4194304) :
    Calls Tryz.prog 70 #[.pointer (some ⟨F, 0, none⟩), .int .i64 p, .slice a b.length cap] w fun e w' => e = .returned (.int .i64 (cod 1 k)) ∧ Ran w w' X F A k n [.wr p b] := by
  obtain ⟨R, hf, hD⟩ := h.has
  have hRl : R.length = A.D.length := by rw [← hD]; simp
  have hops := h.ops
  have hwr := h.wrote
  have hd := h.d
  have hsaid := h.bud.said hops.1 (by omega)
  by_cases hk : 1 ≤ k
  · rw [if_pos hk] at hsaid
    rw [cod_ok hk]
    refine (write_ok w X F f A.S A.T R hf p a cap b hb hx (by omega) (by omega) hp h.s (by omega) hsaid).mono ?_
    rintro e w' ⟨rfl, ps, vs, vr, hps, hf', hc'⟩
    have hm := hf'.mono (Y := fun q => (X q ∨ w.heap.size ≤ q) ∧ q < w'.heap.size) (fun q hq h => ⟨h, hq⟩)
    rw [laidAll_dat, hps] at hm
    have hcl := cuts_le _ p b (Nat.le_refl _)
    have hcs := cuts_small _ p b (Nat.le_refl _) hp
    refine ⟨rfl, (fun q => (X q ∨ w.heap.size ≤ q) ∧ q < w'.heap.size), { f.asked with wrote := f.wrote + 1, vs := vs, vr := vr }, ⟨⟨R ++ ps, ?_, ?_⟩, fun q hq => hq.2, ⟨?_, ?_⟩, ⟨?_, ?_⟩, ?_, ?_, ?_, ?_, ?_⟩, fun q hq => hq.1, hc'⟩
    · rw [show ([AO.wr p b].take k) = [AO.wr p b] from List.take_of_length_le (by simpa using hk)]
      exact hm
    · rw [show ([AO.wr p b].take k) = [AO.wr p b] from List.take_of_length_le (by simpa using hk), List.map_append, hD, hps]
      rfl
    · show 0 ≤ f.ops + 1; omega
    · show f.ops + 1 ≤ _; simp [costs, AO.cost]; omega
    · show 0 ≤ f.wrote + 1; omega
    · show f.wrote + 1 ≤ _; simp [costs, AO.cost]; omega
    · rw [show ([AO.wr p b].take k) = [AO.wr p b] from List.take_of_length_le (by simpa using hk)]
      exact laidsD_le _ _ h.s hcs
    · rw [show ([AO.wr p b].take k) = [AO.wr p b] from List.take_of_length_le (by simpa using hk)]
      exact h.t
    · rw [show ([AO.wr p b].take k) = [AO.wr p b] from List.take_of_length_le (by simpa using hk)]
      simp [doAll, AO.on, costs, AO.cost]
      omega
    · rw [show ([AO.wr p b].take k) = [AO.wr p b] from List.take_of_length_le (by simpa using hk)]
      intro d hd9
      rcases List.mem_append.1 hd9 with h9 | h9
      · exact h.small d h9
      · exact hcs d h9
    · exact h.bud.next hops.1 (by omega) rfl rfl rfl
  · rw [if_neg hk] at hsaid
    rw [cod_no hk]
    obtain rfl : k = 0 := by omega
    have HF := hide hf
    have HD := hide hD
    have HFl := hide h
    clear hf hD hb hx h
    go_enter Tryz.func70, Tryz.ntmps70
    go_wp2_with fail
    refine (ask_file w F f HF.out.at_ (by omega)).mono ?_
    rintro e w1 ⟨rfl, ha1, hc1⟩
    have hf1 := HF.out.fields hc1 ha1 rfl rfl rfl
    have HR : Hid (Ran w w1 X F A 0 n [.wr p b]) := hide ⟨X, f.asked, ⟨⟨R, hf1, HD.out⟩, fun q hq => Nat.lt_of_lt_of_le (HFl.out.x q hq) hc1.size, ⟨by show 0 ≤ f.ops + 1; omega, by show f.ops + 1 ≤ _; simp [costs, AO.cost]; omega⟩, ⟨hwr.1, by show f.wrote ≤ _; simp [costs, AO.cost]; omega⟩, HFl.out.s, HFl.out.t, by show A.D.length ≤ _; omega, HFl.out.small, HFl.out.bud.next hops.1 (by omega) rfl rfl rfl⟩, fun q hq => Or.inl hq, hc1.mono (fun i _ e => by subst e; exact HF.out.xF)⟩
    rw [hsaid]
    clear ha1 hc1 hf1
    go_wp2_with fail
    go_ret
    exact ⟨rfl, HR.out⟩

theorem flush_fl (w : World) (X : Nat → Prop) (F : Nat) (f : Fs) (A : A3) (k n : Nat) (h : Fl w X F f A k n) (hn : n ≤ 900000) :
    Calls Tryz.prog 57 #[.pointer (some ⟨F, 0, none⟩)] w fun e w' => e = .returned (.int .i64 (cod 1 k)) ∧ Ran w w' X F A k n [.fl] := by
  obtain ⟨R, hf, hD⟩ := h.has
  have hRl : R.length = A.D.length := by rw [← hD]; simp
  have hops := h.ops
  have hwr := h.wrote
  have hd := h.d
  have hsaid := h.bud.said hops.1 (by omega)
  by_cases hk : 1 ≤ k
  · rw [if_pos hk] at hsaid
    rw [cod_ok hk]
    have htk : ([AO.fl].take k) = [AO.fl] := List.take_of_length_le (by simpa using hk)
    refine (flush_file w X F f A.S A.T R hf (by omega) hsaid h.t (small_dat (by rw [hD]; exact h.small)) (by omega)).mono ?_
    rintro e w' ⟨rfl, vt, hf', hc'⟩
    have hm := hf'.mono (Y := fun q => (X q ∨ w.heap.size ≤ q) ∧ q < w'.heap.size) (fun q hq h => ⟨h, hq⟩)
    rw [laidAll_dat, hD] at hm
    refine ⟨rfl, (fun q => (X q ∨ w.heap.size ≤ q) ∧ q < w'.heap.size), { f.asked with vt := vt, vr := .slice none 0 0 }, ⟨⟨[], ?_, ?_⟩, fun q hq => hq.2, ⟨?_, ?_⟩, ⟨?_, ?_⟩, ?_, ?_, ?_, ?_, ?_⟩, fun q hq => hq.1, hc'⟩
    · rw [htk]; exact hm
    · rw [htk]; rfl
    · show 0 ≤ f.ops + 1; omega
    · show f.ops + 1 ≤ _; simp [costs, AO.cost]; omega
    · exact hwr.1
    · show f.wrote ≤ _; simp [costs, AO.cost]; omega
    · rw [htk]; exact h.s
    · rw [htk]; exact laidsD_le _ _ h.t h.small
    · rw [htk]; simp [doAll, AO.on]
    · rw [htk]; intro d hd9; simp [doAll, AO.on] at hd9
    · exact h.bud.next hops.1 (by omega) rfl rfl rfl
  · rw [if_neg hk] at hsaid
    rw [cod_no hk]
    obtain rfl : k = 0 := by omega
    have HF := hide hf
    have HD := hide hD
    have HFl := hide h
    clear hf hD h
    go_enter Tryz.func57, Tryz.ntmps57
    go_wp2_with fail
    refine (ask_file w F f HF.out.at_ (by omega)).mono ?_
    rintro e w1 ⟨rfl, ha1, hc1⟩
    have hf1 := HF.out.fields hc1 ha1 rfl rfl rfl
    have HR : Hid (Ran w w1 X F A 0 n [.fl]) := hide ⟨X, f.asked, ⟨⟨R, hf1, HD.out⟩, fun q hq => Nat.lt_of_lt_of_le (HFl.out.x q hq) hc1.size, ⟨by show 0 ≤ f.ops + 1; omega, by show f.ops + 1 ≤ _; simp [costs, AO.cost]; omega⟩, ⟨hwr.1, by show f.wrote ≤ _; simp [costs, AO.cost]; omega⟩, HFl.out.s, HFl.out.t, by show A.D.length ≤ _; omega, HFl.out.small, HFl.out.bud.next hops.1 (by omega) rfl rfl rfl⟩, fun q hq => Or.inl hq, hc1.mono (fun i _ e => by subst e; exact HF.out.xF)⟩
    rw [hsaid]
    clear ha1 hc1 hf1
    go_wp2_with fail
    go_ret
    exact ⟨rfl, HR.out⟩
end Go.Proofs.YtibkhgmmjhlpmaaGreat.Oct

namespace Go.Proofs.YtibkhgmmjhlpmaaGreat.Oct
open Go.RowKit Go.Deep

theorem len_fl (w : World) (X : Nat → Prop) (F : Nat) (f : Fs) (A : A3) (k n : Nat) (h : Fl w X F f A k n) :
    Calls Tryz.prog 54 #[.pointer (some ⟨F, 0, none⟩)] w fun e w' => e = .returned (.int .i64 A.S.length) ∧ w' = w := by
  obtain ⟨R, hf, _⟩ := h.has
  exact len_file w X F f A.S A.T R hf

/-- What a crash leaves: of the writes that wait those that are kept. -/
def leftD (T : List Int) (D : List (Nat × List Int × Bool)) (kp : List Bool) : Nat → List Int
  | 0 => T
  | k + 1 => if kp.getD k false = true then laidD (D.getD k (0, [], false)) (leftD T D kp k) else leftD T D kp k

theorem left_dat (T : List Int) (R : List Wr) (kp : List Bool) : ∀ k, k ≤ R.length → left T R kp k = leftD T (R.map Wr.dat) kp k
  | 0, _ => rfl
  | k + 1, hk => by
    rw [left, leftD, left_dat T R kp k (by omega)]
    have e : (R.map Wr.dat).getD k (0, [], false) = (R.getD k Wr.none).dat := by simp [show k < R.length by omega]
    rw [e, laid_dat]

theorem crash_fl (w : World) (X : Nat → Prop) (F : Nat) (f : Fs) (A : A3) (k n : Nat) (h : Fl w X F f A k n) (hn : n ≤ 900000) (ak : Option Addr) (ck : Nat) (kp : List Bool) (hk : LiesB w ak kp) :
    Calls Tryz.prog 15 #[.pointer (some ⟨F, 0, none⟩), .slice ak kp.length ck] w fun e w' => ∃ v, e = .returned v ∧ Own w' w.heap.size v (leftD A.T A.D kp A.D.length) ∧ Below w.heap.size w w' := by
  obtain ⟨R, hf, hD⟩ := h.has
  have hRl : R.length = A.D.length := by rw [← hD]; simp
  have hd := h.d
  refine (crash_file w X F f A.S A.T R hf ak ck kp hk h.t (small_dat (by rw [hD]; exact h.small)) (by omega)).mono ?_
  rintro e w' ⟨v, rfl, ho, hb⟩
  rw [left_dat A.T R kp R.length (Nat.le_refl _), hD, hRl] at ho
  exact ⟨v, rfl, ho, hb⟩

theorem At.setrefuse {w : World} {F : Nat} {f : Fs} (h : At w F f) (n : Int) : At (w.setCell ⟨F, 5, none⟩ (.int .i64 n)) F { f with refuse := n } := h.set 5 _
theorem At.setstop {w : World} {F : Nat} {f : Fs} (h : At w F f) (n : Int) : At (w.setCell ⟨F, 6, none⟩ (.int .i64 n)) F { f with stop := n } := h.set 6 _

set_option maxHeartbeats 1000000 in
set_option maxRecDepth 100000 in
theorem from_any (w : World) (F : Nat) (f : Fs) (h : At w F f) (hops : 0 ≤ f.ops ∧ f.ops < 1000000) (m : Nat) (h1 : 1 ≤ m) (h2 : m ≤ 65536) : Calls Tryz.prog 38 #[.pointer (some ⟨F, 0, none⟩), .int .i64 m] w fun e w' => e = .returned (.int .i64 (f.ops + m)) ∧ w' = w := by
  have h3 := h.cell.2.2.2.1
  have hw : wrap64 (f.ops + (m : Int)) = f.ops + m := by unfold wrap64; omega
  have g1 : ¬ (m : Int) < 1 := by omega
  have g2 : ¬ (65536 : Int) < m := by omega
  clear h
  go_enter Tryz.func38, Tryz.ntmps38
  go_wp2_with fail
  go_ret
  exact ⟨rfl, rfl⟩

set_option maxHeartbeats 1000000 in
set_option maxRecDepth 100000 in
/-- All operations from the m-th on are stopped. -/
theorem stop_fl (w : World) (X : Nat → Prop) (F : Nat) (f : Fs) (A : A3) (k n : Nat) (h : Fl w X F f A k n) (hn : n ≤ 900000) (m : Nat) (h1 : 1 ≤ m) (h2 : m ≤ 65536) :
    Calls Tryz.prog 13 #[.pointer (some ⟨F, 0, none⟩), .int .i64 m] w fun e w' => e = .returned (.tuple #[]) ∧ ∃ f', Fl w' X F f' A (m - 1) n ∧ Chg (fun k => k = F) w w' := by
  obtain ⟨R, hf, hD⟩ := h.has
  have hops := h.ops
  have HF := hide hf
  have HD := hide hD
  have HFl := hide h
  have h5 := hf.at_.cell.2.2.2.2.2.1
  have z5 := hf.at_.frozen 5
  have a1 := hf.at_.setrefuse 0
  have h6 := a1.cell.2.2.2.2.2.2.1
  have z6 := a1.frozen 6
  dsimp only at h6
  have a2 := a1.setstop (f.ops + m)
  have hc : Chg (fun k => k = F) w ((w.setCell ⟨F, 5, none⟩ (.int .i64 0)).setCell ⟨F, 6, none⟩ (.int .i64 (f.ops + m))) := ((Chg.refl (fun k => k = F) _).setCell F 5 _ (fun _ => rfl)).setCell F 6 _ (fun _ => rfl)
  have HN := hide (And.intro (hf.fields hc a2 rfl rfl rfl) hc)
  clear hf hD a1 a2 hc h
  go_enter Tryz.func13, Tryz.ntmps13
  go_wp2_with fail
  refine (from_any w F f HF.out.at_ (by omega) m h1 h2).mono ?_
  rintro e w1 ⟨rfl, rfl⟩
  go_wp2_with fail
  go_end0
  exact ⟨rfl, _, ⟨⟨R, HN.out.1, HD.out⟩, fun q hq => Nat.lt_of_lt_of_le (HFl.out.x q hq) HN.out.2.size, HFl.out.ops, HFl.out.wrote, HFl.out.s, HFl.out.t, HFl.out.d, HFl.out.small, ⟨rfl, Or.inr ⟨by show 0 < f.ops + (m : Int); omega, by show ((m - 1 : Nat) : Int) = max (f.ops + m - 1 - f.ops) 0; omega⟩⟩⟩, HN.out.2⟩
end Go.Proofs.YtibkhgmmjhlpmaaGreat.Oct

namespace Go.Proofs.YtibkhgmmjhlpmaaGreat.Oct
open Go.RowKit Go.Deep

set_option maxHeartbeats 2000000 in
set_option maxRecDepth 100000 in
theorem read_fl (w : World) (X : Nat → Prop) (F : Nat) (f : Fs) (A : A3) (k n : Nat) (h : Fl w X F f A k n) (hn : n ≤ 900000) (t m : Nat) (ht : t < A.S.length) (htm : t + m ≤ A.S.length) :
    Calls Tryz.prog 79 #[.pointer (some ⟨F, 0, none⟩), .int .i64 t, .int .i64 m] w fun e w' => (∃ f', Fl w' X F f' A (k - 1) (n + 1) ∧ Chg X w w') ∧
      ((1 ≤ k ∧ ∃ v, e = .returned (.tuple #[v, .int .i64 0]) ∧ Own w' w.heap.size v ((A.S.drop t).take m)) ∨ (k = 0 ∧ e = .returned (.tuple #[.slice none 0 0, .int .i64 5]))) := by
  obtain ⟨R, hf, hD⟩ := h.has
  have hops := h.ops
  have hwr := h.wrote
  have hd := h.d
  have hs := h.s
  have HSd := hide (h.bud.said hops.1 (by omega))
  have HF := hide hf
  have HRn : Hid (∀ w1, Fil w1 X F f.asked A.S A.T R → Chg (fun k => k = F) w w1 → ∃ f', Fl w1 X F f' A (k - 1) (n + 1) ∧ Chg X w w1) := hide (fun w1 hf1 hc1 =>
    ⟨f.asked, ⟨⟨R, hf1, hD⟩, fun q hq => Nat.lt_of_lt_of_le (h.x q hq) hc1.size, ⟨by show 0 ≤ f.ops + 1; omega, by show f.ops + 1 ≤ _; omega⟩, ⟨hwr.1, by show f.wrote ≤ _; omega⟩, h.s, h.t, by omega, h.small, h.bud.next hops.1 (by omega) rfl rfl rfl⟩, hc1.mono (fun i _ e => by subst e; exact hf.xF)⟩)
  have HA := hide (ask_file w F f hf.at_ (by omega))
  clear h hf hD hwr hd
  generalize A.S = S at *
  go_enter Tryz.func79, Tryz.ntmps79
  go_wp2_with fail
  refine HA.out.mono ?_
  rintro e w1 ⟨rfl, ha1, hc1⟩
  have hf1 := HF.out.fields hc1 ha1 rfl rfl rfl
  have HF1 := hide hf1
  have HC1 := hide hc1
  rw [HSd.out]
  by_cases hk : 1 ≤ k
  · rw [if_pos hk]
    have h0 := hf1.at_.cell.1
    obtain ⟨a1, c1, e1, hs1, _⟩ := hf1.seen.sl
    rw [e1] at h0
    have hcl := hs1.le
    have hcm := hs1.max
    unfold maxLen at hcm
    have g4 : wrap64 ((S.length : Int) - (t : Int)) = (S.length : Int) - (t : Int) := by unfold wrap64; omega
    have g5 : wrap64 ((t : Int) + (m : Int)) = ((t + m : Nat) : Int) := by unfold wrap64; omega
    obtain ⟨b, off, rfl, hbl, hcc⟩ : ∃ b off, a1 = some ⟨b, off, none⟩ ∧ b < w1.heap.size ∧ ∀ k, k < S.length → w1.cell? ⟨b, off + k, none⟩ = some (.int .u8 (S.getD k 0)) := by
      rcases hs1.lies with h | h
      · rw [h] at ht; simp at ht
      · exact h
    have hl9 : Lies w1 (some ⟨b, off + t, none⟩) ((S.drop t).take m) := Lies.of_part (Lies.mk hcc) t m
    have hlen : ((S.drop t).take m).length = m := by simp; omega
    have hcl9 := fun c => clone_any w1 (some ⟨b, off + t, none⟩) c ((S.drop t).take m) hl9 (by omega)
    rw [hlen] at hcl9
    have HCl := hide hcl9
    have hct : ¬ c1 = t := by omega
    clear hf1 hc1 ha1 hs1 e1 hcl9 hl9 hcc hlen
    go_wp2_with fail
    refine (HCl.out _).mono ?_
    rintro e w2 ⟨v2, rfl, ho2, hb2⟩
    have HO2 := hide (ho2.mono HC1.out.size)
    have HR2 := hide (HRn.out w2 (HF1.out.chg (Chg.of_below (X := fun _ => False) hb2) (fun _ _ _ h => h)) (HC1.out.trans (Chg.of_below hb2)))
    clear ho2 hb2
    go_wp2_with fail
    go_ret2
    exact ⟨HR2.out, Or.inl ⟨hk, v2, rfl, HO2.out⟩⟩
  · rw [if_neg hk]
    have HR2 := hide (HRn.out w1 HF1.out HC1.out)
    clear hf1 hc1 ha1
    go_wp2_with fail
    go_ret2
    exact ⟨HR2.out, Or.inr ⟨by omega, rfl⟩⟩

end Go.Proofs.YtibkhgmmjhlpmaaGreat.Oct
