/- What the law keeps in memory: states in a row; a file and its journal between commits; changes that are under way. -/
import Derived.Test.YtgmifbknmjdemaaGreatPNoa
import Derived.Test.YtgmifbknmjdemaaGreatPNob
import Derived.Test.YtgmifbknmjdemaaGreatPNoc
import Derived.Test.YtgmifbknmjdemaaGreatPTzc
import Derived.Test.YtgmifbknmjdemaaGreatPTyk
import Derived.Laws.OwnMore
namespace Go.Proofs.YtgmifbknmjdemaaGreat.Oct
open Go.RowKit Go.Deep Go.Sort

/-- Lists of bytes in a row of the call's own; none of its blocks is one of X. -/
def Rws (w : World) (X : Nat → Prop) (B : Nat) (v : Value) (Ss : List (List Int)) : Prop :=
  ∃ xs : List Value, w.ownsRow B 24 1 v Ss.length xs ∧ (∀ g, v.ownBlock = some g → ¬ X g) ∧
    ∀ m, m < Ss.length → ∃ a c, xs[m]? = some (.slice a (Ss.getD m []).length c) ∧ Sl w a c (Ss.getD m []) ∧ ∀ x, a = some x → x.block < w.heap.size ∧ ¬ X x.block ∧ v.ownBlock ≠ some x.block

theorem Sl.chgN {X : Nat → Prop} {w w' : World} {a : Option Addr} {c : Nat} {l : List Int} (h : Sl w a c l) (hg : Chg X w w') (hne : ∀ x, a = some x → ¬ X x.block) : Sl w' a c l := ⟨h.le, h.max, h.none, h.lies.chg hg hne⟩

theorem LiesE.chgN {X : Nat → Prop} {w w' : World} {a : Option Addr} {L : List (Int × Int)} (h : LiesE w a L) (hg : Chg X w w') (hne : ∀ x, a = some x → ¬ X x.block) : LiesE w' a L := by
  rcases h with h | ⟨b, off, ha, hb, hc⟩
  · exact Or.inl h
  · exact Or.inr ⟨b, off, ha, Nat.lt_of_lt_of_le hb hg.size, fun k hk => ⟨hg.cell (hc k hk).1 (hne _ ha), hg.cell (hc k hk).2 (hne _ ha)⟩⟩

theorem Rws.chg {w w' : World} {X Y Z : Nat → Prop} {B : Nat} {v : Value} {Ss : List (List Int)} (h : Rws w X B v Ss) (hc : Chg Y w w') (hy : ∀ k, k < w.heap.size → Y k → X k) (hz : ∀ k, k < w.heap.size → Z k → X k) : Rws w' Z B v Ss := by
  obtain ⟨xs, ho, hv, hm⟩ := h
  refine ⟨xs, ownsRow_chg ho hc (fun g hg hyg => hv g hg (hy g (ho.lt g hg).2 hyg)), fun g hg hz' => hv g hg (hz g (ho.lt g hg).2 hz'), fun m hlt => ?_⟩
  obtain ⟨a, c, h1, h2, h3⟩ := hm m hlt
  refine ⟨a, c, h1, h2.chgN hc (fun x hx hyx => (h3 x hx).2.1 (hy _ (h3 x hx).1 hyx)), fun x hx => ?_⟩
  obtain ⟨q1, q2, q3⟩ := h3 x hx
  exact ⟨Nat.lt_of_lt_of_le q1 hc.size, fun hzx => q2 (hz _ q1 hzx), q3⟩

theorem Rws.below {w w' : World} {X : Nat → Prop} {B : Nat} {v : Value} {Ss : List (List Int)} (h : Rws w X B v Ss) (hb : Below w.heap.size w w') : Rws w' X B v Ss :=
  h.chg (Chg.of_below (X := fun _ => False) hb) (fun _ _ e => e.elim) (fun _ _ e => e)

theorem Rws.push {w w' : World} {X : Nat → Prop} {B : Nat} {v v' : Value} {Ss : List (List Int)} {xs : List Value} {s : List Int} {a : Option Addr} {c : Nat}
    (ho : w.ownsRow B 24 1 v Ss.length xs) (hv : ∀ g, v.ownBlock = some g → ¬ X g)
    (hm : ∀ m, m < Ss.length → ∃ a c, xs[m]? = some (.slice a (Ss.getD m []).length c) ∧ Sl w a c (Ss.getD m []) ∧ ∀ x, a = some x → x.block < w.heap.size ∧ ¬ X x.block ∧ v.ownBlock ≠ some x.block)
    (hX : ∀ k, X k → k < w.heap.size) (ho' : w'.ownsRow B 24 1 v' (Ss.length + 1) (xs ++ [.slice a s.length c])) (hg : w.grownBy w' v.ownBlock) (hb : v'.ownBlock = v.ownBlock ∨ v'.ownBlock = some w.heap.size)
    (hl : Sl w a c s) (ha : ∀ x, a = some x → x.block < w.heap.size ∧ ¬ X x.block ∧ v.ownBlock ≠ some x.block) : Rws w' X B v' (Ss ++ [s]) := by
  have hlen : xs.length = Ss.length := by have := ho.1; omega
  have keep : ∀ (a : Option Addr) (c : Nat) (l : List Int), Sl w a c l → (∀ x, a = some x → x.block < w.heap.size ∧ ¬ X x.block ∧ v.ownBlock ≠ some x.block) →
      Sl w' a c l ∧ ∀ x, a = some x → x.block < w'.heap.size ∧ ¬ X x.block ∧ v'.ownBlock ≠ some x.block := by
    intro a c l h1 h2
    refine ⟨h1.chgN (Chg.of_grown hg) (fun x hx e => (h2 x hx).2.2 e.symm), fun x hx => ?_⟩
    obtain ⟨q1, q2, q3⟩ := h2 x hx
    refine ⟨Nat.lt_of_lt_of_le q1 hg.size, q2, ?_⟩
    rcases hb with e | e
    · rw [e]; exact q3
    · rw [e]; intro e'; simp at e'; omega
  refine ⟨_, by simpa using ho', fun g hgb => ?_, fun m hlt => ?_⟩
  · rcases hb with e | e
    · exact hv g (by rw [← e]; exact hgb)
    · rw [e] at hgb
      simp at hgb
      intro hx
      have := hX _ hx
      omega
  · simp at hlt
    rcases Nat.lt_or_ge m Ss.length with h1 | h1
    · obtain ⟨a1, c1, e1, l1, p1⟩ := hm m h1
      obtain ⟨k1, k2⟩ := keep a1 _ _ l1 p1
      have hgt : (Ss ++ [s]).getD m [] = Ss.getD m [] := by simp [List.getElem?_append_left h1]
      refine ⟨a1, c1, ?_, ?_, k2⟩
      · rw [hgt, List.getElem?_append_left (by omega)]; exact e1
      · rw [hgt]; exact k1
    · obtain rfl : m = Ss.length := by omega
      obtain ⟨k1, k2⟩ := keep a c s hl ha
      have hgt : (Ss ++ [s]).getD Ss.length [] = s := by simp
      refine ⟨a, c, ?_, ?_, k2⟩
      · rw [hgt, List.getElem?_append_right (by omega)]; simp [hlen]
      · rw [hgt]; exact k1

/-- What the law holds between two commits: w0 is the memory in which its bytes b were made. -/
structure Aln (w0 w : World) (F J : Nat) (X : Nat → Prop) (f : Fs) (A : A3) (k n : Nat) (nu : Int) (vs : Value) (Qs : List (List Int)) (am : Option Addr) (cm : Nat) (m : List Int) (ae : Option Addr) (E : List (Int × Int)) : Prop where
  bel : Below w0.heap.size w0 w
  fl : Fl w X F f A k n
  jr : Jrn w J F (512 : Nat) (12800 : Nat) nu
  xJ : ¬ X J
  xlo : ∀ i, X i → w0.heap.size ≤ i
  jlo : w0.heap.size ≤ J
  rows : Rws w (fun i => X i ∨ i = J) w0.heap.size vs Qs
  ml : Sl w am cm m
  mx : ∀ x, am = some x → x.block < w.heap.size ∧ ¬ (X x.block ∨ x.block = J) ∧ vs.ownBlock ≠ some x.block
  el : LiesE w ae E
  ex : ∀ x, ae = some x → x.block < w.heap.size ∧ ¬ (X x.block ∨ x.block = J) ∧ vs.ownBlock ≠ some x.block

/-- What the law knows of its lists between two commits. -/
structure Kno (S m : List Int) (Qs : List (List Int)) (E : List (Int × Int)) (k : Nat) : Prop where
  rst : Rst S m
  ml : m.length = 18800
  last : ∃ Q0, Qs = Q0 ++ [m]
  len : ∀ Q ∈ Qs, Q.length = 18800 ∧ Byts Q
  tou : ∀ Q ∈ Qs, ∀ j : Nat, 12800 ≤ j → Q.getD j 0 ≠ 0 → InE E j
  jou : ∀ j : Nat, 512 ≤ j → j < 12800 → InE E j
  el : E.length ≤ 1 + 8 * k
  ql : Qs.length ≤ 1 + k

/-- Changes that are under way: w1 is the memory in which they were begun. -/
structure Inn (w1 w : World) (T J F : Nat) (X : Nat → Prop) (f : Fs) (S : List Int) (k n : Nat) (nu : Int) (vb vm : Value) (B M : Int → List Int) (g cap : Nat) (Nx : List Int) (ae : Option Addr) (E : List (Int × Int)) (vo : Option Nat) : Prop where
  bel : Below w1.heap.size w1 w
  q : Txq w T J F X f ⟨S, S, []⟩ k n vb vm (.slice none 0 0) B M 512 12800 nu
  xlt : ∀ i, X i → i < w1.heap.size
  jlt : J < w1.heap.size
  tlo : w1.heap.size ≤ T
  mlo : ∀ r, vb = .map (some r) ∨ vm = .map (some r) → w1.heap.size ≤ r
  nx : Own w w1.heap.size (.slice (some ⟨g, 0, none⟩) 18800 cap) Nx
  nl : Nx.length = 18800
  nT : g ≠ T ∧ ∀ r, vb = .map (some r) ∨ vm = .map (some r) → g ≠ r
  el : LiesE w ae E
  ex : ∀ x, ae = some x → x.block < w.heap.size ∧ ¬ X x.block ∧ x.block ≠ J ∧ x.block ≠ T ∧ (∀ r, vb = .map (some r) ∨ vm = .map (some r) → x.block ≠ r) ∧ x.block ≠ g ∧ vo ≠ some x.block
  vlt : ∀ i, vo = some i → i < w1.heap.size

theorem Own.gblk {w : World} {B g n cap : Nat} {l : List Int} (h : Own w B (.slice (some ⟨g, 0, none⟩) n cap) l) : B ≤ g ∧ g < w.heap.size := World.ownsRow.lt h g rfl

theorem Inn.below {w1 w w' : World} {T J F : Nat} {X : Nat → Prop} {f : Fs} {S : List Int} {k n : Nat} {nu : Int} {vb vm : Value} {B M : Int → List Int} {g cap : Nat} {Nx : List Int} {ae : Option Addr} {E : List (Int × Int)} {vo : Option Nat} (h : Inn w1 w T J F X f S k n nu vb vm B M g cap Nx ae E vo) (hb : Below w.heap.size w w') : Inn w1 w' T J F X f S k n nu vb vm B M g cap Nx ae E vo :=
  ⟨h.bel.trans (hb.mono h.bel.size), h.q.below hb, h.xlt, h.jlt, h.tlo, h.mlo, h.nx.below hb, h.nl, h.nT, h.el.below hb, fun x hx => ⟨Nat.lt_of_lt_of_le (h.ex x hx).1 hb.size, (h.ex x hx).2⟩, h.vlt⟩

theorem Inn.set {w1 w : World} {T J F : Nat} {X : Nat → Prop} {f : Fs} {S : List Int} {k n : Nat} {nu : Int} {vb vm : Value} {B M : Int → List Int} {g cap : Nat} {Nx : List Int} {ae ae' : Option Addr} {E E' : List (Int × Int)} {vo : Option Nat} (h : Inn w1 w T J F X f S k n nu vb vm B M g cap Nx ae E vo) {w2 : World} (hb : Below w.heap.size w w2) (hl : LiesE w2 ae' E') (hx : ∀ x, ae' = some x → w.heap.size ≤ x.block ∧ x.block < w2.heap.size) : Inn w1 w2 T J F X f S k n nu vb vm B M g cap Nx ae' E' vo := by
  have h2 := h.below hb
  refine ⟨h2.bel, h2.q, h.xlt, h.jlt, h.tlo, h.mlo, h2.nx, h.nl, h.nT, hl, fun x e => ?_, h.vlt⟩
  obtain ⟨h3, h4⟩ := hx x e
  have hT := h.q.tx.lt
  have hJ := h.q.jr.lt
  have hg := h.nx.gblk
  refine ⟨h4, fun e9 => ?_, by omega, by omega, fun r hr e9 => ?_, by omega, fun e9 => ?_⟩
  · have := h.q.fl.x _ e9; omega
  · have : r < w.heap.size := hr.elim (fun e => (h.q.ov.b.lt r e).1) (fun e => (h.q.ov.m.lt r e).1)
    omega
  · have := h.vlt _ e9
    have := h.bel.size
    omega

theorem Inn.over {w1 w w' : World} {T J F : Nat} {X : Nat → Prop} {f : Fs} {S : List Int} {k n : Nat} {nu : Int} {vb vm : Value} {B M : Int → List Int} {g cap : Nat} {Nx Nx' : List Int} {ae : Option Addr} {E : List (Int × Int)} {vo : Option Nat} (h : Inn w1 w T J F X f S k n nu vb vm B M g cap Nx ae E vo) (hg : w.grownBy w' (some g)) (ho : Own w' w1.heap.size (.slice (some ⟨g, 0, none⟩) 18800 cap) Nx') (hl : Nx'.length = 18800) : Inn w1 w' T J F X f S k n nu vb vm B M g cap Nx' ae E vo := by
  have hc := Chg.of_grown hg
  have hgb := h.nx.gblk
  refine ⟨h.bel.trans (hc.below _ h.bel.size (fun i hi e => by cases e; omega)), h.q.chg hc (fun e => by cases e; exact h.nT.1 rfl) (fun e => by cases e; have := h.jlt; omega) (fun r hr e => h.nT.2 r hr (Option.some.inj e).symm) (fun i _ hi e => by cases e; have := h.xlt _ hi; omega), h.xlt, h.jlt, h.tlo, h.mlo, ho, hl, h.nT, h.el.chgN hc (fun x hx e => by cases e; exact (h.ex x hx).2.2.2.2.2.1 rfl), fun x hx => ⟨Nat.lt_of_lt_of_le (h.ex x hx).1 hc.size, (h.ex x hx).2⟩, h.vlt⟩

theorem Inn.put {w1 w : World} {T J F : Nat} {X : Nat → Prop} {f : Fs} {S : List Int} {k n : Nat} {nu : Int} {vb vm : Value} {B M : Int → List Int} {g cap : Nat} {Nx : List Int} {ae : Option Addr} {E : List (Int × Int)} {vo : Option Nat} (h : Inn w1 w T J F X f S k n nu vb vm B M g cap Nx ae E vo) (a : Option Addr) (c m : Nat) (pl : List Int) (hm : m = pl.length) (hl : Lies w a pl) (hcap : m ≤ c ∧ c ≤ 9223372036854775807) (ha : ∀ x, a = some x → 0 < m → x.block < w1.heap.size) (t : Nat) (htn : t + m ≤ 4194304) :
    Calls Tryz.prog 11 #[.pointer (some ⟨T, 0, none⟩), .int .i64 t, .slice a m c] w fun e w' => e = .returned (.int .i64 0) ∧ ∃ vb' vm' B' M', Inn w1 w' T J F X f S k n nu vb' vm' B' M' g cap Nx ae E vo ∧ Laid B M B' M' t m pl 2 := by
  have hT := h.tlo
  refine (put_q w T J F X f ⟨S, S, []⟩ k n vb vm _ B M 512 12800 nu h.q a c m pl hm hl hcap (fun h0 x hx => ⟨by have := ha x hx h0; omega, fun r hr => by have := ha x hx h0; have := h.mlo r hr; omega⟩) t htn).mono ?_
  rintro e w' ⟨rfl, ⟨vb', vm', B', M', hq, hla, hmp⟩, hc⟩
  have hsz := h.bel.size
  refine ⟨rfl, vb', vm', B', M', ⟨h.bel.trans (hc.below _ hsz (fun i hi e => ?_)), hq, h.xlt, h.jlt, h.tlo, fun r hr => ?_, h.nx.chg hc (fun i hi e => ?_), h.nl, ⟨h.nT.1, fun r hr => ?_⟩, h.el.chgN hc (fun x hx e => ?_), fun x hx => ?_, h.vlt⟩, hla⟩
  · rcases e with e | e | e
    · omega
    · have := h.mlo i (Or.inl e); omega
    · have := h.mlo i (Or.inr e); omega
  · rcases hmp r hr with h9 | h9
    · exact h.mlo r h9
    · omega
  · have e2 : i = g := by simpa [Value.ownBlock] using hi.symm
    subst e2
    rcases e with e | e | e
    · exact h.nT.1 e
    · exact h.nT.2 _ (Or.inl e) rfl
    · exact h.nT.2 _ (Or.inr e) rfl
  · rcases hmp r hr with h9 | h9
    · exact h.nT.2 r h9
    · have := h.nx.gblk; omega
  · obtain ⟨x1, x2, x3, x4, x5, x6⟩ := h.ex x hx
    rcases e with e | e | e
    · exact x4 e
    · exact x5 _ (Or.inl e) rfl
    · exact x5 _ (Or.inr e) rfl
  · obtain ⟨x1, x2, x3, x4, x5, x6⟩ := h.ex x hx
    refine ⟨Nat.lt_of_lt_of_le x1 hc.size, x2, x3, x4, fun r hr => ?_, x6⟩
    rcases hmp r hr with h9 | h9
    · exact x5 r h9
    · omega
end Go.Proofs.YtgmifbknmjdemaaGreat.Oct
