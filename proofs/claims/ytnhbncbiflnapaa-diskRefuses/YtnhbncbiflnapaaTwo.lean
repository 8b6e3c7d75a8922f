/- Two files, apart. -/
import Derived.Test.YtnhbncbiflnapaaStt
namespace Go.Proofs.Ytnhbncbiflnapaa.Oct
open Go.RowKit Go.Deep

/-- Two files, apart; the blocks K are none of theirs. -/
def Two (w : World) (K : Nat → Prop) (F G : Nat) (ff : Fs) (A A2 : Ab) (n : Nat) : Prop :=
  ∃ Xf Xg fg, Has w Xf F ff A ∧ Has w Xg G fg A2 ∧ (∀ q, Xf q → q < w.heap.size ∧ ¬ Xg q) ∧ (∀ q, Xg q → q < w.heap.size) ∧ (fg.refuse = 0 ∧ fg.stop = 0) ∧ (0 ≤ fg.ops ∧ fg.ops ≤ n) ∧ (∀ q, K q → q < w.heap.size ∧ ¬ Xf q ∧ ¬ Xg q)

theorem Has.below {w w' : World} {X : Nat → Prop} {F : Nat} {f : Fs} {A : Ab} (h : Has w X F f A) (hb : Below w.heap.size w w') : Has w' X F f A := by
  obtain ⟨R, h1, h2⟩ := h
  exact ⟨R, h1.below_keeps hb, h2⟩

theorem Has.chg {w w' : World} {X Y : Nat → Prop} {F : Nat} {f : Fs} {A : Ab} (h : Has w X F f A) (hc : Chg Y w w') (hy : ∀ q, X q → ¬ Y q) : Has w' X F f A := by
  obtain ⟨R, h1, h2⟩ := h
  exact ⟨R, h1.chg hc (fun q _ hx => hy q hx), h2⟩

theorem Two.below {w w' : World} {K : Nat → Prop} {F G : Nat} {ff : Fs} {A A2 : Ab} {n : Nat} (h : Two w K F G ff A A2 n) (hb : Below w.heap.size w w') : Two w' (fun q => K q ∨ (w.heap.size ≤ q ∧ q < w'.heap.size)) F G ff A A2 n := by
  obtain ⟨Xf, Xg, fg, h1, h2, h3, h4, h5, h6, h7⟩ := h
  have hs := hb.size
  refine ⟨Xf, Xg, fg, h1.below hb, h2.below hb, fun q hq => ⟨Nat.lt_of_lt_of_le (h3 q hq).1 hs, (h3 q hq).2⟩, fun q hq => Nat.lt_of_lt_of_le (h4 q hq) hs, h5, h6, fun q hq => ?_⟩
  rcases hq with hq | hq
  · obtain ⟨k1, k2⟩ := h7 q hq
    exact ⟨Nat.lt_of_lt_of_le k1 hs, k2⟩
  · exact ⟨hq.2, fun hx => by have := (h3 q hx).1; omega, fun hx => by have := h4 q hx; omega⟩

theorem Two.mono {w : World} {K K' : Nat → Prop} {F G : Nat} {ff : Fs} {A A2 : Ab} {n n' : Nat} (h : Two w K F G ff A A2 n) (hk : ∀ q, K' q → K q) (hn : n ≤ n') : Two w K' F G ff A A2 n' := by
  obtain ⟨Xf, Xg, fg, h1, h2, h3, h4, h5, h6, h7⟩ := h
  exact ⟨Xf, Xg, fg, h1, h2, h3, h4, h5, by omega, fun q hq => h7 q (hk q hq)⟩

/-- The first file did an operation. -/
def FDid (w w' : World) (K : Nat → Prop) (F G : Nat) (ff : Fs) (A A2 : Ab) (n : Nat) : Prop :=
  (∃ f', Two w' K F G f' A A2 n ∧ f'.ops = ff.ops + 1 ∧ f'.refuse = ff.refuse ∧ f'.stop = ff.stop) ∧ Chg (fun q => ¬ K q) w w'

theorem two_did {w w' : World} {K Xf Xg : Nat → Prop} {F G : Nat} {ff fg : Fs} {A' A2 : Ab} {n : Nat} (h2 : Has w Xg G fg A2) (h3 : ∀ q, Xf q → q < w.heap.size ∧ ¬ Xg q) (h4 : ∀ q, Xg q → q < w.heap.size) (h5 : fg.refuse = 0 ∧ fg.stop = 0) (h6 : 0 ≤ fg.ops ∧ fg.ops ≤ n) (h7 : ∀ q, K q → q < w.heap.size ∧ ¬ Xf q ∧ ¬ Xg q)
    (hd : Did w w' Xf F ff A') : FDid w w' K F G ff A' A2 n := by
  obtain ⟨X', f', q1, q2, q3, q4⟩ := hd
  have hs := q4.size
  refine ⟨⟨f', ⟨X', Xg, fg, q1, h2.chg q4 (fun q hx hy => (h3 q hy).2 hx), fun q hq => ⟨(q3 q hq).2, fun hx => ?_⟩, fun q hq => Nat.lt_of_lt_of_le (h4 q hq) hs, h5, h6, fun q hq => ?_⟩, q2⟩, q4.mono (fun q _ hx hk => (h7 q hk).2.1 hx)⟩
  · rcases (q3 q hq).1 with h | h
    · exact (h3 q h).2 hx
    · have := h4 q hx; omega
  · obtain ⟨k1, k2, k3⟩ := h7 q hq
    refine ⟨Nat.lt_of_lt_of_le k1 hs, fun hx => ?_, k3⟩
    rcases (q3 q hx).1 with h | h
    · exact k2 h
    · omega

def ToldC (e : Ending) (v : Int) : Prop := ∃ c, e = .returned (.int .i64 c) ∧ (c = 5 ↔ v = 5)

theorem read_two (w : World) (K : Nat → Prop) (F G : Nat) (ff : Fs) (A A2 : Ab) (n : Nat) (h : Two w K F G ff A A2 n) (hg : Good A n) (hn : n ≤ 1000) (ho : 0 ≤ ff.ops ∧ ff.ops ≤ n) (at_ k : Int) (hat : -9223372036854775808 ≤ at_ ∧ at_ ≤ 9223372036854775807) (hk : -9223372036854775808 ≤ k ∧ k ≤ 9223372036854775807) :
    Calls Try.prog 26 #[.pointer (some ⟨F, 0, none⟩), .int .i64 at_, .int .i64 k] w fun e w' => (∃ v c, e = .returned (.tuple #[v, .int .i64 c]) ∧ (c = 5 ↔ ff.said = 5)) ∧ FDid w w' K F G ff A A2 n := by
  obtain ⟨Xf, Xg, fg, h1, h2, h3, h4, h5, h6, h7⟩ := h
  refine (read_any w Xf F ff A h1 (fun q hq => (h3 q hq).1) (by omega) hg.s at_ k hat hk).mono ?_
  rintro e w' ⟨a, cap, l, c, rfl, _, _, _, hc, hd⟩
  exact ⟨⟨_, c, rfl, hc⟩, two_did h2 h3 h4 h5 h6 h7 hd⟩

theorem write_two (w : World) (K : Nat → Prop) (F G : Nat) (ff : Fs) (A A2 : Ab) (n : Nat) (h : Two w K F G ff A A2 n) (hg : Good A n) (hn : n ≤ 1000) (ho : 0 ≤ ff.ops ∧ ff.ops ≤ n) (at_ k : Int) (a : Option Addr) (cap : Nat) (p : List Int) (hp : Lies w a p) (hpl : p.length ≤ 1500) (hpk : p ≠ [] → ∀ x, a = some x → K x.block) (hat : -9223372036854775808 ≤ at_ ∧ at_ ≤ 9223372036854775807) :
    Calls Try.prog 23 #[.pointer (some ⟨F, 0, none⟩), .int .i64 at_, .slice a p.length cap] w fun e w' => ToldC e ff.said ∧ FDid w w' K F G ff (if ff.said = 5 then A else A.op ⟨2, at_, k, a, cap, p⟩) A2 n := by
  obtain ⟨Xf, Xg, fg, h1, h2, h3, h4, h5, h6, h7⟩ := h
  refine (write_any w Xf F ff A h1 (hg.fit hn (fun q hq => (h3 q hq).1) ho) at_ k a cap p hp hpl (fun hl x hx hxx => (h7 _ (hpk hl x hx)).2.1 hxx) hat).mono ?_
  rintro e w' ⟨c, rfl, hc, hd⟩
  exact ⟨⟨c, rfl, hc⟩, two_did h2 h3 h4 h5 h6 h7 hd⟩

theorem trunc_two (w : World) (K : Nat → Prop) (F G : Nat) (ff : Fs) (A A2 : Ab) (n : Nat) (h : Two w K F G ff A A2 n) (hg : Good A n) (hn : n ≤ 1000) (ho : 0 ≤ ff.ops ∧ ff.ops ≤ n) (at_ k : Int) (a : Option Addr) (cap : Nat) (p : List Int) :
    Calls Try.prog 27 #[.pointer (some ⟨F, 0, none⟩), .int .i64 k] w fun e w' => ToldC e ff.said ∧ FDid w w' K F G ff (if ff.said = 5 then A else A.op ⟨3, at_, k, a, cap, p⟩) A2 n := by
  obtain ⟨Xf, Xg, fg, h1, h2, h3, h4, h5, h6, h7⟩ := h
  refine (trunc_any w Xf F ff A h1 (hg.fit hn (fun q hq => (h3 q hq).1) ho) k at_ a cap p).mono ?_
  rintro e w' ⟨c, rfl, hc, hd⟩
  exact ⟨⟨c, rfl, hc⟩, two_did h2 h3 h4 h5 h6 h7 hd⟩

theorem flush_two (w : World) (K : Nat → Prop) (F G : Nat) (ff : Fs) (A A2 : Ab) (n : Nat) (h : Two w K F G ff A A2 n) (hg : Good A n) (hn : n ≤ 1000) (ho : 0 ≤ ff.ops ∧ ff.ops ≤ n) (at_ k : Int) (a : Option Addr) (cap : Nat) (p : List Int) :
    Calls Try.prog 22 #[.pointer (some ⟨F, 0, none⟩)] w fun e w' => ToldC e ff.said ∧ FDid w w' K F G ff (if ff.said = 5 then A else A.op ⟨4, at_, k, a, cap, p⟩) A2 n := by
  obtain ⟨Xf, Xg, fg, h1, h2, h3, h4, h5, h6, h7⟩ := h
  refine (flush_any w Xf F ff A h1 (hg.fit hn (fun q hq => (h3 q hq).1) ho) k at_ a cap p).mono ?_
  rintro e w' ⟨c, rfl, hc, _, hd⟩
  exact ⟨⟨c, rfl, hc⟩, two_did h2 h3 h4 h5 h6 h7 hd⟩

theorem refuse_two (w : World) (K : Nat → Prop) (F G : Nat) (ff : Fs) (A A2 : Ab) (n : Nat) (h : Two w K F G ff A A2 n) (hn : n ≤ 1000) (ho : 0 ≤ ff.ops ∧ ff.ops ≤ n) :
    Calls Try.prog 24 #[.pointer (some ⟨F, 0, none⟩), .int .i64 1] w fun e w' => e = .returned (.tuple #[]) ∧ Two w' K F G { ff with refuse := ff.ops + 1, stop := 0 } A A2 n ∧ Chg (fun q => ¬ K q) w w' := by
  obtain ⟨Xf, Xg, fg, h1, h2, h3, h4, h5, h6, h7⟩ := h
  have hxF : Xf F := by obtain ⟨R, q1, _⟩ := h1; exact q1.xF
  refine (refuse_one w Xf F ff A h1 (by omega)).mono ?_
  rintro e w' ⟨rfl, hh, hc⟩
  have hs := hc.size
  exact ⟨rfl, ⟨Xf, Xg, fg, hh, h2.chg hc (fun q hx e => by subst e; exact (h3 q hxF).2 hx), fun q hq => ⟨Nat.lt_of_lt_of_le (h3 q hq).1 hs, (h3 q hq).2⟩, fun q hq => Nat.lt_of_lt_of_le (h4 q hq) hs, h5, h6, fun q hq => ⟨Nat.lt_of_lt_of_le (h7 q hq).1 hs, (h7 q hq).2⟩⟩, hc.mono (fun q _ e hk => by subst e; exact (h7 q hk).2.1 hxF)⟩

theorem ops_two (w : World) (K : Nat → Prop) (F G : Nat) (ff : Fs) (A A2 : Ab) (n : Nat) (h : Two w K F G ff A A2 n) :
    Calls Try.prog 12 #[.pointer (some ⟨F, 0, none⟩)] w fun e w' => e = .returned (.int .i64 ff.ops) ∧ w' = w := by
  obtain ⟨Xf, Xg, fg, ⟨R, h1, _⟩, _⟩ := h
  exact ops_file w F ff h1.at_

/-- The other file and the reference's do an operation. -/
theorem done_two (w0 : World) (K : Nat → Prop) (F G : Nat) (ff : Fs) (A A2 : Ab) (n : Nat) (h : Two w0 K F G ff A A2 n) (hg : Good A2 n) (hn : n < 1000) (av : Option Addr) (cv : Nat) (T : List Int) (hT : Sl w0 av cv T) (hTl : T.length ≤ 4194304) (hTk : T ≠ [] → ∀ x, av = some x → K x.block) (o : GOp) (hk : 1 ≤ o.kind ∧ o.kind ≤ 4) (hfit : o.fit) (hb : o.b.length ≤ 1500) (hsl : Sl w0 o.a o.cap o.b) (hK : o.b ≠ [] → ∀ x, o.a = some x → K x.block) :
    Calls Try.prog 11 #[.pointer (some ⟨G, 0, none⟩), .pointer (some ⟨w0.heap.size, 0, none⟩), .agg #[.int .i64 o.kind, .int .i64 o.at_, .int .i64 o.n, .slice o.a o.b.length o.cap]]
      (w0.alloc (.cells #[.slice av T.length cv, .slice none 0 0, .int .i64 0, .int .i64 0, .int .i64 0, .int .i64 0] 34)) fun e w' => ToldB e ∧ Two w' K F G ff A (A2.op o) (n + 1) ∧ Chg (fun q => ¬ K q) w0 w' := by
  obtain ⟨Xf, Xg, fg, h1, h2, h3, h4, h5, h6, h7⟩ := h
  obtain ⟨w, hw⟩ : ∃ w, w = w0.alloc (.cells #[.slice av T.length cv, .slice none 0 0, .int .i64 0, .int .i64 0, .int .i64 0, .int .i64 0] 34) := ⟨_, rfl⟩
  have hsz : w.heap.size = w0.heap.size + 1 := by rw [hw]; simp
  have hb0 : Below w0.heap.size w0 w := by rw [hw]; exact (Below.refl _ _).alloc (Nat.le_refl _) _
  have hat : RAt w w0.heap.size ⟨.slice av T.length cv, .slice none 0 0, 0, 0⟩ := by rw [hw]; exact heap_alloc_new w0 _
  rw [← hw]
  have hap : ∀ (a : Option Addr) (l : List Int), (l ≠ [] → ∀ x, a = some x → K x.block) → Apart K w0.heap.size (.slice none 0 0) a l := fun a l hh hl x hx => ⟨hh hl x hx, fun e => by have := (h7 _ (hh hl x hx)).1; omega, by simp [Value.ownBlock]⟩
  have href : Ref w (fun q => q = w0.heap.size) K w0.heap.size ⟨.slice av T.length cv, .slice none 0 0, 0, 0⟩ T [] n :=
    ⟨hat, rfl, ⟨av, cv, rfl, hT.below hb0, hap av T hTk⟩, hTl, World.ownsRow_nil _ _ _ _, fun g hg => by simp [Value.ownBlock] at hg, fun r hr => by simp at hr, by simp, by simp, by simp⟩
  have hp : Pair w Xg (fun q => q = w0.heap.size) K G fg A2 w0.heap.size ⟨.slice av T.length cv, .slice none 0 0, 0, 0⟩ T [] n :=
    ⟨h2.below hb0, href, hg.fit (by omega) (fun q hq => by have := h4 q hq; omega) h6, fun q hq => by omega, fun q hq => by have := (h7 q hq).1; omega, fun q hq => ⟨fun e => by have := h4 q hq; omega, fun hkq => (h7 q hkq).2.2 hq⟩⟩
  have h0 := said_zero h5 h6.1
  have hfin : ∀ w', PDid w w' Xg (fun q => q = w0.heap.size) K G fg (A2.op o) w0.heap.size (n + 1) → Two w' K F G ff A (A2.op o) (n + 1) ∧ Chg (fun q => ¬ K q) w0 w' := by
    intro w' hd
    obtain ⟨X', Y', Z', f', m, s, R, d1, d2, d3, d4, d5, d6, ⟨e1, e2, e3⟩, d8, d9, d10, d11⟩ := hd
    have hs := d11.size
    have hcc : Chg (fun q => Xg q ∨ q = w0.heap.size) w0 w' := (Chg.of_below hb0).trans d11
    refine ⟨⟨Xf, X', f', h1.chg hcc (fun q hx hy => ?_), d1, fun q hq => ⟨by have := (h3 q hq).1; omega, fun hx => ?_⟩, d3, ⟨by rw [e2]; exact h5.1, by rw [e3]; exact h5.2⟩, by omega, fun q hq => ?_⟩, hcc.mono (fun q hq hy hk => ?_)⟩
    · rcases hy with hy | hy
      · exact (h3 q hx).2 hy
      · have := (h3 q hx).1; omega
    · rcases d8 q hx with h | h
      · exact (h3 q hq).2 h
      · have := (h3 q hq).1; omega
    · obtain ⟨k1, k2, k3⟩ := h7 q hq
      refine ⟨by omega, k2, fun hx => ?_⟩
      rcases d8 q hx with h | h
      · exact k3 h
      · omega
    · obtain ⟨k1, k2, k3⟩ := h7 q hk
      rcases hy with hy | hy
      · exact k3 hy
      · omega
  obtain ⟨kind, at_, k, a, cap, b⟩ := o
  simp only at *
  have hsl' := hsl.below hb0
  by_cases c1 : kind = 1
  · subst c1
    refine (done_read w Xg _ K G fg A2 _ _ T [] n hp (by omega) at_ k a cap b.length hfit.2.1 hfit.2.2.1).mono ?_
    rintro e w' ⟨he, hd⟩
    exact ⟨he, hfin w' hd⟩
  by_cases c2 : kind = 2
  · subst c2
    refine (done_write w Xg _ K G fg A2 _ _ T [] n hp (by omega) at_ k a cap b hfit.2.1 hsl' hb (hap a b hK)).mono ?_
    rintro e w' ⟨he, hd⟩
    rw [h0, if_neg (by decide)] at hd
    exact ⟨he, hfin w' hd⟩
  by_cases c3 : kind = 3
  · subst c3
    refine (done_cut w Xg _ K G fg A2 _ _ T [] n hp (by omega) at_ k a cap b).mono ?_
    rintro e w' ⟨he, hd⟩
    rw [h0, if_neg (by decide)] at hd
    exact ⟨he, hfin w' hd⟩
  · obtain rfl : kind = 4 := by omega
    refine (done_flush w Xg _ K G fg A2 _ _ T [] n hp (by omega) at_ k a cap b).mono ?_
    rintro e w' ⟨he, hd⟩
    rw [h0, if_neg (by decide)] at hd
    exact ⟨he, hfin w' hd⟩

end Go.Proofs.Ytnhbncbiflnapaa.Oct
