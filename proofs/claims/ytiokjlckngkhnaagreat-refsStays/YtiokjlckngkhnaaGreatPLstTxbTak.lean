/- Regions that draw their order, with guarded operations that are skipped: one operation is taken, or skipped, its place given. -/
import Derived.Test.YtiokjlckngkhnaaGreatPRdLowWr
import Derived.Test.YtiokjlckngkhnaaGreatPAppChg
import Derived.Test.YtiokjlckngkhnaaGreatPUse
import Derived.OrdersHeld
import Derived.Deep.RegionHeld3
import Derived.Test.YtiokjlckngkhnaaGreatPNumMem
namespace Go.Proofs.YtiokjlckngkhnaaGreat.Oct
open Go.RowKit


theorem Zeros_any (n : Nat) (w : World) (hn : n ≤ 1000000) :
    Calls Tryz.prog 16 #[.int .i64 n] w fun e w' => ∃ v, e = .returned v ∧ Own w' w.heap.size v (List.replicate n 0) ∧ Below w.heap.size w w' := by
  have hmk := run_make_bytes w n (by omega)
  have ho := Own.made w n (by unfold maxLen; omega)
  have HO := hide ho
  clear ho
  go_enter Tryz.func16, Tryz.ntmps16
  go_wp2
  go_ret
  exact ⟨.slice (some ⟨_, 0, none⟩) n n, rfl, HO.out, (Below.refl _ _).alloc (Nat.le_refl _) _⟩

/-- A number's first bytes, the lowest first. -/
def bytesOf (v : Int) : Nat → List Int
  | 0 => []
  | k + 1 => bytesOf v k ++ [v / 256 ^ k % 256]

theorem bytesOf_length (v : Int) : ∀ k, (bytesOf v k).length = k
  | 0 => rfl
  | k + 1 => by simp [bytesOf, bytesOf_length v k]

theorem Byts.one (x : Int) (hx : 0 ≤ x ∧ x < 256) : Byts [x] := by
  intro k
  match k with
  | 0 => simpa using hx
  | k + 1 => simp

theorem Byts.bytesOf (v : Int) : ∀ k, Byts (bytesOf v k)
  | 0 => by intro k; simp [Oct.bytesOf]
  | k + 1 => (Byts.bytesOf v k).append (Byts.one _ (by omega))

theorem lies_one (w : World) (x : Int) : Lies (w.alloc (.cells #[.int .u8 x] 5)) (some ⟨w.heap.size, 0, none⟩) [x] := by
  refine Lies.mk fun k hk => ?_
  have : k = 0 := by simpa using hk
  subst this
  simp

theorem div_step (v : Int) (k : Nat) : v / 256 ^ k / 256 = v / 256 ^ (k + 1) := by
  rw [Int.pow_succ, Int.ediv_ediv_of_nonneg (by exact Int.le_of_lt (Int.pow_pos (by omega)))]

set_option maxRecDepth 100000 in
set_option maxHeartbeats 1000000 in
theorem Bytes_any (v : Int) (n : Nat) (w : World) (hn : n ≤ 8) (hv0 : 0 ≤ v) (hv : v < 18446744073709551616) :
    Calls Tryz.prog 12 #[.int .u64 v, .int .i64 n] w fun e w' => ∃ r, e = .returned r ∧ Own w' w.heap.size r (bytesOf v n) ∧ Below w.heap.size w w' := by
  go_enter Tryz.func12, Tryz.ntmps12
  go_wp2
  go_loopw [0, 5, 6] (fun x r i wr => ∃ k : Nat, k ≤ n ∧ i = .int .i64 k ∧ x = .int .u64 (v / 256 ^ k) ∧ Own wr w.heap.size r (bytesOf v k) ∧ Below w.heap.size w wr) (fun _ _ i _ => n - (intOf i).toNat)
  case atStart => exact ⟨0, by omega, rfl, by simp, Own.nil _ _, Below.refl _ _⟩
  case round =>
    obtain ⟨k, hk, rfl, rfl, ho, hbel⟩ := hrel
    by_cases hlt : k < n
    · have hy0 : 0 ≤ v / 256 ^ k := Int.ediv_nonneg hv0 (Int.le_of_lt (Int.pow_pos (by omega)))
      have hy1 : v / 256 ^ k < 18446744073709551616 := Int.lt_of_le_of_lt (Int.ediv_le_self _ hv0) hv
      have HS : Hid (v / 256 ^ k / 256 = v / 256 ^ (k + 1)) := div_step v k
      have HK : Hid (bytesOf v (k + 1) = bytesOf v k ++ [v / 256 ^ k % 256]) := rfl
      have hbl := bytesOf_length v k
      have HBL := hide hbl
      clear hbl
      generalize v / 256 ^ k = y at *
      go_wp2_with (at_builtin; refine wpList_append_bytes rfl _ _ 35 rfl Tryz.underlying35 info5 w.heap.size _ (bytesOf v k) rfl (by exact ho.alloc _) _ _ _ [y % 256] rfl rfl (by exact lies_one _ _) (by rw [HBL.out]; simp; omega) (by have := hbel.size; simp; omega) ?_; intro v' w1 ho' hg')
      go_roundw
      case rel =>
        refine ⟨k + 1, by omega, by go_num, by rw [HS.out], ?_, Own.behind (ho.alloc _) (hbel.alloc hbel.size _) hg' (by have := hbel.size; simp; omega)⟩
        rw [HK.out]
        exact ho'
      case measure => simp [intOf]; omega
    · have hk4 : k = n := by omega
      subst hk4
      go_wp2
      go_ret
      exact ⟨_, rfl, ho, hbel⟩

set_option maxHeartbeats 1000000 in
/-- Bytes, others in the place of some. -/
theorem With_some (b off cap : Nat) (l : List Int) (a' : Option Addr) (cap' : Nat) (m : List Int) (p : Nat) (w : World) (hlen : l.length ≤ 1000000) (hlen' : m.length ≤ 1000000) (hpos : 0 < l.length) (hfit : p + m.length ≤ l.length)
    (hcap : l.length ≤ cap) (hl : Lies w (some ⟨b, off, none⟩) l) (hl' : Lies w a' m) :
    Calls Tryz.prog 15 #[.slice (some ⟨b, off, none⟩) l.length cap, .int .i64 p, .slice a' m.length cap'] w fun e w' => ∃ v, e = .returned v ∧ Own w' w.heap.size v (over l p m) ∧ Below w.heap.size w w' := by
  have h1 : Lies w (some ⟨b, off, none⟩) (l.take p) := by have := hl.of_part 0 p; simpa using this
  have e1 : (l.take p).length = p := by simp; omega
  have H1 := hide h1
  have H2 := hide hl'
  have H3 := hide hl
  have HE1 := hide e1
  clear h1 hl hl' e1
  by_cases hrest : p + m.length < l.length
  · go_enter Tryz.func15, Tryz.ntmps15
    go_wp2_with (first
      | (at_builtin; refine wpList_append_bytes rfl _ _ 35 rfl Tryz.underlying35 info5 w.heap.size _ [] rfl (Own.nil _ _) _ _ _ (l.take p) rfl HE1.out.symm (by exact H1.out) (by rw [HE1.out]; simp; omega) (by exact Nat.le_refl _) ?_; intro v1 w1 ho1 hg1; have HB1 := hide (Own.behind (Own.nil _ _) (Below.refl _ _) hg1 (Nat.le_refl _)); clear hg1)
      | (at_builtin; refine wpList_append_bytes rfl _ _ 35 rfl Tryz.underlying35 info5 w.heap.size _ ([] ++ l.take p) rfl ho1 _ _ _ m rfl rfl (by exact H2.out.below HB1.out) (by rw [List.nil_append, HE1.out]; omega) (by exact HB1.out.size) ?_; intro v2 w2 ho2 hg2; have HB2 := hide (Own.behind ho1 HB1.out hg2 HB1.out.size); clear hg2)
      | (at_builtin; refine wpList_append_bytes rfl _ _ 35 rfl Tryz.underlying35 info5 w.heap.size _ ([] ++ l.take p ++ m) rfl ho2 _ _ _ ((l.drop (p + m.length)).take (l.length - (p + m.length))) rfl (by simp) (by exact (H3.out.of_part (p + m.length) (l.length - (p + m.length))).below HB2.out) (by simp; omega) (by exact HB2.out.size) ?_; intro v3 w3 ho3 hg3; have HB3 := hide (Own.behind ho2 HB2.out hg3 HB2.out.size); clear hg3))
    go_ret
    refine ⟨_, rfl, ?_, HB3.out⟩
    have e : over l p m = [] ++ l.take p ++ m ++ (l.drop (p + m.length)).take (l.length - (p + m.length)) := by
      have e0 : (l.drop (p + m.length)).take (l.length - (p + m.length)) = l.drop (p + m.length) := List.take_of_length_le (by simp)
      rw [e0]
      simp [over]
    rw [e]
    exact ho3
  · go_enter Tryz.func15, Tryz.ntmps15
    go_wp2_with (first
      | (at_builtin; refine wpList_append_bytes rfl _ _ 35 rfl Tryz.underlying35 info5 w.heap.size _ [] rfl (Own.nil _ _) _ _ _ (l.take p) rfl HE1.out.symm (by exact H1.out) (by rw [HE1.out]; simp; omega) (by exact Nat.le_refl _) ?_; intro v1 w1 ho1 hg1; have HB1 := hide (Own.behind (Own.nil _ _) (Below.refl _ _) hg1 (Nat.le_refl _)); clear hg1)
      | (at_builtin; refine wpList_append_bytes rfl _ _ 35 rfl Tryz.underlying35 info5 w.heap.size _ ([] ++ l.take p) rfl ho1 _ _ _ m rfl rfl (by exact H2.out.below HB1.out) (by rw [List.nil_append, HE1.out]; omega) (by exact HB1.out.size) ?_; intro v2 w2 ho2 hg2; have HB2 := hide (Own.behind ho1 HB1.out hg2 HB1.out.size); clear hg2)
      | (at_builtin; refine wpList_append_bytes rfl _ _ 35 rfl Tryz.underlying35 info5 w.heap.size _ ([] ++ l.take p ++ m) rfl ho2 _ _ _ [] rfl (by simp; omega) (by exact Lies.nil _ _) (by simp; omega) (by exact HB2.out.size) ?_; intro v3 w3 ho3 hg3; have HB3 := hide (Own.behind ho2 HB2.out hg3 HB2.out.size); clear hg3))
    all_goals
      go_ret
      refine ⟨_, rfl, ?_, HB3.out⟩
      have e : over l p m = [] ++ l.take p ++ m ++ [] := by
        simp [over]
        omega
      rw [e]
      exact ho3

set_option maxHeartbeats 400000 in
theorem With_zero (a : Option Addr) (cap : Nat) (a' : Option Addr) (cap' : Nat) (w : World) (hn : a = none → cap = 0) (hcm : cap ≤ maxLen) (hn' : a' = none → cap' = 0) :
    Calls Tryz.prog 15 #[.slice a 0 cap, .int .i64 0, .slice a' 0 cap'] w fun e w' => ∃ v, e = .returned v ∧ Own w' w.heap.size v [] ∧ Below w.heap.size w w' := by
  unfold maxLen at hcm
  cases a with
  | none =>
    obtain rfl := hn rfl
    clear hn
    cases a' with
    | none =>
      obtain rfl := hn' rfl
      go_enter Tryz.func15, Tryz.ntmps15
      go_wp2_with fail
      go_ret
      exact ⟨_, rfl, Own.nil _ _, Below.refl _ _⟩
    | some y =>
      clear hn'
      go_enter Tryz.func15, Tryz.ntmps15
      go_wp2_with fail
      go_ret
      exact ⟨_, rfl, Own.nil _ _, Below.refl _ _⟩
  | some x =>
    clear hn
    cases a' with
    | none =>
      obtain rfl := hn' rfl
      go_enter Tryz.func15, Tryz.ntmps15
      go_wp2_with fail
      all_goals
        go_ret
        exact ⟨_, rfl, Own.nil _ _, Below.refl _ _⟩
    | some y =>
      clear hn'
      go_enter Tryz.func15, Tryz.ntmps15
      go_wp2_with fail
      all_goals
        go_ret
        exact ⟨_, rfl, Own.nil _ _, Below.refl _ _⟩

theorem With_any (a : Option Addr) (cap : Nat) (l : List Int) (a' : Option Addr) (cap' : Nat) (m : List Int) (p : Nat) (w : World) (hlen : l.length ≤ 1000000) (hlen' : m.length ≤ 1000000) (hfit : p + m.length ≤ l.length)
    (hs : Sl w a cap l) (hs' : Sl w a' cap' m) :
    Calls Tryz.prog 15 #[.slice a l.length cap, .int .i64 p, .slice a' m.length cap'] w fun e w' => ∃ v, e = .returned v ∧ Own w' w.heap.size v (over l p m) ∧ Below w.heap.size w w' := by
  by_cases h0 : l = []
  · subst h0
    have hz : p + m.length ≤ 0 := hfit
    have hp : p = 0 := by omega
    have hm : m = [] := List.length_eq_zero_iff.1 (by omega)
    subst hp hm
    exact With_zero a cap a' cap' w hs.none hs.max hs'.none
  · rcases hs.lies with h | ⟨b, off, rfl, _, hc⟩
    · exact absurd h h0
    · exact With_some b off cap l a' cap' m p w hlen hlen' (List.length_pos_iff.2 h0) hfit hs.le hs.lies hs'.lies


end Go.Proofs.YtiokjlckngkhnaaGreat.Oct

namespace Go.Proofs.YtiokjlckngkhnaaGreat.Oct
open Go.RowKit Go.Deep

/-- A file's length. -/
theorem len_file (w : World) (X : Nat → Prop) (F : Nat) (f : Fs) (S T : List Int) (R : List Wr) (h : Fil w X F f S T R) :
    Calls Tryz.prog 42 #[.pointer (some ⟨F, 0, none⟩)] w fun e w' => e = .returned (.int .i64 S.length) ∧ w' = w := by
  have h0 := h.at_.cell.1
  obtain ⟨a, c, e, hs, _⟩ := h.seen.sl
  rw [e] at h0
  clear h hs
  go_enter Tryz.func42, Tryz.ntmps42
  go_wp2_with fail
  go_ret
  exact ⟨rfl, rfl⟩

/-- A journal's fields lie in block J. -/
def Jrn (w : World) (J F : Nat) (p q : Int) (n : Int) : Prop := w.heap[J]? = some (.cells #[.pointer (some ⟨F, 0, none⟩), .int .i64 p, .int .i64 q, .int .u64 n] 92 (0, 0))

theorem Jrn.below {w w' : World} {J F : Nat} {p q n : Int} (h : Jrn w J F p q n) (hb : Below w.heap.size w w') : Jrn w' J F p q n :=
  (hb.block J (Array.getElem?_eq_some_iff.1 h).1).trans h

set_option maxHeartbeats 1000000 in
theorem jnew_ok (w : World) (X : Nat → Prop) (F : Nat) (f : Fs) (S T : List Int) (R : List Wr) (h : Fil w X F f S T R) (p s : Nat) (hp : p % 512 = 0) (hs : s % 512 = 0) (hs2 : 1024 ≤ s) (hf : p + s ≤ S.length) (hS : S.length ≤ 4194304) :
    Calls Tryz.prog 22 #[.pointer (some ⟨F, 0, none⟩), .int .i64 p, .int .i64 s] w fun e w' => ∃ J, e = .returned (.tuple #[.pointer (some ⟨J, 0, none⟩), .int .i64 0]) ∧ w.heap.size ≤ J ∧ Jrn w' J F p (p + s) 0 ∧ Below w.heap.size w w' := by
  have HL := hide (len_file w X F f S T R h)
  generalize S.length = n at *
  have d1 : (p : Int).tmod 512 = 0 := by rw [Int.tmod_eq_emod_of_nonneg (by omega)]; omega
  have d2 : (s : Int).tmod 512 = 0 := by rw [Int.tmod_eq_emod_of_nonneg (by omega)]; omega
  have d3 : (p : Int) % 512 = 0 := by omega
  have d4 : (s : Int) % 512 = 0 := by omega
  clear h
  go_enter Tryz.func22, Tryz.ntmps22
  go_wp2_with fail
  refine HL.out.mono ?_
  rintro e9 w2 ⟨rfl, h2⟩
  subst h2
  go_wp2_with fail
  go_ret2
  exact ⟨_, rfl, Nat.le_refl _, heap_alloc_new _ _, (Below.refl _ _).alloc (Nat.le_refl _) _⟩

/-- Changes' fields lie in block T. -/
def Txs (w : World) (T J : Nat) (vb vm va : Value) (d : Bool) : Prop := w.heap[T]? = some (.cells #[.pointer (some ⟨J, 0, none⟩), vb, vm, va, .bool d] 76 (0, 0))

theorem Txs.below {w w' : World} {T J : Nat} {vb vm va : Value} {d : Bool} (h : Txs w T J vb vm va d) (hb : Below w.heap.size w w') : Txs w' T J vb vm va d :=
  (hb.block T (Array.getElem?_eq_some_iff.1 h).1).trans h

theorem Txs.lt {w : World} {T J : Nat} {vb vm va : Value} {d : Bool} (h : Txs w T J vb vm va d) : T < w.heap.size := (Array.getElem?_eq_some_iff.1 h).1
theorem Jrn.lt {w : World} {J F : Nat} {p q n : Int} (h : Jrn w J F p q n) : J < w.heap.size := (Array.getElem?_eq_some_iff.1 h).1

set_option maxHeartbeats 1000000 in
theorem begin_ok (w : World) (J : Nat) : Calls Tryz.prog 23 #[.pointer (some ⟨J, 0, none⟩)] w fun e w' => ∃ T, e = .returned (.tuple #[.pointer (some ⟨T, 0, none⟩), .int .i64 0]) ∧ w.heap.size ≤ T ∧ Txs w' T J (.map none) (.map none) (.slice none 0 0) false ∧ Below w.heap.size w w' := by
  go_enter Tryz.func23, Tryz.ntmps23
  go_wp2_with fail
  go_ret2
  exact ⟨_, rfl, Nat.le_refl _, heap_alloc_new _ _, (Below.refl _ _).alloc (Nat.le_refl _) _⟩

/-- Changes of a file that begin: their blocks are apart. -/
structure Bgn (w w' : World) (T J F : Nat) (p q : Int) (S : List Int) : Prop where
  below : Below w.heap.size w w'
  tx : Txs w' T J (.map none) (.map none) (.slice none 0 0) false
  jr : Jrn w' J F p q 0
  fil : ∃ v1 v2, Fil w' (fun k => w.heap.size ≤ k ∧ k < J) F ⟨v1, v2, .slice none 0 0, 0, 0, 0, 0, false⟩ S S []
  jt : J < T
  wj : w.heap.size ≤ J

end Go.Proofs.YtiokjlckngkhnaaGreat.Oct

namespace Go.Proofs.YtiokjlckngkhnaaGreat.Oct
open Go.RowKit

theorem any_take {P : Program} {md : Region.Mode} {ops : Array Oper} {Q : Exit → Act → World → Prop} {S : World → Prop} {fuel : Nat} {listed : Array Bool} {a : Act} {w : World} (i : Nat) (d : Option Tmp) (v : Value) {oi : Oper}
    (hi : ops[i]? = some oi) (hd : oi.dst = d) (hs : Region.noSelect ops = true) (hf : Region.free md ops listed i = true) (hr : (Region.ready md ops listed).contains i = true)
    (hQ : ∀ c a w, Q (.panic c) (a.put d v) w → Q (.panic c) a w) (hw : Region.wanted oi (yielded ops a.tmps) = true) (hS : S w) (hy : ∀ w, S w → (execOp a.eval oi).run P w = .ok (.value v) w)
    (h : wpAnyH P md ops Q S fuel (listed.setIfInBounds i true) (a.put d v) w) : wpAnyH P md ops Q S (fuel + 1) listed a w := by
  subst hd
  exact wpAnyH_take hi hs hf hr hQ (Or.inl ⟨hw, hy⟩) hS h

theorem any_skip {P : Program} {md : Region.Mode} {ops : Array Oper} {Q : Exit → Act → World → Prop} {S : World → Prop} {fuel : Nat} {listed : Array Bool} {a : Act} {w : World} (i : Nat) (d : Option Tmp) {oi : Oper}
    (hi : ops[i]? = some oi) (hd : oi.dst = d) (hs : Region.noSelect ops = true) (hf : Region.free md ops listed i = true) (hr : (Region.ready md ops listed).contains i = true)
    (hQ : ∀ c a w, Q (.panic c) (a.put d undef) w → Q (.panic c) a w) (hw : Region.wanted oi (yielded ops a.tmps) = false) (hS : S w)
    (h : wpAnyH P md ops Q S fuel (listed.setIfInBounds i true) (a.put d undef) w) : wpAnyH P md ops Q S (fuel + 1) listed a w := by
  subst hd
  exact wpAnyH_take hi hs hf hr hQ (Or.inr ⟨hw, rfl⟩) hS h
end Go.Proofs.YtiokjlckngkhnaaGreat.Oct
