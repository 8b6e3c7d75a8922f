/- A journal of a file, and changes that begin. -/
import Derived.Test.YtghdngmmlnffkaaUse
import Derived.Test.YtghdngmmlnffkaaLst
namespace Go.Proofs.Ytghdngmmlnffkaa.Oct
open Go.RowKit Go.Deep

/-- A file's length. -/
theorem len_file (w : World) (X : Nat → Prop) (F : Nat) (f : Fs) (S T : List Int) (R : List Wr) (h : Fil w X F f S T R) :
    Calls Try.prog 30 #[.pointer (some ⟨F, 0, none⟩)] w fun e w' => e = .returned (.int .i64 S.length) ∧ w' = w := by
  have h0 := h.at_.cell.1
  obtain ⟨a, c, e, hs, _⟩ := h.seen.sl
  rw [e] at h0
  clear h hs
  go_enter Try.func30, Try.ntmps30
  go_wp2_with fail
  go_ret
  exact ⟨rfl, rfl⟩

/-- A journal's fields lie in block J. -/
def Jrn (w : World) (J F : Nat) (p q : Int) (n : Int) : Prop := w.heap[J]? = some (.cells #[.pointer (some ⟨F, 0, none⟩), .int .i64 p, .int .i64 q, .int .u64 n] 80 (0, 0))

theorem Jrn.below {w w' : World} {J F : Nat} {p q n : Int} (h : Jrn w J F p q n) (hb : Below w.heap.size w w') : Jrn w' J F p q n :=
  (hb.block J (Array.getElem?_eq_some_iff.1 h).1).trans h

set_option maxHeartbeats 1000000 in
theorem jnew_ok (w : World) (X : Nat → Prop) (F : Nat) (f : Fs) (S T : List Int) (R : List Wr) (h : Fil w X F f S T R) (p s : Nat) (hp : p % 512 = 0) (hs : s % 512 = 0) (hs2 : 1024 ≤ s) (hf : p + s ≤ S.length) (hS : S.length ≤ 4194304) :
    Calls Try.prog 17 #[.pointer (some ⟨F, 0, none⟩), .int .i64 p, .int .i64 s] w fun e w' => ∃ J, e = .returned (.tuple #[.pointer (some ⟨J, 0, none⟩), .int .i64 0]) ∧ w.heap.size ≤ J ∧ Jrn w' J F p (p + s) 0 ∧ Below w.heap.size w w' := by
  have HL := hide (len_file w X F f S T R h)
  generalize S.length = n at *
  have d1 : (p : Int).tmod 512 = 0 := by rw [Int.tmod_eq_emod_of_nonneg (by omega)]; omega
  have d2 : (s : Int).tmod 512 = 0 := by rw [Int.tmod_eq_emod_of_nonneg (by omega)]; omega
  have d3 : (p : Int) % 512 = 0 := by omega
  have d4 : (s : Int) % 512 = 0 := by omega
  clear h
  go_enter Try.func17, Try.ntmps17
  go_wp2_with fail
  refine HL.out.mono ?_
  rintro e9 w2 ⟨rfl, h2⟩
  subst h2
  go_wp2_with fail
  go_ret2
  exact ⟨_, rfl, Nat.le_refl _, heap_alloc_new _ _, (Below.refl _ _).alloc (Nat.le_refl _) _⟩

/-- Changes' fields lie in block T. -/
def Txs (w : World) (T J : Nat) (vb vm va : Value) (d : Bool) : Prop := w.heap[T]? = some (.cells #[.pointer (some ⟨J, 0, none⟩), vb, vm, va, .bool d] 85 (0, 0))

theorem Txs.below {w w' : World} {T J : Nat} {vb vm va : Value} {d : Bool} (h : Txs w T J vb vm va d) (hb : Below w.heap.size w w') : Txs w' T J vb vm va d :=
  (hb.block T (Array.getElem?_eq_some_iff.1 h).1).trans h

theorem Txs.lt {w : World} {T J : Nat} {vb vm va : Value} {d : Bool} (h : Txs w T J vb vm va d) : T < w.heap.size := (Array.getElem?_eq_some_iff.1 h).1
theorem Jrn.lt {w : World} {J F : Nat} {p q n : Int} (h : Jrn w J F p q n) : J < w.heap.size := (Array.getElem?_eq_some_iff.1 h).1

set_option maxHeartbeats 1000000 in
theorem begin_ok (w : World) (J : Nat) : Calls Try.prog 18 #[.pointer (some ⟨J, 0, none⟩)] w fun e w' => ∃ T, e = .returned (.tuple #[.pointer (some ⟨T, 0, none⟩), .int .i64 0]) ∧ w.heap.size ≤ T ∧ Txs w' T J (.map none) (.map none) (.slice none 0 0) false ∧ Below w.heap.size w w' := by
  go_enter Try.func18, Try.ntmps18
  go_wp2_with fail
  go_ret2
  exact ⟨_, rfl, Nat.le_refl _, heap_alloc_new _ _, (Below.refl _ _).alloc (Nat.le_refl _) _⟩

/-- Changes of a file that begin: their blocks are apart. -/
structure Bgn (w w' : World) (T J F : Nat) (p q : Int) (S : List Int) : Prop where
  below : Below w.heap.size w w'
  tx : Txs w' T J (.map none) (.map none) (.slice none 0 0) false
  jr : Jrn w' J F p q 0
  fil : ∃ v1 v2, Fil w' (fun k => w.heap.size ≤ k ∧ k < J) F ⟨v1, v2, .slice none 0 0, 0, 0, 0, 0, false⟩ S S []
  jt : J < T
  wj : w.heap.size ≤ J

set_option maxRecDepth 100000 in
set_option maxHeartbeats 1000000 in
theorem begun9_any (w : World) : Calls Try.prog 5 #[] w fun e w' => ∃ T J F S, e = .returned (.tuple #[.pointer (some ⟨T, 0, none⟩), .bool true]) ∧ List.length S = 20480 ∧ S = List.replicate 20480 0 ∧ Bgn w w' T J F 512 15360 S := by
  have HZ := hide (Zeros_any 20480 w (by omega))
  obtain ⟨S, hS⟩ : ∃ S, S = List.replicate 20480 (0 : Int) := ⟨_, rfl⟩
  have hSl : S.length = 20480 := by rw [hS]; exact List.length_replicate
  have hcast : ((20480 : Nat) : Int) = 20480 := rfl
  rw [← hS, hcast] at HZ
  have HS := hide hS
  have HSl := hide hSl
  clear hS hSl hcast
  go_enter Try.func5, Try.ntmps5
  go_wp2_with fail
  refine HZ.out.mono ?_
  rintro e9 w1 ⟨v, rfl, ho1, hb1⟩
  obtain ⟨a, cap, rfl, hl, _⟩ := ho1.form
  have HN := hide (new_file w1 a cap S hl (by rw [HSl.out]; omega))
  have HB1 := hide hb1
  have hsz := hb1.size
  rw [HSl.out] at HN ⊢
  clear ho1 hb1 hl
  go_wp2_with fail
  refine HN.out.mono ?_
  rintro e9 w2 ⟨F, v1, v2, rfl, hf, hb2⟩
  have HF := hide (hf.mono (Y := fun k => w.heap.size ≤ k ∧ k < w2.heap.size) (fun k hk hx => ⟨by omega, hk⟩))
  have HB2 := hide (HB1.out.trans (hb2.mono HB1.out.size))
  have HJ := hide (jnew_ok w2 _ F _ S S [] HF.out 512 14848 (by omega) (by omega) (by omega) (by rw [HSl.out]; omega) (by rw [HSl.out]; omega))
  clear hf hb2
  go_wp2_with fail
  refine HJ.out.mono ?_
  rintro e9 w3 ⟨J, rfl, hj, hjr, hb3⟩
  have HB3 := hide (HB2.out.trans (hb3.mono HB2.out.size))
  have HF3 := hide ((HF.out.chg (Chg.of_below (X := fun _ => False) hb3) (fun k _ _ => fun h => h)).mono (Y := fun k => w.heap.size ≤ k ∧ k < J) (fun k _ hx => ⟨hx.1, by omega⟩))
  have HJr := hide hjr
  have HT := hide (begin_ok w3 J)
  have hj2 := hjr.lt
  have hj3 := HB2.out.size
  clear hjr hb3
  go_wp2_with fail
  refine HT.out.mono ?_
  rintro e9 w4 ⟨T, rfl, ht, htx, hb4⟩
  have HB4 := hide (HB3.out.trans (hb4.mono HB3.out.size))
  have HF4 := hide (HF3.out.chg (Chg.of_below (X := fun _ => False) hb4) (fun k _ _ => fun h => h))
  have HJ4 := hide (HJr.out.below hb4)
  have HTx := hide htx
  clear htx hb4
  go_wp2_with fail
  go_ret2
  exact ⟨T, J, F, S, rfl, HSl.out, HS.out, HB4.out, HTx.out, HJ4.out, ⟨v1, v2, HF4.out⟩, by omega, by omega⟩
end Go.Proofs.Ytghdngmmlnffkaa.Oct
