/- What the program's calls of an entry answer, and the document's: its number, and back. -/
import Derived.Test.YtibkhgmmjhlpmaaGreatPNumMem
import Derived.Test.YtibkhgmmjhlpmaaGreatChecked
import Derived.WalkKit
import Derived.BigQuiet
import Derived.Deep.RegionHeld3
import Derived.Laws.StructEq
namespace Go.Proofs.YtibkhgmmjhlpmaaGreat.Oct
open Go.RowKit

/-- May it be an entry? -/
def okE (k c : Int) (o : Bool) : Bool := decide (k = 2 ∧ 1 ≤ c ∧ c < 8192 ∨ (k = 0 ∨ k = 1) ∧ c = 0 ∧ o = false)

/-- An entry's number; 0 where it is none. -/
def encN (k c : Int) (o : Bool) : Int := if okE k c o then (if k = 2 then c * 256 + (if o then 9223372036854775808 else 0) else k) else 0

/-- No error, or that the form is wrong. -/
def noE (b : Bool) : Int := if b then 0 else 11

/-- The entry that a number would be. -/
def preK (v : Int) : Int := if v < 2 then v else 2
def preC (v : Int) : Int := if v < 2 then 0 else v % 9223372036854775808 / 256
def preO (v : Int) : Bool := if v < 2 then false else decide (9223372036854775808 ≤ v)

/-- Is a number an entry's? -/
def okV (v : Int) : Bool := decide (v < 2 ∨ v % 9223372036854775808 % 256 = 0 ∧ 1 ≤ v % 9223372036854775808 / 256 ∧ v % 9223372036854775808 / 256 < 8192)

def decK (v : Int) : Int := if okV v then preK v else 0
def decC (v : Int) : Int := if okV v then preC v else 0
def decOw (v : Int) : Bool := if okV v then preO v else false

theorem encN_bd (k c : Int) (o : Bool) : 0 ≤ encN k c o ∧ encN k c o < 18446744073709551616 := by
  unfold encN okE
  split
  · rename_i h
    simp only [decide_eq_true_eq] at h
    split
    · split <;> omega
    · omega
  · omega

/-- What the way back tells. -/
theorem okV_iff (v : Int) (h0 : 0 ≤ v) (h1 : v < 18446744073709551616) : okV v = (okE (preK v) (preC v) (preO v) && decide (encN (preK v) (preC v) (preO v) = v)) := by
  by_cases h2 : v < 2
  · have k1 : preK v = v := if_pos h2
    have k2 : preC v = 0 := if_pos h2
    have k3 : preO v = false := if_pos h2
    have k4 : okE v 0 false = true := decide_eq_true (Or.inr ⟨by omega, rfl, rfl⟩)
    have k5 : okV v = true := decide_eq_true (Or.inl h2)
    have k6 : encN v 0 false = v := by unfold encN; rw [if_pos k4, if_neg (by omega)]
    rw [k1, k2, k3, k4, k5, k6]; simp
  · have k1 : preK v = 2 := if_neg h2
    have k2 : preC v = v % 9223372036854775808 / 256 := if_neg h2
    have k3 : preO v = decide (9223372036854775808 ≤ v) := if_neg h2
    rw [k1, k2, k3]
    by_cases h3 : 1 ≤ v % 9223372036854775808 / 256 ∧ v % 9223372036854775808 / 256 < 8192
    · have k4 : okE 2 (v % 9223372036854775808 / 256) (decide (9223372036854775808 ≤ v)) = true := decide_eq_true (Or.inl ⟨rfl, h3⟩)
      have k6 : encN 2 (v % 9223372036854775808 / 256) (decide (9223372036854775808 ≤ v)) = v % 9223372036854775808 / 256 * 256 + (if 9223372036854775808 ≤ v then 9223372036854775808 else 0) := by
        unfold encN; rw [if_pos k4, if_pos rfl]; simp
      rw [k4, k6, Bool.true_and]
      unfold okV
      congr 1
      refine propext ⟨fun h => ?_, fun h => ?_⟩
      · split <;> omega
      · split at h <;> omega
    · have k4 : okE 2 (v % 9223372036854775808 / 256) (decide (9223372036854775808 ≤ v)) = false := decide_eq_false (by
        rintro (h | h)
        · exact h3 h.2
        · omega)
      rw [k4, Bool.false_and]
      exact decide_eq_false (by omega)

theorem enc_dec (v : Int) (h0 : 0 ≤ v) (h1 : v < 18446744073709551616) (h : okV v = true) : okE (decK v) (decC v) (decOw v) = true ∧ encN (decK v) (decC v) (decOw v) = v := by
  unfold decK decC decOw
  simp only [h, if_true]
  rw [okV_iff v h0 h1] at h
  simpa using h

theorem dec_enc (k c : Int) (o : Bool) (h : okE k c o = true) : okV (encN k c o) = true ∧ decK (encN k c o) = k ∧ decC (encN k c o) = c ∧ decOw (encN k c o) = o := by
  have hv : okV (encN k c o) = true ∧ preK (encN k c o) = k ∧ preC (encN k c o) = c ∧ preO (encN k c o) = o := by
    unfold encN
    simp only [h, if_true]
    unfold okE at h
    simp only [decide_eq_true_eq] at h
    rcases h with ⟨rfl, h1, h2⟩ | ⟨h1, rfl, rfl⟩
    · cases o
      · simp only [if_true, Bool.false_eq_true, if_false]
        unfold okV preK preC preO
        simp only [decide_eq_true_eq]
        rw [if_neg (by omega), if_neg (by omega), if_neg (by omega)]
        refine ⟨by omega, rfl, by omega, ?_⟩
        simp; omega
      · simp only [if_true]
        unfold okV preK preC preO
        simp only [decide_eq_true_eq]
        rw [if_neg (by omega), if_neg (by omega), if_neg (by omega)]
        refine ⟨by omega, rfl, by omega, ?_⟩
        simp; omega
    · have : ¬ k = 2 := by omega
      simp only [this, if_false]
      unfold okV preK preC preO
      simp only [decide_eq_true_eq]
      rw [if_pos (by omega), if_pos (by omega), if_pos (by omega)]
      exact ⟨by omega, rfl, rfl, rfl⟩
  unfold decK decC decOw
  simp only [hv.1, if_true, true_and]
  exact hv.2

/-- The highest bit. -/
theorem and_high (v : Int) (h0 : 0 ≤ v) (h1 : v < 18446744073709551616) : bits .and .u64 v 9223372036854775808 = if 9223372036854775808 ≤ v then 9223372036854775808 else 0 := by
  obtain ⟨n, rfl⟩ := Int.eq_ofNat_of_zero_le h0
  have hn : n < 18446744073709551616 := by omega
  have e : (9223372036854775808 : Int) = ((9223372036854775808 : Nat) : Int) := rfl
  rw [e, u64_and_nat n 9223372036854775808 hn (by decide)]
  by_cases h : (9223372036854775808 : Nat) ≤ n
  · rw [if_pos (by omega)]
    have e3 : n = 9223372036854775808 ||| (n - 9223372036854775808) := by rw [nat_join 63 _ _ (by decide) (by omega)]; omega
    rw [e3, Nat.and_comm]
    congr 1
    apply Nat.eq_of_testBit_eq
    intro i
    rw [Nat.testBit_and, Nat.testBit_or]
    cases Nat.testBit 9223372036854775808 i <;> simp
  · rw [if_neg (by omega)]
    have : n &&& 9223372036854775808 = 0 := by
      apply Nat.eq_of_testBit_eq
      intro i
      have e2 : (9223372036854775808 : Nat) = 2 ^ 63 := by decide
      rw [Nat.testBit_and, e2, Nat.testBit_two_pow, Nat.zero_testBit]
      by_cases hi : 63 = i
      · subst hi
        rw [Nat.testBit_lt_two_pow (by omega)]; rfl
      · simp [hi]
    rw [this]; rfl

/-- All but the highest bit. -/
theorem andNot_high (v : Int) (h0 : 0 ≤ v) (h1 : v < 18446744073709551616) : bits .andNot .u64 v 9223372036854775808 = v % 9223372036854775808 := by
  obtain ⟨n, rfl⟩ := Int.eq_ofNat_of_zero_le h0
  have hn : n < 18446744073709551616 := by omega
  have e : (9223372036854775808 : Int) = ((9223372036854775808 : Nat) : Int) := rfl
  rw [e, u64_andNot_nat n 9223372036854775808 hn (by decide)]
  have e2 : (18446744073709551615 - 9223372036854775808 : Nat) = 2 ^ 63 - 1 := by decide
  rw [e2, Nat.and_two_pow_sub_one_eq_mod]
  rfl

/-- The highest bit is set. -/
theorem or_high (v : Int) (h0 : 0 ≤ v) (h1 : v < 9223372036854775808) : bits .or .u64 v 9223372036854775808 = v + 9223372036854775808 := by
  obtain ⟨n, rfl⟩ := Int.eq_ofNat_of_zero_le h0
  have hn : n < 9223372036854775808 := by omega
  have e : (9223372036854775808 : Int) = ((9223372036854775808 : Nat) : Int) := rfl
  rw [e, u64_or_nat n 9223372036854775808 (by omega) (by decide), Nat.or_comm, nat_join 63 _ n (by decide) hn]
  omega
end Go.Proofs.YtibkhgmmjhlpmaaGreat.Oct

namespace Go.Proofs.YtibkhgmmjhlpmaaGreat.Oct
open Go.RowKit

/-- A block of the call's own stays. -/
def StE (u : World) (R : Nat) (cs : Array Value) (t : TypeId) : Prop := u.heap[R]? = some (.cells cs t (0, 0))

theorem StE.below {u u' : World} {R : Nat} {cs : Array Value} {t : TypeId} (h : StE u R cs t) (hb : Below u.heap.size u u') : StE u' R cs t :=
  (hb.block R (Array.getElem?_eq_some_iff.1 h).1).trans h
theorem StE.drew {u : World} {R : Nat} {cs : Array Value} {t : TypeId} (h : StE u R cs t) : StE u.drew R cs t := h
theorem StE.cell {u : World} {R : Nat} {cs : Array Value} {t : TypeId} (h : StE u R cs t) (i : Nat) (v : Value) (hv : cs[i]? = some v) : u.cell? ⟨R, i, none⟩ = some v := by
  unfold StE at h
  simp only [World.cell?, h]
  exact hv
theorem StE.frozen {u : World} {R : Nat} {cs : Array Value} {t : TypeId} (h : StE u R cs t) (i : Nat) : u.frozen? ⟨R, i, none⟩ = false := by
  unfold StE at h
  simp [World.frozen?, h]
theorem StE.set {u : World} {R : Nat} {cs : Array Value} {t : TypeId} (h : StE u R cs t) (i : Nat) (v : Value) : StE (u.setCell ⟨R, i, none⟩ v) R (cs.setIfInBounds i v) t :=
  heap_setCell_same u R i cs t v h
theorem StE.other {u : World} {R R' : Nat} {cs : Array Value} {t : TypeId} (h : StE u R cs t) (hne : R' ≠ R) (i : Nat) (v : Value) : StE (u.setCell ⟨R', i, none⟩ v) R cs t := by
  unfold StE at *
  rw [← h]
  exact heap_setCell_other u ⟨R', i, none⟩ R v (fun h2 => hne h2.symm)
theorem StE.new (w : World) (cs : Array Value) (t : TypeId) : StE (w.alloc (.cells cs t)) w.heap.size cs t := heap_alloc_new w _
theorem StE.new2 (w : World) (A : Obj) (cs : Array Value) (t : TypeId) : StE ((w.alloc A).alloc (.cells cs t)) (w.heap.size + 1) cs t := heap_alloc2_new w A _
theorem StE.lt {u : World} {R : Nat} {cs : Array Value} {t : TypeId} (h : StE u R cs t) : R < u.heap.size := (Array.getElem?_eq_some_iff.1 h).1
theorem StE.box {u : World} {R : Nat} {k c : Int} {o : Bool} {t : TypeId} (h : StE u R #[.int .i64 k, .int .i64 c, .bool o] t) : u.cell? ⟨R, 0, none⟩ = some (.int .i64 k) ∧ u.cell? ⟨R, 1, none⟩ = some (.int .i64 c) ∧ u.cell? ⟨R, 2, none⟩ = some (.bool o) :=
  ⟨h.cell 0 _ rfl, h.cell 1 _ rfl, h.cell 2 _ rfl⟩

set_option maxHeartbeats 1000000 in
theorem encodeData_any (k c : Int) (o : Bool) (w : World) : Calls Tryz.prog 88 #[.agg #[.int .i64 k, .int .i64 c, .bool o]] w fun e w' => e = .returned (.tuple #[.int .u64 (encN 2 c o), .int .i64 (noE (okE 2 c o))]) ∧ Below w.heap.size w w' := by
  have hb := (Below.refl w.heap.size w).alloc (Nat.le_refl _) (.cells #[.int .i64 k, .int .i64 c, .bool o] 43)
  have HB := hide hb
  obtain ⟨c0, c1, c2⟩ := (StE.new w #[.int .i64 k, .int .i64 c, .bool o] 43).box
  clear hb
  by_cases h1 : c < 1
  · have e1 : okE 2 c o = false := decide_eq_false (by rintro (h | h) <;> omega)
    have e2 : encN 2 c o = 0 := by unfold encN; rw [e1]; rfl
    rw [e1, e2]
    go_enter Tryz.func88, Tryz.ntmps88
    go_wp2
    go_ret2
    exact ⟨rfl, HB.out⟩
  by_cases h2 : 8192 ≤ c
  · have e1 : okE 2 c o = false := decide_eq_false (by rintro (h | h) <;> omega)
    have e2 : encN 2 c o = 0 := by unfold encN; rw [e1]; rfl
    rw [e1, e2]
    go_enter Tryz.func88, Tryz.ntmps88
    go_wp2
    go_ret2
    exact ⟨rfl, HB.out⟩
  have e1 : okE 2 c o = true := decide_eq_true (Or.inl ⟨rfl, by omega, by omega⟩)
  have e2 : encN 2 c o = c * 256 + (if o then 9223372036854775808 else 0) := by unfold encN; rw [e1]; rfl
  have e3 : c % 18446744073709551616 * 2 ^ 8 % 18446744073709551616 = c * 256 := by omega
  have e4 := or_high (c * 256) (by omega) (by omega)
  rw [e1, e2]
  clear e1 e2
  cases o
  · go_enter Tryz.func88, Tryz.ntmps88
    go_wp2
    go_ret2
    refine ⟨?_, HB.out⟩
    simp [noE]
    try omega
  · go_enter Tryz.func88, Tryz.ntmps88
    go_wp2
    go_ret2
    refine ⟨?_, HB.out⟩
    simp [noE]
    try omega

/-- A result of an entry and another: the entry lies in a block. -/
theorem ret_E {fn : Func} {p u : Tmp} (hr : fn.results = #[.cell p 43, .tmp u]) (tmps : Array Value) (w : World) (R : Nat) (k c : Int) (o : Bool) (z : Value)
    (hp : tmps.getD p undef = .pointer (some ⟨R, 0, none⟩)) (hz : tmps.getD u undef = z) (hs : StE w R #[.int .i64 k, .int .i64 c, .bool o] 43) :
    (results fn tmps).run Tryz.prog w = .ok (.tuple #[.agg #[.int .i64 k, .int .i64 c, .bool o], z]) w := by
  rw [results_cell_tmp hr, hp, hz]
  simp only [asAddr, Sem.run_pure, Result.andThen_ok]
  rw [run_loadVar_row w R 43 43 _ (0, 0) _ hs Tryz.underlying43 rfl (by kernel_rfl)]
  rfl

theorem eqf_E (w : World) (k c : Int) (o : Bool) (k2 c2 : Int) (o2 : Bool) : (Op.equalIn 10000 43 (.agg #[.int .i64 k, .int .i64 c, .bool o]) (.agg #[.int .i64 k2, .int .i64 c2, .bool o2])).run Tryz.prog w = .ok (k == k2 && c == c2 && o == o2) w := by
  rw [run_equalIn_agg w 9999 43 _ _ (by kernel_rfl) (by kernel_rfl)]
  have hf : (Tryz.prog.fieldsOf 43).toList.map (fun f => (f.name, f.type, f.offset)) = [("Kind", 3, 0), ("Cluster", 2, 1), ("Own", 4, 2)] := by kernel_rfl
  obtain ⟨fs, hfs⟩ : ∃ fs, fs = (Tryz.prog.fieldsOf 43).toList := ⟨_, rfl⟩
  rw [← hfs] at hf ⊢
  clear hfs
  have hl : fs.length = 3 := by simpa using congrArg List.length hf
  obtain ⟨f0, f1, f2, rfl⟩ : ∃ f0 f1 f2, fs = [f0, f1, f2] := by match fs, hl with | [f0, f1, f2], _ => exact ⟨f0, f1, f2, rfl⟩
  simp only [List.map_cons, List.map_nil, List.cons.injEq, Prod.mk.injEq, and_true] at hf
  obtain ⟨⟨a1, a2, a3⟩, ⟨b1, b2, b3⟩, ⟨d1, d2, d3⟩⟩ := hf
  have p0 : ∀ k c o, (part 3 #[.int .i64 k, .int .i64 c, .bool o] 0).run Tryz.prog w = .ok (.int .i64 k) w := fun k c o => by go_simp
  have p1 : ∀ k c o, (part 2 #[.int .i64 k, .int .i64 c, .bool o] 1).run Tryz.prog w = .ok (.int .i64 c) w := fun k c o => by go_simp
  have p2 : ∀ k c o, (part 4 #[.int .i64 k, .int .i64 c, .bool o] 2).run Tryz.prog w = .ok (.bool o) w := fun k c o => by go_simp
  simp only [Op.eqFields, a1, a2, a3, b1, b2, b3, d1, d2, d3, Sem.run_bind, Sem.run_ite]
  have q0 := run_equalIn_int (P := Tryz.prog) w 9998 _ .i64 .i64 k k2 Tryz.underlying3
  have q1 := run_equalIn_int (P := Tryz.prog) w 9998 _ .i64 .i64 c c2 Tryz.underlying2
  have q2 := run_equalIn_bool (P := Tryz.prog) w 9998 _ o o2 Tryz.underlying4
  generalize (k == k2) = x at *
  generalize (c == c2) = y at *
  generalize (o == o2) = z at *
  cases x <;> cases y <;> cases z <;> simp [p0, p1, p2, q0, q1, q2, Result.andThen]

theorem eql_E (w : World) (k c : Int) (o : Bool) (k2 c2 : Int) (o2 : Bool) : (binOp .eql 43 (.agg #[.int .i64 k, .int .i64 c, .bool o]) (.agg #[.int .i64 k2, .int .i64 c2, .bool o2])).run Tryz.prog w = .ok (.bool (k == k2 && c == c2 && o == o2)) w := by
  rw [run_eql_struct, eqf_E]
  rfl

theorem neq_E (w : World) (k c : Int) (o : Bool) (k2 c2 : Int) (o2 : Bool) : (binOp .neq 43 (.agg #[.int .i64 k, .int .i64 c, .bool o]) (.agg #[.int .i64 k2, .int .i64 c2, .bool o2])).run Tryz.prog w = .ok (.bool (!(k == k2 && c == c2 && o == o2))) w := by
  rw [run_neq_struct, eqf_E]
  rfl

set_option maxHeartbeats 1000000 in
theorem encode_any (k c : Int) (o : Bool) (w : World) : Calls Tryz.prog 61 #[.agg #[.int .i64 k, .int .i64 c, .bool o]] w fun e w' => e = .returned (.tuple #[.int .u64 (encN k c o), .int .i64 (noE (okE k c o))]) ∧ Below w.heap.size w w' := by
  have hb := (Below.refl w.heap.size w).alloc (Nat.le_refl _) (.cells #[.int .i64 k, .int .i64 c, .bool o] 43)
  have HB := hide hb
  obtain ⟨c0, c1, c2⟩ := (StE.new w #[.int .i64 k, .int .i64 c, .bool o] 43).box
  clear hb
  by_cases h1 : k = 2
  · subst h1
    go_enter Tryz.func61, Tryz.ntmps61
    go_wp2_with fail
    refine (encodeData_any _ c o _).mono ?_
    rintro e9 w2 ⟨rfl, hb2⟩
    have HB := hide (HB.out.trans (hb2.mono HB.out.size))
    clear hb2
    go_wp2_with fail
    go_ret2
    exact ⟨rfl, HB.out⟩
  by_cases h2 : okE k c o = true
  · have h3 := h2
    unfold okE at h3
    simp only [decide_eq_true_eq] at h3
    obtain ⟨h4, rfl, rfl⟩ : (k = 0 ∨ k = 1) ∧ c = 0 ∧ o = false := by rcases h3 with h | h; exact absurd h.1 h1; exact h
    have e2 : encN k 0 false = k := by unfold encN; rw [if_pos h2, if_neg h1]
    rw [h2, e2]
    clear h1 h2 h3 e2
    rcases h4 with rfl | rfl
    · go_enter Tryz.func61, Tryz.ntmps61
      go_wp2_with fail
      go_ret2
      exact ⟨rfl, HB.out⟩
    · go_enter Tryz.func61, Tryz.ntmps61
      go_wp2_with fail
      go_ret2
      exact ⟨rfl, HB.out⟩
  · have h2 : okE k c o = false := by simpa using h2
    have e2 : encN k c o = 0 := by unfold encN; rw [h2]; rfl
    have h3 := h2
    unfold okE at h3
    simp only [decide_eq_false_iff_not] at h3
    rw [h2, e2]
    clear h2 e2
    by_cases k0 : k = 0
    · subst k0
      by_cases cz : c = 0
      · subst cz
        have ho : o = true := by cases o; exact absurd (Or.inr ⟨Or.inl rfl, rfl, rfl⟩) h3; rfl
        subst ho
        clear h3
        go_enter Tryz.func61, Tryz.ntmps61
        go_wp2_with fail
        go_ret2
        exact ⟨rfl, HB.out⟩
      · have hcz : (c != 0) = true := by simp [cz]
        clear h3
        go_enter Tryz.func61, Tryz.ntmps61
        go_wp2_with fail
        go_ret2
        exact ⟨rfl, HB.out⟩
    by_cases k1 : k = 1
    · subst k1
      by_cases cz : c = 0
      · subst cz
        have ho : o = true := by cases o; exact absurd (Or.inr ⟨Or.inr rfl, rfl, rfl⟩) h3; rfl
        subst ho
        clear h3
        go_enter Tryz.func61, Tryz.ntmps61
        go_wp2_with fail
        go_ret2
        exact ⟨rfl, HB.out⟩
      · have hcz : (c != 0) = true := by simp [cz]
        clear h3
        go_enter Tryz.func61, Tryz.ntmps61
        go_wp2_with fail
        go_ret2
        exact ⟨rfl, HB.out⟩
    · have e0 : (k != 0) = true := by simp [k0]
      have e1 : (k != 1) = true := by simp [k1]
      have e2 : (k == 2) = false := by simp [h1]
      clear h3
      go_enter Tryz.func61, Tryz.ntmps61
      go_wp2_with fail
      go_ret2
      exact ⟨rfl, HB.out⟩
end Go.Proofs.YtibkhgmmjhlpmaaGreat.Oct
