/- A disk that is bytes; parts of it: small calls. -/
import Derived.Test.YtgpggohkapdjpaaMbd
import Derived.Test.YtgpggohkapdjpaaApp
namespace Go.Proofs.Ytgpggohkapdjpaa.Oct
open Go.RowKit

theorem info5m : (Try.prog.info? 5).map (fun i => (i.zero, i.size, i.bytes)) = some (some (.int .u8 0), 1, 1) := by kernel_rfl

theorem append_types {P : Program} {t t2 ty : TypeId} (ht : P.underlying t = some (.slice 5)) (h2 : P.underlying t2 = some (.slice 5)) (h5 : (P.info? 5).map (fun i => (i.zero, i.size, i.bytes)) = some (some (.int .u8 0), 1, 1)) (w : World) (v x : Value) :
    (Builtin.append_ #[t, t2] ty #[v, x]).run P w = (Builtin.append_ #[t, t] ty #[v, x]).run P w := by
  obtain ⟨i, hi, hz0, hz1, hz2⟩ := info_parts h5
  cases v <;> simp [Builtin.append_, run_underlying ht, run_underlying h2, sizeOf, typeInfo, hi]

theorem wpList_append_bytes2 {P : Program} {w : World} {ops : Array Oper} {rest : List Oper} {o : Oper} {a : Act} {Q : Exit → Act → World → Prop} (hgd : o.guard = none) (s x : Operand) (t t2 : TypeId)
    (ho : o.op = .call { callee := .builtin .append, args := #[s, x], argTypes := #[t, t2] }) (ht : P.underlying t = some (.slice 5)) (ht2 : P.underlying t2 = some (.slice 5)) (h5 : (P.info? 5).map (fun i => (i.zero, i.size, i.bytes)) = some (some (.int .u8 0), 1, 1))
    (B : Nat) (v : Value) (l : List Int) (hs : a.eval s = v) (hown : Own w B v l) (ad : Option Addr) (n c : Nat) (m : List Int) (hx : a.eval x = .slice ad n c) (hn : n = m.length) (hl : Lies w ad m)
    (hlen : l.length + m.length ≤ 140737488355328) (hB : B ≤ w.heap.size)
    (h : ∀ v' w', Own w' B v' (l ++ m) → w.grownBy w' v.ownBlock → wpList P ops Q rest (a.put o.dst v') w') : wpList P ops Q (o :: rest) a w := by
  subst hn
  obtain ⟨v', w', hrun, ho', hg⟩ := run_append_bytes (ty := o.type) ht h5 w B v l m hown ad c hl hlen hB
  rw [← append_types ht ht2 h5] at hrun
  refine wpList_plain hgd fun K hK => ?_
  unfold Oper.wp
  simp [execOp, ho, resolve, invoke, builtin, hs, hx, hrun, Result.andThen]
  exact hK _ _ (h v' w' ho' hg)

theorem msize_any (a : Option Addr) (n cap : Nat) (w : World) : Calls Try.prog 90 #[.slice a n cap] w fun e w' => e = .returned (.int .i64 (n : Int)) ∧ w' = w := by
  go_enter Try.func90, Try.ntmps90
  go_wp2_with fail
  go_ret
  exact ⟨rfl, rfl⟩

set_option maxHeartbeats 1000000 in
theorem span_any (x y : Int) (w : World) (hx : -1099511627776 ≤ x ∧ x ≤ 1099511627776) (hy : -1099511627776 ≤ y ∧ y ≤ 1099511627776) :
    Calls Try.prog 41 #[.int .i64 x, .int .i64 y] w fun e w' => e = .returned (.agg #[.int .i64 (x * 512), .int .i64 ((x + y) * 512)]) ∧ Below w.heap.size w w' := by
  have h1 : IntKind.i64.wrap (x * 512) = x * 512 := by rw [IntKind.wrap_i64]; omega
  have h2 : IntKind.i64.wrap (x + y) = x + y := by rw [IntKind.wrap_i64]; omega
  have h3 : IntKind.i64.wrap ((x + y) * 512) = (x + y) * 512 := by rw [IntKind.wrap_i64]; omega
  have HN := hide (Blk.new w #[.int .i64 (x * 512), .int .i64 ((x + y) * 512)] 49)
  have HB := hide ((Below.refl w.heap.size w).alloc (Nat.le_refl _) (.cells #[.int .i64 (x * 512), .int .i64 ((x + y) * 512)] 49))
  clear hx hy
  go_enter Try.func41, Try.ntmps41
  go_wp2_with fail
  refine bodyPost_ret (results_cell_row rfl _ _ w.heap.size 49 _ (0, 0) _ rfl HN.out Try.underlying49 rfl (by kernel_rfl)) rfl ?_
  exact ⟨rfl, HB.out⟩

set_option maxHeartbeats 1000000 in
theorem inside_any (a b p q : Int) (w : World) :
    Calls Try.prog 46 #[.agg #[.int .i64 a, .int .i64 b], .agg #[.int .i64 p, .int .i64 q]] w fun e w' => e = .returned (.bool (decide (p ≤ a) && decide (b ≤ q))) ∧ Below w.heap.size w w' := by
  have HB := hide (((Below.refl w.heap.size w).alloc (Nat.le_refl _) (.cells #[.int .i64 a, .int .i64 b] 49)).alloc (by simp) (.cells #[.int .i64 p, .int .i64 q] 49))
  by_cases h1 : p ≤ a
  · have e1 : (decide (p ≤ a) && decide (b ≤ q)) = decide (b ≤ q) := by simp [h1]
    have d1 : decide (p ≤ a) = true := by simpa using h1
    rw [e1]
    go_enter Try.func46, Try.ntmps46
    go_wp2_with fail
    go_ret
    exact ⟨rfl, HB.out⟩
  · have e1 : (decide (p ≤ a) && decide (b ≤ q)) = false := by simp [h1]
    have d1 : decide (p ≤ a) = false := by simpa using h1
    rw [e1]
    go_enter Try.func46, Try.ntmps46
    go_wp2_with fail
    go_ret
    exact ⟨rfl, HB.out⟩

set_option maxHeartbeats 1000000 in
theorem leads_any (x y z : Int) (w : World) :
    Calls Try.prog 42 #[.agg #[.int .i64 x, .int .i64 y, .int .i64 z]] w fun e w' => e = .returned (.bool (leads (x, y, z))) ∧ Below w.heap.size w w' := by
  have HB := hide ((Below.refl w.heap.size w).alloc (Nat.le_refl _) (.cells #[.int .i64 x, .int .i64 y, .int .i64 z] 32))
  by_cases h1 : x = 5
  · subst h1
    go_enter Try.func42, Try.ntmps42
    go_wp2_with fail
    go_ret
    exact ⟨rfl, HB.out⟩
  · have d1 : (x == 5) = false := by simpa using h1
    have e1 : leads (x, y, z) = (x == 15) := by
      unfold leads
      simp only [h1, decide_false, Bool.false_or]
      rfl
    rw [e1]
    clear e1
    go_enter Try.func42, Try.ntmps42
    go_wp2_with fail
    go_ret
    exact ⟨rfl, HB.out⟩

/-- What a read of 512 bytes answers. -/
def MRead (w : World) (d : List Int) (p : Int) (e : Ending) (w' : World) : Prop :=
  ((0 ≤ p ∧ p + 512 ≤ d.length) ∧ ∃ v, e = .returned (.tuple #[v, .int .i64 0]) ∧ Own w' w.heap.size v ((d.drop p.toNat).take 512)) ∨
  (¬ (0 ≤ p ∧ p + 512 ≤ d.length) ∧ e = .returned (.tuple #[.slice none 0 0, .int .i64 4]))

set_option maxHeartbeats 4000000 in
set_option maxRecDepth 100000 in
theorem mread_any (a : Option Addr) (cap : Nat) (d : List Int) (p : Int) (w : World) (hd : d.length ≤ 1000000000) (hcap : d.length ≤ cap) (hl : Lies w a d) (hp : -1125899906842624 ≤ p ∧ p ≤ 1125899906842624) :
    Calls Try.prog 89 #[.slice a d.length cap, .int .i64 p, .int .i64 512] w fun e w' => MRead w d p e w' ∧ Below w.heap.size w w' := by
  have HS := fun (a : Option Addr) => hide (msize_any a d.length cap w)
  have hw1 : IntKind.i64.wrap ((d.length : Int) - p) = (d.length : Int) - p := by rw [IntKind.wrap_i64]; omega
  have hw2 : IntKind.i64.wrap (p + 512) = p + 512 := by rw [IntKind.wrap_i64]; omega
  by_cases h : 0 ≤ p ∧ p + 512 ≤ d.length
  · obtain ⟨q, hq⟩ : ∃ q : Nat, p = (q : Int) := ⟨p.toNat, by omega⟩
    subst hq
    rcases hl with he | ⟨b, off, rfl, hb, hc⟩
    · exfalso; rw [he] at h; simp at h; omega
    have hlp : Lies w (some ⟨b, off + q, none⟩) ((d.drop q).take 512) := (Lies.mk (w := w) (b := b) (off := off) (l := d) hc).of_part q 512
    have HLp := hide hlp
    have hln : ((d.drop q).take 512).length = 512 := by simp; omega
    have HLn := hide hln
    have d1 : ¬ (q : Int) < 0 := by omega
    have d2 : ¬ ((d.length : Int) < (q : Int)) := by omega
    have d3 : ¬ ((d.length : Int) - (q : Int) < 512) := by omega
    have HH := hide h
    obtain ⟨n, hn⟩ : ∃ n, n = d.length := ⟨_, rfl⟩
    have HN := hide hn
    rw [← hn] at HS hw1 d2 d3 hcap h hd ⊢
    clear hc hlp hln hn
    go_enter Try.func89, Try.ntmps89
    go_wp2_with (first
      | (go_at_call 90; refine ((HS _).out).mono ?_; rintro e9 w2 ⟨rfl, h2⟩; have h2 := h2.symm; subst h2)
      | (at_builtin; refine wpList_append_bytes2 rfl _ _ 22 54 rfl Try.underlying22 Try.underlying54 info5m w.heap.size _ [] rfl (Own.nil _ _) _ _ _ ((d.drop q).take 512) rfl (by rw [HLn.out]; omega) HLp.out (by rw [HLn.out]; simp) (Nat.le_refl _) ?_; intro v5 w5 ho5 hg5; have HO5 := hide ho5; have HG5 := hide hg5; clear ho5 hg5))
    go_ret2
    refine ⟨Or.inl ⟨HH.out, _, rfl, by simpa using HO5.out⟩, ?_⟩
    exact (Below.refl _ _).grown HG5.out (Nat.le_refl _) (fun q hq => by cases hq)
  · obtain ⟨n, hn⟩ : ∃ n, n = d.length := ⟨_, rfl⟩
    have HN := hide hn
    have HF := hide h
    rw [← hn] at HS hw1 hcap h hd ⊢
    clear hl hn
    have h3 : p < 0 ∨ (¬ p < 0 ∧ (n : Int) < p) ∨ (¬ p < 0 ∧ ¬ (n : Int) < p ∧ (n : Int) - p < 512) := by omega
    rcases h3 with d1 | ⟨d1, d2⟩ | ⟨d1, d2, d3⟩
    all_goals
      go_enter Try.func89, Try.ntmps89
      go_wp2_with (go_at_call 90; refine ((HS _).out).mono ?_; rintro e9 w2 ⟨rfl, h2⟩; have h2 := h2.symm; subst h2)
      go_ret2
      exact ⟨Or.inr ⟨HF.out, rfl⟩, Below.refl _ _⟩
end Go.Proofs.Ytgpggohkapdjpaa.Oct
