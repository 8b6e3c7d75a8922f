/- A disk that is bytes; parts of it: small calls. -/
import Derived.Test.YtjpdfchdgphdoaaGreatDoorPMbd
import Derived.Test.YtjpdfchdgphdoaaGreatDoorPAppChg
import Derived.Lib.SliceRun
namespace Go.Proofs.YtjpdfchdgphdoaaGreatDoor.Oct
open Go.RowKit

theorem info5m : (Tryz.prog.info? 5).map (fun i => (i.zero, i.size, i.bytes)) = some (some (.int .u8 0), 1, 1) := by kernel_rfl

theorem append_types {P : Program} {t t2 ty : TypeId} (ht : P.underlying t = some (.slice 5)) (h2 : P.underlying t2 = some (.slice 5)) (h5 : (P.info? 5).map (fun i => (i.zero, i.size, i.bytes)) = some (some (.int .u8 0), 1, 1)) (w : World) (v x : Value) :
    (Builtin.append_ #[t, t2] ty #[v, x]).run P w = (Builtin.append_ #[t, t] ty #[v, x]).run P w := by
  obtain ⟨i, hi, hz0, hz1, hz2⟩ := info_parts h5
  cases v <;> simp [Builtin.append_, run_underlying ht, run_underlying h2, sizeOf, typeInfo, hi]

theorem wpList_append_bytes2 {P : Program} {w : World} {ops : Array Oper} {rest : List Oper} {o : Oper} {a : Act} {Q : Exit → Act → World → Prop} (hgd : o.guard = none) (s x : Operand) (t t2 : TypeId)
    (ho : o.op = .call { callee := .builtin .append, args := #[s, x], argTypes := #[t, t2] }) (ht : P.underlying t = some (.slice 5)) (ht2 : P.underlying t2 = some (.slice 5)) (h5 : (P.info? 5).map (fun i => (i.zero, i.size, i.bytes)) = some (some (.int .u8 0), 1, 1))
    (B : Nat) (v : Value) (l : List Int) (hs : a.eval s = v) (hown : Own w B v l) (ad : Option Addr) (n c : Nat) (m : List Int) (hx : a.eval x = .slice ad n c) (hn : n = m.length) (hl : Lies w ad m)
    (hlen : l.length + m.length ≤ 140737488355328) (hB : B ≤ w.heap.size)
    (h : ∀ v' w', Own w' B v' (l ++ m) → w.grownBy w' v.ownBlock → wpList P ops Q rest (a.put o.dst v') w') : wpList P ops Q (o :: rest) a w := by
  subst hn
  obtain ⟨v', w', hrun, ho', hg⟩ := run_append_bytes (ty := o.type) ht h5 w B v l m hown ad c hl hlen hB
  rw [← append_types ht ht2 h5] at hrun
  refine wpList_plain hgd fun K hK => ?_
  unfold Oper.wp
  simp [execOp, ho, resolve, invoke, builtin, hs, hx, hrun, Result.andThen]
  exact hK _ _ (h v' w' ho' hg)

theorem msize_any (a : Option Addr) (n cap : Nat) (w : World) : Calls Tryz.prog 157 #[.slice a n cap] w fun e w' => e = .returned (.int .i64 (n : Int)) ∧ w' = w := by
  go_enter Tryz.func157, Tryz.ntmps157
  go_wp2_with fail
  go_ret
  exact ⟨rfl, rfl⟩

set_option maxHeartbeats 1000000 in
theorem span_any (x y : Int) (w : World) (hx : -1099511627776 ≤ x ∧ x ≤ 1099511627776) (hy : -1099511627776 ≤ y ∧ y ≤ 1099511627776) :
    Calls Tryz.prog 74 #[.int .i64 x, .int .i64 y] w fun e w' => e = .returned (.agg #[.int .i64 (x * 512), .int .i64 ((x + y) * 512)]) ∧ Below w.heap.size w w' := by
  have h1 : IntKind.i64.wrap (x * 512) = x * 512 := by rw [IntKind.wrap_i64]; omega
  have h2 : IntKind.i64.wrap (x + y) = x + y := by rw [IntKind.wrap_i64]; omega
  have h3 : IntKind.i64.wrap ((x + y) * 512) = (x + y) * 512 := by rw [IntKind.wrap_i64]; omega
  have HN := hide (Blk.new w #[.int .i64 (x * 512), .int .i64 ((x + y) * 512)] 24)
  have HB := hide ((Below.refl w.heap.size w).alloc (Nat.le_refl _) (.cells #[.int .i64 (x * 512), .int .i64 ((x + y) * 512)] 24))
  clear hx hy
  go_enter Tryz.func74, Tryz.ntmps74
  go_wp2_with fail
  refine bodyPost_ret (results_cell_row rfl _ _ w.heap.size 24 _ (0, 0) _ rfl HN.out Tryz.underlying24 rfl (by kernel_rfl)) rfl ?_
  exact ⟨rfl, HB.out⟩

set_option maxHeartbeats 1000000 in
theorem inside_any (a b p q : Int) (w : World) :
    Calls Tryz.prog 80 #[.agg #[.int .i64 a, .int .i64 b], .agg #[.int .i64 p, .int .i64 q]] w fun e w' => e = .returned (.bool (decide (p ≤ a) && decide (b ≤ q))) ∧ Below w.heap.size w w' := by
  have HB := hide (((Below.refl w.heap.size w).alloc (Nat.le_refl _) (.cells #[.int .i64 a, .int .i64 b] 24)).alloc (by simp) (.cells #[.int .i64 p, .int .i64 q] 24))
  by_cases h1 : p ≤ a
  · have e1 : (decide (p ≤ a) && decide (b ≤ q)) = decide (b ≤ q) := by simp [h1]
    have d1 : decide (p ≤ a) = true := by simpa using h1
    rw [e1]
    go_enter Tryz.func80, Tryz.ntmps80
    go_wp2_with fail
    go_ret
    exact ⟨rfl, HB.out⟩
  · have e1 : (decide (p ≤ a) && decide (b ≤ q)) = false := by simp [h1]
    have d1 : decide (p ≤ a) = false := by simpa using h1
    rw [e1]
    go_enter Tryz.func80, Tryz.ntmps80
    go_wp2_with fail
    go_ret
    exact ⟨rfl, HB.out⟩

set_option maxHeartbeats 1000000 in
theorem leads_any (x y z : Int) (w : World) :
    Calls Tryz.prog 76 #[.agg #[.int .i64 x, .int .i64 y, .int .i64 z]] w fun e w' => e = .returned (.bool (leads (x, y, z))) ∧ Below w.heap.size w w' := by
  have HB := hide ((Below.refl w.heap.size w).alloc (Nat.le_refl _) (.cells #[.int .i64 x, .int .i64 y, .int .i64 z] 128))
  by_cases h1 : x = 5
  · subst h1
    go_enter Tryz.func76, Tryz.ntmps76
    go_wp2_with fail
    go_ret
    exact ⟨rfl, HB.out⟩
  · have d1 : (x == 5) = false := by simpa using h1
    have e1 : leads (x, y, z) = (x == 15) := by
      unfold leads
      simp only [h1, decide_false, Bool.false_or]
      rfl
    rw [e1]
    clear e1
    go_enter Tryz.func76, Tryz.ntmps76
    go_wp2_with fail
    go_ret
    exact ⟨rfl, HB.out⟩

/-- What a read of 512 bytes answers. -/
def MRead (w : World) (d : List Int) (p : Int) (e : Ending) (w' : World) : Prop :=
  ((0 ≤ p ∧ p + 512 ≤ d.length) ∧ ∃ v, e = .returned (.tuple #[v, .int .i64 0]) ∧ Own w' w.heap.size v ((d.drop p.toNat).take 512)) ∨
  (¬ (0 ≤ p ∧ p + 512 ≤ d.length) ∧ e = .returned (.tuple #[.slice none 0 0, .int .i64 4]))

theorem Own.emptyM (w : World) : Own (w.alloc (.cells #[] 5)) w.heap.size (.slice (some ⟨w.heap.size, 0, none⟩) 0 0) [] := by
  have := Own.made w 0 (by simp)
  have e : madeCells #[.int .u8 0] 0 = #[] := by apply Array.eq_empty_of_size_eq_zero; rw [size_madeCells]
  rw [e] at this
  simpa using this

set_option maxHeartbeats 1000000 in
set_option maxRecDepth 100000 in
theorem cloneM_any (w : World) (x : Addr) (cap : Nat) (l : List Int) (hl : Lies w (some x) l) (hlen : l.length ≤ 140737488355328) :
    Calls Tryz.prog 159 #[.slice (some x) l.length cap] w fun e w' => ∃ v, e = .returned v ∧ Own w' w.heap.size v l ∧ Below w.heap.size w w' := by
  have HL := hide hl
  have HN := hide hlen
  clear hl hlen
  have hq := fun u : World => Lib.run_eql_slice_nil u 33 5 (some x) l.length cap 0 0 Tryz.underlying33
  go_enter Tryz.func159, Tryz.ntmps159
  go_wp2_with (refine wpList_append_bytes (by rfl) _ _ 33 (by rfl) Tryz.underlying33 info5m w.heap.size _ [] (by rfl) (Own.emptyM w) _ _ _ l (by rfl) rfl (HL.out.alloc _) (by have := HN.out; simp; omega) (by simp) ?_; intro v9 w9 ho9 hg9)
  go_ret
  refine ⟨_, rfl, by simpa using ho9, ?_⟩
  have := ((Below.refl w.heap.size w).alloc (Nat.le_refl _) (.cells #[] 5)).grown hg9 (by simp) (fun k hk => by simp [Value.ownBlock] at hk; omega)
  exact this

set_option maxHeartbeats 1000000 in
theorem lacks_any (p m n : Int) (w : World) (hm : 0 ≤ m) (hw : IntKind.i64.wrap (n - p) = n - p) :
    Calls Tryz.prog 158 #[.int .i64 p, .int .i64 m, .int .i64 n] w fun e w' => e = .returned (.bool (!(decide (0 ≤ p) && decide (p + m ≤ n)))) ∧ w' = w := by
  have h1 : ¬ m < 0 := by omega
  by_cases h0 : p < 0
  · have e : (!(decide (0 ≤ p) && decide (p + m ≤ n))) = true := by simp; omega
    rw [e]
    go_enter Tryz.func158, Tryz.ntmps158
    go_wp2_with fail
    go_ret
    exact ⟨rfl, rfl⟩
  · by_cases h2 : n - p < m
    · have e : (!(decide (0 ≤ p) && decide (p + m ≤ n))) = true := by simp; omega
      rw [e]
      go_enter Tryz.func158, Tryz.ntmps158
      go_wp2_with fail
      go_ret
      exact ⟨rfl, rfl⟩
    · have e : (!(decide (0 ≤ p) && decide (p + m ≤ n))) = false := by simp; omega
      rw [e]
      go_enter Tryz.func158, Tryz.ntmps158
      go_wp2_with fail
      go_ret
      exact ⟨rfl, rfl⟩

set_option maxHeartbeats 4000000 in
set_option maxRecDepth 100000 in
theorem mread_any (a : Option Addr) (cap : Nat) (d : List Int) (p : Int) (w : World) (hd : d.length ≤ 1000000000) (hcap : d.length ≤ cap) (hl : Lies w a d) (hp : -1125899906842624 ≤ p ∧ p ≤ 1125899906842624) :
    Calls Tryz.prog 156 #[.slice a d.length cap, .int .i64 p, .int .i64 512] w fun e w' => MRead w d p e w' ∧ Below w.heap.size w w' := by
  have HS := fun (a : Option Addr) => hide (msize_any a d.length cap w)
  have hw1 : IntKind.i64.wrap ((d.length : Int) - p) = (d.length : Int) - p := by rw [IntKind.wrap_i64]; omega
  have hw2 : IntKind.i64.wrap (p + 512) = p + 512 := by rw [IntKind.wrap_i64]; omega
  have HLk := hide (lacks_any p 512 (d.length : Int) w (by omega) hw1)
  by_cases h : 0 ≤ p ∧ p + 512 ≤ d.length
  · obtain ⟨q, hq⟩ : ∃ q : Nat, p = (q : Int) := ⟨p.toNat, by omega⟩
    subst hq
    rcases hl with he | ⟨b, off, rfl, hb, hc⟩
    · exfalso; rw [he] at h; simp at h; omega
    have hlp : Lies w (some ⟨b, off + q, none⟩) ((d.drop q).take 512) := (Lies.mk (w := w) (b := b) (off := off) (l := d) hc).of_part q 512
    have hln : ((d.drop q).take 512).length = 512 := by simp; omega
    have HCl := hide (cloneM_any w ⟨b, off + q, none⟩ (cap - q) _ hlp (by omega))
    rw [hln] at HCl
    have HH := hide h
    have e : (!(decide (0 ≤ (q : Int)) && decide ((q : Int) + 512 ≤ (d.length : Int)))) = false := by simp; omega
    rw [e] at HLk
    obtain ⟨n, hn⟩ : ∃ n, n = d.length := ⟨_, rfl⟩
    have HN := hide hn
    rw [← hn] at HS HLk hw1 hcap h hd ⊢
    clear hc hlp hln hn e
    go_enter Tryz.func156, Tryz.ntmps156
    go_wp2_with fail
    refine ((HS _).out).mono ?_
    rintro e9 w2 ⟨rfl, h2⟩
    have h2 := h2.symm
    subst h2
    go_wp2_with fail
    refine HLk.out.mono ?_
    rintro e9 w2 ⟨rfl, h2⟩
    have h2 := h2.symm
    subst h2
    go_wp2_with fail
    refine HCl.out.mono ?_
    rintro e9 w3 ⟨v3, rfl, ho3, hb3⟩
    have HO3 := hide ho3
    have HB3 := hide hb3
    clear ho3 hb3
    go_wp2_with fail
    go_ret2
    exact ⟨Or.inl ⟨HH.out, _, rfl, by simpa using HO3.out⟩, HB3.out⟩
  · obtain ⟨n, hn⟩ : ∃ n, n = d.length := ⟨_, rfl⟩
    have HF := hide h
    have e : (!(decide (0 ≤ p) && decide (p + 512 ≤ (d.length : Int)))) = true := by simp; omega
    rw [e] at HLk
    rw [← hn] at HS HLk hw1 hcap h hd ⊢
    clear hl hn e
    go_enter Tryz.func156, Tryz.ntmps156
    go_wp2_with fail
    refine ((HS _).out).mono ?_
    rintro e9 w2 ⟨rfl, h2⟩
    have h2 := h2.symm
    subst h2
    go_wp2_with fail
    refine HLk.out.mono ?_
    rintro e9 w2 ⟨rfl, h2⟩
    have h2 := h2.symm
    subst h2
    go_wp2_with fail
    go_ret2
    exact ⟨Or.inr ⟨HF.out, rfl⟩, Below.refl _ _⟩
end Go.Proofs.YtjpdfchdgphdoaaGreatDoor.Oct
