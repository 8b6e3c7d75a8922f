/- Memory that a call changes: some blocks of its own, and new ones; noughts that are appended; the laws for the walk. -/
import Derived.Test.YtpbnjobjjnhplaaDoorPNumMem
import Derived.Lib.AppendZerosOnto
import Derived.Maps.AppendAt
import Derived.Deep.RegionHeld3
namespace Go.Proofs.YtpbnjobjjnhplaaDoor.Oct
open Go.RowKit

theorem run_append_bytes {P : Program} {t ty : TypeId} (ht : P.underlying t = some (.slice 5)) (h5 : (P.info? 5).map (fun i => (i.zero, i.size, i.bytes)) = some (some (.int .u8 0), 1, 1))
    (w : World) (B : Nat) (v : Value) (l m : List Int) (hown : Own w B v l) (ad : Option Addr) (c : Nat) (hl : Lies w ad m) (hlen : l.length + m.length ≤ 140737488355328) (hB : B ≤ w.heap.size) :
    ∃ v' w', (Builtin.append_ #[t, t] ty #[v, .slice ad m.length c]).run P w = .ok v' w' ∧ Own w' B v' (l ++ m) ∧ w.grownBy w' v.ownBlock := by
  obtain ⟨i, hi, hz0, hz1, hz2⟩ := info_parts h5
  cases ad with
  | none =>
    have hm : m = [] := by
      rcases hl with h | ⟨b, off, h, _⟩
      · exact h
      · cases h
    subst hm
    refine ⟨v, w, ?_, by simpa using hown, World.grownBy.refl _ _⟩
    rcases hown.2 with ⟨rfl, _⟩ | ⟨g, cap, cur, rfl, _, _, hnc, _⟩
    · simp [Builtin.append_, run_underlying ht, sizeOf, typeInfo, hi, Builtin.lenOf, Builtin.firstCells]
    · simp [Builtin.append_, run_underlying ht, sizeOf, typeInfo, hi, Builtin.lenOf, Builtin.firstCells, hnc, storeCells]
  | some x =>
    obtain ⟨v', w', hrun, ho, hg, _⟩ := run_append_own (P := P) w B t ty 5 i (.int .u8 0) 1 1 ht hi hz0 hz1 hz2 rfl (by decide) v l.length (l.map (Value.int .u8)) hown x m.length c (m.map (Value.int .u8)) (by simp)
      (fun j u hj => by
        have hjl : j < m.length := by
          rcases Nat.lt_or_ge j m.length with h | h
          · exact h
          · simp [List.getElem?_eq_none h] at hj
        rcases hl with h | ⟨b, off, h, _, hc⟩
        · subst h; simp at hjl
        · cases h
          have e := hc j hjl
          simp [List.getElem?_eq_getElem hjl] at hj
          rw [Go.WideShapes.add_plain, e, ← hj]
          simp [hjl]) (by simp; intro x _; rfl) (by unfold maxLen; omega) (by omega) hB
    refine ⟨v', w', hrun, ?_, hg⟩
    unfold Own
    simpa using ho

theorem wpList_append_bytes {P : Program} {w : World} {ops : Array Oper} {rest : List Oper} {o : Oper} {a : Act} {Q : Exit → Act → World → Prop} (hgd : o.guard = none) (s x : Operand) (t : TypeId)
    (ho : o.op = .call { callee := .builtin .append, args := #[s, x], argTypes := #[t, t] }) (ht : P.underlying t = some (.slice 5)) (h5 : (P.info? 5).map (fun i => (i.zero, i.size, i.bytes)) = some (some (.int .u8 0), 1, 1))
    (B : Nat) (v : Value) (l : List Int) (hs : a.eval s = v) (hown : Own w B v l) (ad : Option Addr) (n c : Nat) (m : List Int) (hx : a.eval x = .slice ad n c) (hn : n = m.length) (hl : Lies w ad m)
    (hlen : l.length + m.length ≤ 140737488355328) (hB : B ≤ w.heap.size)
    (h : ∀ v' w', Own w' B v' (l ++ m) → w.grownBy w' v.ownBlock → wpList P ops Q rest (a.put o.dst v') w') : wpList P ops Q (o :: rest) a w := by
  subst hn
  obtain ⟨v', w', hrun, ho', hg⟩ := run_append_bytes (ty := o.type) ht h5 w B v l m hown ad c hl hlen hB
  refine wpList_plain hgd fun K hK => ?_
  unfold Oper.wp
  simp [execOp, ho, resolve, invoke, builtin, hs, hx, hrun, Result.andThen]
  exact hK _ _ (h v' w' ho' hg)

/-- The same as one step of a region that draws its order. -/
theorem step_append_bytes {P : Program} {ops : Array Oper} {o : Oper} {a : Act} {w : World} {K : Act → World → Prop} {Q : Exit → Act → World → Prop} {E : Prop} (hgd : o.guard = none) (s x : Operand) (t : TypeId)
    (ho : o.op = .call { callee := .builtin .append, args := #[s, x], argTypes := #[t, t] }) (ht : P.underlying t = some (.slice 5)) (h5 : (P.info? 5).map (fun i => (i.zero, i.size, i.bytes)) = some (some (.int .u8 0), 1, 1))
    (B : Nat) (v : Value) (l : List Int) (hs : a.eval s = v) (hown : Own w B v l) (ad : Option Addr) (n c : Nat) (m : List Int) (hx : a.eval x = .slice ad n c) (hn : n = m.length) (hl : Lies w ad m)
    (hlen : l.length + m.length ≤ 140737488355328) (hB : B ≤ w.heap.size)
    (h : ∀ v' w', Own w' B v' (l ++ m) → w.grownBy w' v.ownBlock → K (a.put o.dst v') w') : if Region.wanted o (yielded ops a.tmps) = true then Oper.wp P o a w K Q else E := by
  have hw : Region.wanted o (yielded ops a.tmps) = true := by simp [Region.wanted, hgd]
  rw [if_pos hw]
  subst hn
  obtain ⟨v', w', hrun, ho', hg⟩ := run_append_bytes (ty := o.type) ht h5 w B v l m hown ad c hl hlen hB
  unfold Oper.wp
  simp [execOp, ho, resolve, invoke, builtin, hs, hx, hrun, Result.andThen]
  exact h v' w' ho' hg

theorem Own.drew {w : World} {B : Nat} {v : Value} {l : List Int} (h : Own w B v l) : Own w.drew B v l := World.ownsRow.drew h

theorem Lies.drew {w : World} {a : Option Addr} {l : List Int} (h : Lies w a l) : Lies w.drew a l := h.below (Below.refl _ _).drew

theorem Own.base {w : World} {B : Nat} {v : Value} {l : List Int} (h : Own w B v l) : ∀ k, v.ownBlock = some k → B ≤ k := fun k hk => (World.ownsRow.lt h k hk).1

theorem Own.behind {w0 w w' : World} {B : Nat} {v : Value} {l : List Int} (h : Own w B v l) (hb : Below B w0 w) (hg : w.grownBy w' v.ownBlock) (hB : B ≤ w.heap.size) : Below B w0 w' := hb.grown hg hB h.base

end Go.Proofs.YtpbnjobjjnhplaaDoor.Oct

namespace Go.Proofs.YtpbnjobjjnhplaaDoor.Oct
open Go.RowKit

/-- Nothing that lay there is changed but blocks of X. -/
structure Chg (X : Nat → Prop) (w w' : World) : Prop where
  os : w'.os = w.os
  tape : w'.tape = w.tape
  output : w'.output = w.output
  size : w.heap.size ≤ w'.heap.size
  block : ∀ k, k < w.heap.size → ¬ X k → w'.heap[k]? = w.heap[k]?

theorem Chg.refl (X : Nat → Prop) (w : World) : Chg X w w := ⟨rfl, rfl, rfl, Nat.le_refl _, fun _ _ _ => rfl⟩

theorem Chg.trans {X : Nat → Prop} {a b c : World} (h : Chg X a b) (k : Chg X b c) : Chg X a c :=
  ⟨k.os.trans h.os, k.tape.trans h.tape, k.output.trans h.output, Nat.le_trans h.size k.size, fun i hi hx => (k.block i (Nat.lt_of_lt_of_le hi h.size) hx).trans (h.block i hi hx)⟩

/-- The second change may take what is new behind the first. -/
theorem Chg.andThen {X Y : Nat → Prop} {a b c : World} (h : Chg X a b) (k : Chg Y b c) (hy : ∀ i, i < a.heap.size → Y i → X i) : Chg X a c :=
  ⟨k.os.trans h.os, k.tape.trans h.tape, k.output.trans h.output, Nat.le_trans h.size k.size, fun i hi hx => (k.block i (Nat.lt_of_lt_of_le hi h.size) (fun y => hx (hy i hi y))).trans (h.block i hi hx)⟩

theorem Chg.mono {X Y : Nat → Prop} {w w' : World} (h : Chg X w w') (hy : ∀ i, i < w.heap.size → X i → Y i) : Chg Y w w' :=
  ⟨h.os, h.tape, h.output, h.size, fun i hi hx => h.block i hi (fun x => hx (hy i hi x))⟩

theorem Chg.of_below {X : Nat → Prop} {w w' : World} (h : Below w.heap.size w w') : Chg X w w' := ⟨h.os, h.tape, h.output, h.size, fun i hi _ => h.block i hi⟩

theorem Chg.below {X : Nat → Prop} {w w' : World} (n : Nat) (h : Chg X w w') (hn : n ≤ w.heap.size) (hx : ∀ i, i < n → ¬ X i) : Below n w w' :=
  ⟨h.os, h.tape, h.output, h.size, fun i hi => h.block i (by omega) (hx i hi)⟩

theorem Chg.of_grown {w w' : World} {r : Option Nat} (h : w.grownBy w' r) : Chg (fun k => some k = r) w w' := ⟨h.os, h.tape, h.output, h.size, h.block⟩

theorem Chg.alloc {X : Nat → Prop} {w w' : World} (h : Chg X w w') (o : Obj) : Chg X w (w'.alloc o) :=
  h.trans (Chg.of_below ((Below.refl _ _).alloc (Nat.le_refl _) _))

theorem Chg.drew {X : Nat → Prop} {w w' : World} (h : Chg X w w') : Chg X w w'.drew := ⟨h.os, h.tape, h.output, h.size, h.block⟩

theorem Chg.cell {X : Nat → Prop} {w w' : World} (h : Chg X w w') {b o : Nat} {v : Value} (hc : w.cell? ⟨b, o, none⟩ = some v) (hx : ¬ X b) : w'.cell? ⟨b, o, none⟩ = some v := by
  have hb := lt_of_cell hc
  rw [World.cell?_of_block (a := ⟨b, o, none⟩) (h.block b hb hx)]
  exact hc

theorem Lies.chg {X : Nat → Prop} {w w' : World} {a : Option Addr} {l : List Int} (h : Lies w a l) (hg : Chg X w w') (hne : ∀ x, a = some x → ¬ X x.block) : Lies w' a l := by
  rcases h with rfl | ⟨b, off, rfl, hlt, hc⟩
  · exact Or.inl rfl
  · exact Or.inr ⟨b, off, rfl, Nat.lt_of_lt_of_le hlt hg.size, fun k hk => hg.cell (hc k hk) (hne _ rfl)⟩

theorem ownsRow_chg {X : Nat → Prop} {w w' : World} {B e s n : Nat} {v : Value} {xs : List Value} (h : w.ownsRow B e s v n xs) (hg : Chg X w w') (hne : ∀ g, v.ownBlock = some g → ¬ X g) : w'.ownsRow B e s v n xs := by
  refine ⟨h.1, ?_⟩
  rcases h.2 with hn | ⟨g, cap, cur, hv, hb, hh, rest⟩
  · exact Or.inl hn
  · refine Or.inr ⟨g, cap, cur, hv, hb, ?_, rest⟩
    rw [hg.block g (Array.getElem?_eq_some_iff.1 hh).1 (hne g (by rw [hv]; rfl))]
    exact hh

theorem Own.chg {X : Nat → Prop} {w w' : World} {B : Nat} {v : Value} {l : List Int} (h : Own w B v l) (hg : Chg X w w') (hne : ∀ g, v.ownBlock = some g → ¬ X g) : Own w' B v l := ownsRow_chg h hg hne

theorem ownsRow_lt {w : World} {B e s n : Nat} {v : Value} {xs : List Value} (h : w.ownsRow B e s v n xs) : ∀ g, v.ownBlock = some g → g < w.heap.size := by
  intro g hg
  rcases h.2 with ⟨rfl, _⟩ | ⟨g', cap, cur, rfl, _, hh, _⟩
  · cases hg
  · cases hg
    exact (Array.getElem?_eq_some_iff.1 hh).1

/-- An own row that is cut. -/
theorem Own.cut {w : World} {B : Nat} {a : Option Addr} {n cap : Nat} {l : List Int} (h : Own w B (.slice a n cap) l) (k : Nat) (hk : k ≤ l.length) : Own w B (.slice a k cap) (l.take k) := by
  have hl : (l.take k).length = k := by simp; omega
  unfold Own
  rw [hl]
  refine ⟨by simp; omega, ?_⟩
  rcases h.2 with ⟨h1, hn⟩ | ⟨g, cap', cur, h1, hb, hh, hn, hcap, hcs, ht⟩
  · simp at h1
    obtain ⟨rfl, rfl, rfl⟩ := h1
    exact Or.inl ⟨by rw [show k = 0 by omega], by omega⟩
  · simp at h1
    obtain ⟨rfl, rfl, rfl⟩ := h1
    refine Or.inr ⟨g, cap, cur, rfl, hb, hh, by omega, hcap, hcs, ?_⟩
    rw [List.map_take, ← ht, List.take_take]
    congr 1
    omega

theorem zeroCells_u8 (n : Nat) : (Builtin.zeroCells (Value.int .u8 0).cells n).toList = List.replicate n (.int .u8 0) := by
  apply List.ext_getElem
  · simp [Builtin.zeroCells, Value.cells]
  · intro k h1 h2
    simp [Builtin.zeroCells, Value.cells, Nat.mod_one]

/-- Noughts behind an own row: append(b, make([]byte, n)...). -/
theorem run_append_zeros {P : Program} {t tn ty : TypeId} {kn : IntKind} (ht : P.underlying t = some (.slice 5)) (htn : P.underlying tn = some (.int kn)) (h5 : (P.info? 5).map (fun i => (i.zero, i.size, i.bytes)) = some (some (.int .u8 0), 1, 1))
    (w : World) (B : Nat) (v : Value) (l : List Int) (hown : Own w B v l) (n : Nat) (kq : IntKind) (h0 : 0 < n) (hlen : l.length + n ≤ 140737488355328) (hB : B ≤ w.heap.size) :
    ∃ v' w', (Builtin.append_ #[t, tn] ty #[v, .int kq n]).run P w = .ok v' w' ∧ Own w' B v' (l ++ List.replicate n 0) ∧ w.grownBy w' v.ownBlock ∧ (v'.ownBlock = v.ownBlock ∨ v'.ownBlock = some w.heap.size) := by
  obtain ⟨i, hi, hz0, hz1, hz2⟩ := info_parts h5
  have hmap : (l ++ List.replicate n 0).map (Value.int .u8) = l.map (Value.int .u8) ++ List.replicate n (.int .u8 0) := by simp
  have hll : (l ++ List.replicate n (0 : Int)).length = l.length + n := by simp
  have hgrow : ∀ (base : Option Addr) (sCap : Nat), v = .slice base l.length sCap → sCap < l.length + n → (Builtin.firstCells i.size l.length v).run P w.drew = .ok (l.map (Value.int .u8)).toArray w.drew →
      ∃ v' w', (Builtin.append_ #[t, tn] ty #[v, .int kq n]).run P w = .ok v' w' ∧ Own w' B v' (l ++ List.replicate n 0) ∧ w.grownBy w' v.ownBlock ∧ (v'.ownBlock = v.ownBlock ∨ v'.ownBlock = some w.heap.size) := by
    rintro base sCap rfl hg hf
    have hfit := (growslice_fits (by omega) (by rw [hz2]; omega) : Builtin.nextslicecap (l.length + n) sCap * i.bytes ≤ 281474976710656)
    refine ⟨_, _, Go.Lib.run_append_grow_zeros (P := P) w t tn ty 5 i (.int .u8 0) kq kn ht htn hi hz0 base l.length sCap (l.map (Value.int .u8)) hf n h0 (by omega) hg (by omega) (by rw [hz2]; omega) hfit, ?_,
      ⟨rfl, rfl, rfl, by simp, fun k hk _ => heap_alloc_old w.drew _ hk⟩, Or.inr rfl⟩
    have hge := grownCap_ge w (l.length + n) sCap 5
    have hcm : grownCap w (l.length + n) sCap 5 ≤ maxLen := grownCap_le_maxLen w (l.length + n) sCap 5 (by unfold maxLen; omega)
    unfold Own
    rw [hll, hmap]
    refine ⟨by simp, Or.inr ⟨w.heap.size, _, _, rfl, hB, heap_alloc_new w.drew _, hge, hcm, ?_, ?_⟩⟩
    · simp only [Array.size_append, List.size_toArray, size_zeroCells, List.length_map]
      simp [Value.cells]
      omega
    · simp only [Array.toList_append, zeroCells_u8]
      rw [Nat.mul_one]
      have : (l.map (Value.int .u8) ++ List.replicate n (Value.int .u8 0)).length = l.length + n := by simp
      rw [← this]
      exact List.take_left
  rcases hown.2 with ⟨hv, hn⟩ | ⟨g, cap, cur, hv, hb, hh, hn, hcap, hcs, htk⟩
  · have hl : l = [] := List.length_eq_zero_iff.1 hn
    subst hl
    refine hgrow none 0 hv (by simp; omega) ?_
    rw [hv]
    simp [Builtin.firstCells]
  · by_cases hroom : l.length + n ≤ cap
    · subst hv
      have hw : IntKind.i64.wrap (n : Int) = n := by rw [IntKind.wrap_i64]; omega
      have hst := run_storeCells_at P g l.length 5 (List.replicate n (.int .u8 0)) 0 cur w hh (by simp; omega) (by simp [Value.oneCell'])
      simp only [Nat.add_zero] at hst
      have hneg : ¬ ((n : Int) < 0) := by omega
      have hnz : n ≠ 0 := by omega
      have h48i : ¬ (281474976710656 < (n : Int)) := by omega
      have hrun : (Builtin.append_ #[t, tn] ty #[.slice (some ⟨g, 0, none⟩) l.length cap, .int kq n]).run P w = .ok (.slice (some ⟨g, 0, none⟩) (l.length + n) cap) (w.setRow g (cur.toList.take l.length ++ List.replicate n (Value.int .u8 0) ++ cur.toList.drop (l.length + (List.replicate n (Value.int .u8 0)).length)).toArray) := by
        simp only [List.length_replicate] at hst ⊢
        simp [Builtin.append_, run_underlying ht, run_underlying htn, sizeOf, typeInfo, zeroValue, hi, hz0, hz1, hz2, asInt, asIntOf, hw, hneg, hnz, h48i, hroom, Addr.add_lit, zeroCells_u8, hst]
      refine ⟨_, _, hrun, ?_, ⟨rfl, rfl, rfl, by simp [World.setRow], fun k _ hk => setRow_other w g k _ (fun e => hk (by rw [e]; rfl))⟩, Or.inl rfl⟩
      unfold Own
      rw [hll, hmap]
      refine ⟨by simp, Or.inr ⟨g, cap, _, rfl, hb, setRow_heap w g cur _ 5 (0, 0) hh, hroom, hcap, ?_, ?_⟩⟩
      · simp; omega
      · rw [Nat.mul_one] at htk ⊢
        rw [htk]
        have : (l.map (Value.int .u8) ++ List.replicate n (Value.int .u8 0)).length = l.length + n := by simp
        rw [← this, List.toList_toArray]
        exact List.take_left
    · refine hgrow _ cap hv (by omega) ?_
      rw [hv]
      exact run_firstCells_some (P := P) w.drew i.size l.length _ l.length cap _ (by rw [List.length_map, hz1, Nat.mul_one]) (by
        have := World.ownsRow.cells (g := g) hown (by rw [hv]; rfl)
        simpa using this)

theorem wpList_append_zeros {P : Program} {w : World} {ops : Array Oper} {rest : List Oper} {o : Oper} {a : Act} {Q : Exit → Act → World → Prop} (hgd : o.guard = none) (s x : Operand) (t tn : TypeId) {kn : IntKind}
    (ho : o.op = .call { callee := .builtin .append, args := #[s, x], argTypes := #[t, tn] }) (ht : P.underlying t = some (.slice 5)) (htn : P.underlying tn = some (.int kn)) (h5 : (P.info? 5).map (fun i => (i.zero, i.size, i.bytes)) = some (some (.int .u8 0), 1, 1))
    (B : Nat) (v : Value) (l : List Int) (hs : a.eval s = v) (hown : Own w B v l) (n : Nat) (m : Int) (kq : IntKind) (hx : a.eval x = .int kq m) (hm : m = n) (h0 : 0 < n)
    (hlen : l.length + n ≤ 140737488355328) (hB : B ≤ w.heap.size)
    (h : ∀ v' w', Own w' B v' (l ++ List.replicate n 0) → w.grownBy w' v.ownBlock → (v'.ownBlock = v.ownBlock ∨ v'.ownBlock = some w.heap.size) → wpList P ops Q rest (a.put o.dst v') w') : wpList P ops Q (o :: rest) a w := by
  subst hm
  obtain ⟨v', w', hrun, ho', hg, hat⟩ := run_append_zeros (ty := o.type) ht htn h5 w B v l hown n kq h0 hlen hB
  refine wpList_plain hgd fun K hK => ?_
  unfold Oper.wp
  simp [execOp, ho, resolve, invoke, builtin, hs, hx, hrun, Result.andThen]
  exact hK _ _ (h v' w' ho' hg hat)

end Go.Proofs.YtpbnjobjjnhplaaDoor.Oct
