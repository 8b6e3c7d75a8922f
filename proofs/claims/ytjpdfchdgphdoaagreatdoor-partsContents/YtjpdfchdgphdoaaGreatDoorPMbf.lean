/- A table on its way: the object, and what is read into it. -/
import Derived.Test.YtjpdfchdgphdoaaGreatDoorPQbe
import Derived.Test.YtjpdfchdgphdoaaGreatDoorPExv
import Derived.Test.YtjpdfchdgphdoaaGreatDoorPTak
import Derived.Deep.RegionWith
namespace Go.Proofs.YtjpdfchdgphdoaaGreatDoor.Oct
open Go.RowKit

theorem Chg.setC {X : Nat → Prop} {w w' : World} (h : Chg X w w') (F o : Nat) (v : Value) (hx : F < w.heap.size → X F) : Chg X w (w'.setCell ⟨F, o, none⟩ v) := by
  refine ⟨h.os, h.tape, h.output, by simpa [World.setCell] using h.size, fun k hk hnx => ?_⟩
  have hne : k ≠ F := fun e => hnx (by subst e; exact hx hk)
  rw [show (w'.setCell ⟨F, o, none⟩ v).heap[k]? = w'.heap[k]? from Below.heap_setCell _ _ _ _ hne]
  exact h.block k hk hnx

/-- The object lies at R, with dv for its disk, and knows st; the blocks of K are none of its own. -/
structure Rdg (w : World) (K : Nat → Prop) (R : Nat) (dv vP vH : Value) (st : MS) : Prop where
  blk : Blk w R #[vP, vH, .int .i64 st.i1, .int .i64 st.i2, .bool st.g, dv] 101
  p : OwnP 74 w 0 vP st.P
  h : OwnE w 0 vH st.H
  kR : ¬ K R
  kP : ∀ g, vP.ownBlock = some g → ¬ K g ∧ g ≠ R ∧ vH.ownBlock ≠ some g
  kH : ∀ g, vH.ownBlock = some g → ¬ K g ∧ g ≠ R
  kl : ∀ k, K k → k < w.heap.size

theorem Rdg.chg {X : Nat → Prop} {w w' : World} {K : Nat → Prop} {R : Nat} {dv vP vH : Value} {st : MS} (h : Rdg w K R dv vP vH st) (hc : Chg X w w') (hR : ¬ X R) (hP : ∀ g, vP.ownBlock = some g → ¬ X g) (hH : ∀ g, vH.ownBlock = some g → ¬ X g) : Rdg w' K R dv vP vH st :=
  ⟨h.blk.chg hc hR, h.p.chg hc hP, ownsRow_chg h.h hc hH, h.kR, h.kP, h.kH, fun k hk => Nat.lt_of_lt_of_le (h.kl k hk) hc.size⟩

theorem Rdg.below {w w' : World} {K : Nat → Prop} {R : Nat} {dv vP vH : Value} {st : MS} (h : Rdg w K R dv vP vH st) (hb : Below w.heap.size w w') : Rdg w' K R dv vP vH st :=
  h.chg (X := fun _ => False) (Chg.of_below hb) (fun h => h) (fun _ _ h => h) (fun _ _ h => h)

theorem Rdg.drew {w : World} {K : Nat → Prop} {R : Nat} {dv vP vH : Value} {st : MS} (h : Rdg w K R dv vP vH st) : Rdg w.drew K R dv vP vH st := ⟨h.blk, h.p, h.h, h.kR, h.kP, h.kH, h.kl⟩

theorem Rdg.cell {w : World} {K : Nat → Prop} {R : Nat} {dv vP vH : Value} {st : MS} (h : Rdg w K R dv vP vH st) :
    w.cell? ⟨R, 0, none⟩ = some vP ∧ w.cell? ⟨R, 1, none⟩ = some vH ∧ w.cell? ⟨R, 2, none⟩ = some (.int .i64 st.i1) ∧ w.cell? ⟨R, 3, none⟩ = some (.int .i64 st.i2) ∧ w.cell? ⟨R, 4, none⟩ = some (.bool st.g) ∧ w.cell? ⟨R, 5, none⟩ = some dv :=
  ⟨h.blk.cell 0 _ rfl, h.blk.cell 1 _ rfl, h.blk.cell 2 _ rfl, h.blk.cell 3 _ rfl, h.blk.cell 4 _ rfl, h.blk.cell 5 _ rfl⟩

/-- What keeps K only changes what is the object's, or new. -/
def Kept (K : Nat → Prop) (w w' : World) : Prop := Chg (fun k => ¬ K k) w w'

theorem Kept.refl (K : Nat → Prop) (w : World) : Kept K w w := Chg.refl _ _
theorem Kept.trans {K : Nat → Prop} {a b c : World} (h : Kept K a b) (k : Kept K b c) : Kept K a c := Chg.trans h k
theorem Kept.of_below {K : Nat → Prop} {w w' : World} (h : Below w.heap.size w w') : Kept K w w' := Chg.of_below h
theorem Kept.drew {K : Nat → Prop} {w w' : World} (h : Kept K w w') : Kept K w w'.drew := Chg.drew h

/-- Bytes that lie in a block of K. -/
def LiesK (K : Nat → Prop) (w : World) (a : Option Addr) (l : List Int) : Prop := Lies w a l ∧ ∀ x, a = some x → K x.block

theorem LiesK.kept {K : Nat → Prop} {w w' : World} {a : Option Addr} {l : List Int} (h : LiesK K w a l) (hk : Kept K w w') : LiesK K w' a l := ⟨h.1.chg hk (fun x hx hn => hn (h.2 x hx)), h.2⟩

/-- A row of parts that grew by one, stored in the object again. -/
theorem Rdg.putH {w w5 : World} {K : Nat → Prop} {R : Nat} {dv vP vH : Value} {st : MS} (h : Rdg w K R dv vP vH st) (v5 : Value) (x : Int × Int) (ho : w5.ownsRow 0 24 2 v5 (st.H.length + 1) (st.H.flatMap encE ++ [.int .i64 x.1, .int .i64 x.2])) (hg : w.grownBy w5 vH.ownBlock) (hn : v5.ownBlock = vH.ownBlock ∨ v5.ownBlock = some w.heap.size) :
    Rdg (w5.setCell ⟨R, 1, none⟩ v5) K R dv vP v5 { st with H := st.H ++ [x] } ∧ Kept K w (w5.setCell ⟨R, 1, none⟩ v5) := by
  have hc : Chg (fun k => some k = vH.ownBlock) w w5 := ⟨hg.os, hg.tape, hg.output, hg.size, hg.block⟩
  have hs : Chg (fun k => k = R) w5 (w5.setCell ⟨R, 1, none⟩ v5) := (Chg.refl _ _).setC R 1 v5 (fun _ => rfl)
  have hRl := h.blk.lt
  have h1 : Blk w5 R #[vP, vH, .int .i64 st.i1, .int .i64 st.i2, .bool st.g, dv] 101 := h.blk.chg hc (fun e => (h.kH _ e.symm).2 rfl)
  have hnew : ∀ g, v5.ownBlock = some g → ¬ K g ∧ g ≠ R ∧ vP.ownBlock ≠ some g := by
    intro g hgg
    rcases hn with e | e
    · rw [e] at hgg
      exact ⟨(h.kH g hgg).1, (h.kH g hgg).2, fun e2 => (h.kP g e2).2.2 hgg⟩
    · rw [e] at hgg
      cases hgg
      refine ⟨fun hk => absurd (h.kl _ hk) (by omega), by omega, fun e2 => ?_⟩
      have := ownsRow_lt h.p _ e2
      omega
  refine ⟨⟨?_, ?_, ?_, h.kR, ?_, ?_, ?_⟩, ?_⟩
  · have := h1.set 1 v5
    simpa using this
  · exact (h.p.chg hc (fun g e e2 => (h.kP g e).2.2 e2.symm)).chg hs (fun g e => (h.kP g e).2.1)
  · unfold OwnE
    rw [List.flatMap_append, List.length_append]
    exact ownsRow_chg ho hs (fun g e => (hnew g e).2.1)
  · exact fun g e => ⟨(h.kP g e).1, (h.kP g e).2.1, fun e2 => (hnew g e2).2.2 e⟩
  · exact fun g e => ⟨(hnew g e).1, (hnew g e).2.1⟩
  · exact fun k hk => Nat.lt_of_lt_of_le (h.kl k hk) (Nat.le_trans hc.size hs.size)
  · refine (hc.mono (fun k _ e hk => (h.kH k e.symm).1 hk)).trans (hs.mono (fun k _ e hk => h.kR (e ▸ hk)))

theorem Rdg.putP {w w5 : World} {K : Nat → Prop} {R : Nat} {dv vP vH : Value} {st : MS} (h : Rdg w K R dv vP vH st) (v5 : Value) (x : M4) (ho : w5.ownsRow 0 74 4 v5 (st.P.length + 1) (st.P.flatMap encPm ++ [.int .i64 x.1, .int .i64 x.2.1, .int .i64 x.2.2.1, .int .i64 x.2.2.2])) (hg : w.grownBy w5 vP.ownBlock) (hn : v5.ownBlock = vP.ownBlock ∨ v5.ownBlock = some w.heap.size) :
    Rdg (w5.setCell ⟨R, 0, none⟩ v5) K R dv v5 vH { st with P := st.P ++ [x] } ∧ Kept K w (w5.setCell ⟨R, 0, none⟩ v5) := by
  have hc : Chg (fun k => some k = vP.ownBlock) w w5 := ⟨hg.os, hg.tape, hg.output, hg.size, hg.block⟩
  have hs : Chg (fun k => k = R) w5 (w5.setCell ⟨R, 0, none⟩ v5) := (Chg.refl _ _).setC R 0 v5 (fun _ => rfl)
  have hRl := h.blk.lt
  have h1 : Blk w5 R #[vP, vH, .int .i64 st.i1, .int .i64 st.i2, .bool st.g, dv] 101 := h.blk.chg hc (fun e => (h.kP _ e.symm).2.1 rfl)
  have hnew : ∀ g, v5.ownBlock = some g → ¬ K g ∧ g ≠ R ∧ vH.ownBlock ≠ some g := by
    intro g hgg
    rcases hn with e | e
    · rw [e] at hgg
      exact h.kP g hgg
    · rw [e] at hgg
      cases hgg
      refine ⟨fun hk => absurd (h.kl _ hk) (by omega), by omega, fun e2 => ?_⟩
      have := ownsRow_lt h.h _ e2
      omega
  refine ⟨⟨?_, ?_, ?_, h.kR, hnew, h.kH, ?_⟩, ?_⟩
  · have := h1.set 0 v5
    simpa using this
  · unfold OwnP
    rw [List.flatMap_append, List.length_append]
    exact ownsRow_chg ho hs (fun g e => (hnew g e).2.1)
  · exact ownsRow_chg (ownsRow_chg h.h hc (fun g e e2 => (h.kP g e2.symm).2.2 e)) hs (fun g e => (h.kH g e).2)
  · exact fun k hk => Nat.lt_of_lt_of_le (h.kl k hk) (Nat.le_trans hc.size hs.size)
  · refine (hc.mono (fun k _ e hk => (h.kP k e.symm).1 hk)).trans (hs.mono (fun k _ e hk => h.kR (e ▸ hk)))

theorem step_append_rowM {P : Program} {ops : Array Oper} {o : Oper} {a : Act} {w : World} {K : Act → World → Prop} {Q : Exit → Act → World → Prop} {E : Prop} (hgd : o.guard = none) (s x : Operand) (t : TypeId)
    (ho : o.op = .call { callee := .builtin .append, args := #[s, x], argTypes := #[t, t] })
    (base : Nat) (e : TypeId) (i : TypeInfo) (z : Value) (size bytes : Nat) (ht : P.underlying t = some (.slice e)) (hi : P.info? e = some i) (hz : i.zero = some z)
    (hsize : i.size = size) (hby : i.bytes = bytes) (hzs : z.cells.size = size) (hsz : 0 < size)
    (v : Value) (n : Nat) (xs : List Value) (hs : a.eval s = v) (hown : w.ownsRow base e size v n xs)
    (ad : Addr) (m c : Nat) (news : List Value) (hx : a.eval x = .slice (some ad) m c) (hl : news.length = m * size) (hnews : ∀ j u, news[j]? = some u → w.cell? (ad.add j) = some u) (h1 : ∀ u ∈ news, u.oneCell' = true)
    (h63 : n + m ≤ maxLen) (hbytes : (n + m) * bytes ≤ 140737488355328) (hbase : base ≤ w.heap.size)
    (h : ∀ v' w', w'.ownsRow base e size v' (n + m) (xs ++ news) → w.grownBy w' v.ownBlock → (v'.ownBlock = v.ownBlock ∨ v'.ownBlock = some w.heap.size) → K (a.put o.dst v') w') : if Region.wanted o (yielded ops a.tmps) = true then Oper.wp P o a w K Q else E := by
  have hw : Region.wanted o (yielded ops a.tmps) = true := by simp [Region.wanted, hgd]
  rw [if_pos hw]
  obtain ⟨v', w', hr, h2, h3, h4, h5⟩ := run_append_own_at (P := P) w base t o.type e i z size bytes ht hi hz hsize hby hzs hsz v n xs hown ad m c news hl hnews h1 h63 hbytes hbase
  unfold Oper.wp
  simp [execOp, ho, resolve, invoke, builtin, hs, hx, hr, Result.andThen]
  exact h v' w' h2 h3 h5

theorem row_succM {w : World} {B e s n : Nat} {v : Value} {xs : List Value} (h : w.ownsRow B e s v (n + 1) xs) : ∃ g cap, v = .slice (some ⟨g, 0, none⟩) (n + 1) cap := by
  rcases h.2 with ⟨_, hn⟩ | ⟨g, cap, cur, hv, _⟩
  · omega
  · exact ⟨g, cap, hv⟩


theorem nil_read (w : World) (a : Option Addr) (n c : Nat) : (nilAhead 247 33 (.slice a n c) "Read").run Tryz.prog w = .ok (some false) w := by kernel_rfl
end Go.Proofs.YtjpdfchdgphdoaaGreatDoor.Oct
