/- Meet: what two sets have in common. -/
import Derived.Test.YtjpdfchdgphdoaaGreatDoorPMov
import Derived.Test.YtjpdfchdgphdoaaGreatDoorPHsrBhd
import Derived.Test.YtjpdfchdgphdoaaGreatDoorPMtm
namespace Go.Proofs.YtjpdfchdgphdoaaGreatDoor.Oct
open Go.RowKit Go.Shelf

attribute [local go_sem] Oper.semAt_some

theorem behd_sk {R : List (Int × Int)} {x : Int} {k : Nat} (h : Behd R x k) : skE R x = k := by
  have := tw_take (fun y : Int × Int => decide (y.2 ≤ x)) (0, 0) R k h.1 (fun j hj => by simpa using h.2.1 j hj) (fun hk => by simpa using h.2.2 hk)
  unfold skE
  rw [this, List.length_take]
  have := h.1
  omega

set_option maxHeartbeats 1000000 in
theorem behind_nil (w : World) (p : Option Addr) (c : Nat) (x : Int) :
    Calls Tryz.prog 66 #[.slice p 0 c, .int .i64 x] w fun e w' => e = .returned (.slice p 0 c) ∧ w' = w := by
  go_enter Tryz.func66, Tryz.ntmps66
  go_wp2_with fail
  go_loopw [0] (fun s wr => s = .slice p 0 c ∧ wr = w) (fun _ _ => 0)
  case atStart => exact ⟨rfl, rfl⟩
  case round =>
    obtain ⟨rfl, rfl⟩ := hrel
    go_wp2_with fail
    go_ret
    exact ⟨rfl, rfl⟩

/-- The rest, behind a place. -/
theorem behind_rest (w : World) (b off c : Nat) (T : List (Int × Int)) (k : Nat) (p : Option Addr) (x : Int) (h : LiesE w (some ⟨b, off, none⟩) T) (hb : b < w.heap.size) (hl : T.length ≤ 1000000) (hc : T.length ≤ c) (hk : k ≤ T.length) (hr : Rest p b off T k) :
    Calls Tryz.prog 66 #[.slice p (T.length - k) (c - k), .int .i64 x] w fun e w' => ∃ p', e = .returned (.slice p' (T.length - (k + skE (T.drop k) x)) (c - (k + skE (T.drop k) x))) ∧ Rest p' b off T (k + skE (T.drop k) x) ∧ w' = w := by
  rcases Nat.lt_or_ge k T.length with hlt | hge
  · rw [hr hlt]
    have := behind_any w b (off + k * 2) (c - k) (T.drop k) x (h.drop k hb) hb (by simp; omega) (by simp; omega)
    rw [List.length_drop] at this
    refine this.mono ?_
    rintro e w' ⟨k1, p1, rfl, hr1, hb1, rfl⟩
    have e1 := behd_sk hb1
    rw [e1]
    refine ⟨p1, by rw [Nat.sub_sub, Nat.sub_sub], fun h1 => ?_, rfl⟩
    rw [hr1 (by simp; omega), Nat.add_mul, Nat.add_assoc]
  · have e0 : T.length - k = 0 := by omega
    have e1 : skE (T.drop k) x = 0 := by rw [List.drop_of_length_le hge]; rfl
    rw [e0, e1, Nat.add_zero, e0]
    refine (behind_nil w p (c - k) x).mono ?_
    rintro e w' ⟨rfl, rfl⟩
    exact ⟨p, rfl, hr, rfl⟩

theorem keepB_own {β : Type} {B g : Nat} {w₀ : World} (hg : g < w₀.heap.size) (hB : g < B) : OwnFrom B (fun (_ : β) W => KeepB g w₀ W) := fun _ W W' row hs hgr hr => by
  refine ⟨Nat.le_trans hs.1 hgr.size, (hgr.block g (Nat.lt_of_lt_of_le hg hs.1) (fun e => ?_)).trans hs.2⟩
  have := (hr g e.symm).1
  omega

theorem boxedEx_own {β γ : Type} (B : Nat) (t : TypeId) (f : β → γ → Value) (G : β → γ → Prop) : Go.Own (fun (s : β) W => ∃ p, Boxed W B t (f s p) ∧ G s p) := fun s X Y row hs hg hrow => by
  obtain ⟨p, hb, hG⟩ := hs
  exact ⟨p, boxed_own B t (fun (_ : Unit) => f s p) () X Y row hb hg hrow, hG⟩

/-- What stays while one part is gone through. -/
structure InL (w w2 w3 W : World) (bT g Bx : Nat) (rest : Value) (x1 x2 : Int) (wr : World) (v : Value) : Prop where
  both : Boxed wr w.heap.size 40 v
  rest_ : Boxed wr w2.heap.size 55 rest
  kt : KeepB bT w3 wr
  below : Below w.heap.size w wr
  sz : w3.heap.size ≤ wr.heap.size
  others : KeepsOthers W wr
  kg : KeepB g W wr
  x : wr.heap[Bx]? = some (.cells #[.int .i64 x1, .int .i64 x2] 24 (0, 0))
  no : v.ownBlock ≠ some Bx

theorem InL.alloc {w w2 w3 W : World} {bT g Bx : Nat} {rest : Value} {x1 x2 : Int} {wr : World} {v : Value} (h : InL w w2 w3 W bT g Bx rest x1 x2 wr v) (hb : bT < w3.heap.size) (hg : g < w3.heap.size) (hW : w3.heap.size ≤ W.heap.size) (o : Obj) : InL w w2 w3 W bT g Bx rest x1 x2 (wr.alloc o) v :=
  ⟨h.both.alloc o, h.rest_.alloc o, h.kt.alloc (by omega) o, h.below.alloc h.below.size o, by have := h.sz; simp; omega, h.others.trans (KeepsOthers.alloc wr o), h.kg.alloc (by omega) o, (((Below.refl wr.heap.size wr).alloc (Nat.le_refl _) o).block Bx (Array.getElem?_eq_some_iff.1 h.x).1).trans h.x, h.no⟩

theorem InL.cells {w w2 w3 W : World} {bT g Bx : Nat} {rest : Value} {x1 x2 : Int} {wr : World} {v : Value} (h : InL w w2 w3 W bT g Bx rest x1 x2 wr v) : wr.cell? ⟨Bx, 0, none⟩ = some (.int .i64 x1) ∧ wr.cell? ⟨Bx, 1, none⟩ = some (.int .i64 x2) := by
  simp only [World.cell?, h.x]; exact ⟨rfl, rfl⟩

/-- A part is added. -/
theorem InL.added {w w2 w3 W : World} {bT g Bx : Nat} {rest : Value} {x1 x2 : Int} {wr w5 : World} {v v' : Value} {n m : Nat} {xs ys : List Value} {tmp : Obj} (h : InL w w2 w3 W bT g Bx rest x1 x2 wr v)
    (hw2 : w.heap.size < w2.heap.size) (hw3 : w2.heap.size < w3.heap.size) (hb : bT < w3.heap.size) (hb0 : w.heap.size < bT) (hg : g < w3.heap.size) (hg0 : w.heap.size < g) (hBx : w3.heap.size ≤ Bx)
    (hrow : wr.ownsRow w3.heap.size 24 2 v n xs) (ho5 : w5.ownsRow w3.heap.size 24 2 v' m ys) (hg5 : (wr.alloc tmp).grownBy w5 v.ownBlock) (hv : v'.ownBlock = v.ownBlock ∨ v'.ownBlock = some (wr.alloc tmp).heap.size) :
    Boxed w5 w.heap.size 40 v ∧ InL w w2 w3 W bT g Bx rest x1 x2 (w5.setCell ⟨w.heap.size, 0, none⟩ v') v' ∧ (w5.setCell ⟨w.heap.size, 0, none⟩ v').ownsRow w3.heap.size 24 2 v' m ys := by
  obtain ⟨k1, k2, k3, k4, k5, k6, k7⟩ := Boxed.added (n₀ := w.heap.size) (g := g) h.both (by decide) (e := 24) hrow h.sz (Nat.le_refl _) (by omega) hg (by omega) ho5 hg5
  obtain ⟨_, _, _, _, _, j6, _⟩ := Boxed.added (n₀ := w.heap.size) (g := bT) h.both (by decide) (e := 24) hrow h.sz (Nat.le_refl _) (by omega) hb (by omega) ho5 hg5
  have hlx := (Array.getElem?_eq_some_iff.1 h.x).1
  refine ⟨k1, ⟨k2, k7 _ _ _ h.rest_ (by decide) (by omega), h.kt.trans j6, h.below.trans k5, Nat.le_trans h.sz k6.1, h.others.trans k4, h.kg.trans k6, ?_, ?_⟩, k3⟩
  · rw [heap_setCell_other w5 ⟨w.heap.size, 0, none⟩ Bx v' (by show Bx ≠ w.heap.size; omega), hg5.block Bx (by simp; omega) (fun e => h.no e.symm)]
    exact (((Below.refl wr.heap.size wr).alloc (Nat.le_refl _) tmp).block Bx hlx).trans h.x
  · rcases hv with e | e
    · rw [e]; exact h.no
    · rw [e]
      intro e2
      simp at e2
      omega

/-- How far the other set is gone. -/
def meetK (T : List (Int × Int)) (pre : List (Nat × (Int × Int))) : Nat := (stS (fun x H => H.map (cutE x)) T pre).1
end Go.Proofs.YtjpdfchdgphdoaaGreatDoor.Oct
