/- A block that holds one struct; results that lie in one. -/
import Derived.Test.YtjmajjfknmjifaaDoorPAppChg
import Derived.Test.YtjmajjfknmjifaaDoorChecked
import Derived.Laws.ResultCell
import Derived.Laws.Rows
namespace Go.Proofs.YtjmajjfknmjifaaDoor.Oct
open Go.RowKit

/-- A block's cells. -/
def Blk (u : World) (R : Nat) (cs : Array Value) (t : TypeId) : Prop := u.heap[R]? = some (.cells cs t (0, 0))
theorem Blk.lt {u : World} {R : Nat} {cs : Array Value} {t : TypeId} (h : Blk u R cs t) : R < u.heap.size := (Array.getElem?_eq_some_iff.1 h).1
theorem Blk.below {u u' : World} {R : Nat} {cs : Array Value} {t : TypeId} (h : Blk u R cs t) (hb : Below u.heap.size u u') : Blk u' R cs t := (hb.block R h.lt).trans h
theorem Blk.chg {X : Nat → Prop} {u u' : World} {R : Nat} {cs : Array Value} {t : TypeId} (h : Blk u R cs t) (hb : Chg X u u') (hx : ¬ X R) : Blk u' R cs t := (hb.block R h.lt hx).trans h
theorem Blk.drew {u : World} {R : Nat} {cs : Array Value} {t : TypeId} (h : Blk u R cs t) : Blk u.drew R cs t := h
theorem Blk.cell {u : World} {R : Nat} {cs : Array Value} {t : TypeId} (h : Blk u R cs t) (i : Nat) (v : Value) (hv : cs[i]? = some v) : u.cell? ⟨R, i, none⟩ = some v := by
  unfold Blk at h
  simp [World.cell?, h, hv]
theorem Blk.frozen {u : World} {R : Nat} {cs : Array Value} {t : TypeId} (h : Blk u R cs t) (i : Nat) : u.frozen? ⟨R, i, none⟩ = false := by
  unfold Blk at h
  simp [World.frozen?, h]
theorem Blk.set {u : World} {R : Nat} {cs : Array Value} {t : TypeId} (h : Blk u R cs t) (i : Nat) (v : Value) : Blk (u.setCell ⟨R, i, none⟩ v) R (cs.setIfInBounds i v) t := by
  unfold Blk at *
  simp [World.setCell, Array.getElem?_modify, h]
theorem Blk.other {u : World} {R R' : Nat} {cs : Array Value} {t : TypeId} (h : Blk u R cs t) (hne : R ≠ R') (i : Nat) (v : Value) : Blk (u.setCell ⟨R', i, none⟩ v) R cs t := by
  unfold Blk at *
  rw [← h]
  exact Below.heap_setCell _ _ _ _ hne
theorem Blk.new (w : World) (cs : Array Value) (t : TypeId) : Blk (w.alloc (.cells cs t)) w.heap.size cs t := heap_alloc_new w _

/-- A result of a struct in a block, and a value. -/
theorem ret_agg {fn : Func} {p u : Tmp} {ty : TypeId} (hr : fn.results = #[.cell p ty, .tmp u]) (tmps : Array Value) (w : World) (R : Nat) (cs : Array Value) (z : Value)
    (hp : tmps.getD p undef = .pointer (some ⟨R, 0, none⟩)) (hz : tmps.getD u undef = z) (hl : (loadVar ty ⟨R, 0, none⟩).run Tryd.prog w = .ok (.agg cs) w) :
    (results fn tmps).run Tryd.prog w = .ok (.tuple #[.agg cs, z]) w := by
  rw [results_cell_tmp hr, hp, hz]
  simp only [asAddr, Sem.run_pure, Result.andThen_ok]
  rw [hl]
  rfl
end Go.Proofs.YtjmajjfknmjifaaDoor.Oct
