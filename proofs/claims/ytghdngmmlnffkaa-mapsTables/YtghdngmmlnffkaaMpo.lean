/- An entry that comes in. -/
import Derived.Test.YtghdngmmlnffkaaMpm
import Derived.Test.YtghdngmmlnffkaaOpen
import Derived.Test.YtghdngmmlnffkaaChecked
import Derived.Lib.SmallJoins
import Derived.ProofKit
import Derived.OpenShut
import Derived.Carry
namespace Go.Proofs.Ytghdngmmlnffkaa.Oct
open Go.RowKit Go.ChangeShapes Go.WideShapes Go.ChangeAt

theorem array3 {α : Type} {cs : Array α} (h : cs.size = 3) : ∃ c0 c1 c2, cs = #[c0, c1, c2] := by
  obtain ⟨l⟩ := cs
  match l, h with
  | [c0, c1, c2], _ => exact ⟨c0, c1, c2, rfl⟩

theorem cellsEnt : Try.prog.cellsOf 43 = 3 := by kernel_rfl

set_option maxRecDepth 100000 in
theorem open_ent {H : Type} {enc : TypeId × Value → H} {W : World} {base : Nat} {spare : Nat → Bool} {held : Bool} {r : Reach} {b0 : Nat} {v : Value} {d : DataW H} {p : List MemPlace}
    (hv : Value.okWide Try.prog W r b0 43 v) (h : DataW.Trod enc Try.prog W base spare held 43 v d p) :
    ∃ (k c : Int) (o : Bool), v = .agg #[.int .i64 k, .int .i64 c, .bool o] := by
  obtain ⟨cs, rfl, hsz⟩ := okWide_struct Try.underlying43 hv
  obtain ⟨c0, c1, c2, rfl⟩ := array3 (hsz.trans cellsEnt)
  obtain ⟨fuel, hf⟩ := h
  obtain ⟨xs, n, _, _, _, hlen, hall⟩ := DataW.trod_struct Try.underlying43 hf
  match xs, hlen with
  | [y0, y1, y2], _ =>
    have e3 : Try.prog.cellsOf 3 = 1 := by kernel_rfl
    have e2 : Try.prog.cellsOf 2 = 1 := by kernel_rfl
    have e4 : Try.prog.cellsOf 4 = 1 := by kernel_rfl
    have h0 := hall 0 _ rfl
    have h1 := hall 1 _ rfl
    have h2 := hall 2 _ rfl
    simp [Value.cells, e3] at h0
    simp [Value.cells, e2] at h1
    simp [Value.cells, e4] at h2
    obtain ⟨x0, q0, _, w0⟩ := DataW.trod_int Try.underlying3 h0
    obtain ⟨x1, q1, _, w1⟩ := DataW.trod_int Try.underlying2 h1
    obtain ⟨x2, q2, _⟩ := DataW.trod_bool Try.underlying4 h2
    simp at q0 q1 q2
    subst q0 q1 q2
    exact ⟨x0, x1, x2, rfl⟩
end Go.Proofs.Ytghdngmmlnffkaa.Oct
