/- A boot that came in. -/
import Derived.Test.YtcbbaoiefdbcpaaDoorPFba
import Derived.Test.YtcbbaoiefdbcpaaDoorPOpen
import Derived.Lib.SmallJoins
namespace Go.Proofs.YtcbbaoiefdbcpaaDoor.Oct
open Go.RowKit Go.ChangeShapes Go.WideShapes Go.ChangeAt

theorem cellsBoot : Tryd.prog.cellsOf 63 = 8 := by kernel_rfl

theorem array8B {cs : Array Value} (h : cs.size = 8) : ∃ c0 c1 c2 c3 c4 c5 c6 c7, cs = #[c0, c1, c2, c3, c4, c5, c6, c7] := by
  obtain ⟨l⟩ := cs
  match l, h with
  | [c0, c1, c2, c3, c4, c5, c6, c7], _ => exact ⟨c0, c1, c2, c3, c4, c5, c6, c7, rfl⟩

set_option maxRecDepth 100000 in
theorem open_boot {H : Type} {enc : TypeId × Value → H} {W : World} {base : Nat} {spare : Nat → Bool} {held : Bool} {r : Reach} {b0 : Nat} {v : Value} {d : DataW H} {p : List MemPlace}
    (hv : Value.okWide Tryd.prog W r b0 63 v) (h : DataW.Trod enc Tryd.prog W base spare held 63 v d p) :
    ∃ b : Bt, v = .agg b.cs := by
  obtain ⟨cs, rfl, hsz⟩ := okWide_struct Tryd.underlying63 hv
  obtain ⟨c0, c1, c2, c3, c4, c5, c6, c7, rfl⟩ := array8B (hsz.trans cellsBoot)
  obtain ⟨fuel, hf⟩ := h
  obtain ⟨xs, n, _, _, _, hlen, hall⟩ := DataW.trod_struct Tryd.underlying63 hf
  match xs, hlen with
  | [y0, y1, y2, y3, y4, y5, y6, y7], _ =>
    have e2 : Tryd.prog.cellsOf 2 = 1 := by kernel_rfl
    have h0 := hall 0 _ rfl
    have h1 := hall 1 _ rfl
    have h2 := hall 2 _ rfl
    have h3 := hall 3 _ rfl
    have h4 := hall 4 _ rfl
    have h5 := hall 5 _ rfl
    have h6 := hall 6 _ rfl
    have h7 := hall 7 _ rfl
    simp [Value.cells, e2] at h0
    simp [Value.cells, e2] at h1
    simp [Value.cells, e2] at h2
    simp [Value.cells, e2] at h3
    simp [Value.cells, e2] at h4
    simp [Value.cells, e2] at h5
    simp [Value.cells, e2] at h6
    simp [Value.cells, e2] at h7
    obtain ⟨x0, q0, _, w0⟩ := DataW.trod_int Tryd.underlying2 h0
    obtain ⟨x1, q1, _, w1⟩ := DataW.trod_int Tryd.underlying2 h1
    obtain ⟨x2, q2, _, w2⟩ := DataW.trod_int Tryd.underlying2 h2
    obtain ⟨x3, q3, _, w3⟩ := DataW.trod_int Tryd.underlying2 h3
    obtain ⟨x4, q4, _, w4⟩ := DataW.trod_int Tryd.underlying2 h4
    obtain ⟨x5, q5, _, w5⟩ := DataW.trod_int Tryd.underlying2 h5
    obtain ⟨x6, q6, _, w6⟩ := DataW.trod_int Tryd.underlying2 h6
    obtain ⟨x7, q7, _, w7⟩ := DataW.trod_int Tryd.underlying2 h7
    simp at q0 q1 q2 q3 q4 q5 q6 q7
    subst q0 q1 q2 q3 q4 q5 q6 q7
    exact ⟨⟨x0, x1, x2, x3, x4, x5, x6, x7⟩, rfl⟩
end Go.Proofs.YtcbbaoiefdbcpaaDoor.Oct
