/- What ext's laws are given: a row, a super, bits; opened. -/
import Derived.Test.YtjmajjfknmjifaaDoorPOpen
import Derived.Test.YtjmajjfknmjifaaDoorPEyj
import Derived.Lib.SmallJoins
import Derived.Deep.Slices
import Derived.Deep.Strs
namespace Go.Proofs.YtjmajjfknmjifaaDoor.Oct
open Go.RowKit Go.Deep Go.ChangeShapes Go.WideShapes Go.ChangeAt

theorem cellsErow : Tryd.prog.cellsOf 41 = 6 := by kernel_rfl
theorem cellsEsup : Tryd.prog.cellsOf 23 = 8 := by kernel_rfl

theorem array6E {cs : Array Value} (h : cs.size = 6) : ∃ c0 c1 c2 c3 c4 c5, cs = #[c0, c1, c2, c3, c4, c5] := by
  obtain ⟨l⟩ := cs
  match l, h with
  | [c0, c1, c2, c3, c4, c5], _ => exact ⟨c0, c1, c2, c3, c4, c5, rfl⟩

theorem array8E {cs : Array Value} (h : cs.size = 8) : ∃ c0 c1 c2 c3 c4 c5 c6 c7, cs = #[c0, c1, c2, c3, c4, c5, c6, c7] := by
  obtain ⟨l⟩ := cs
  match l, h with
  | [c0, c1, c2, c3, c4, c5, c6, c7], _ => exact ⟨c0, c1, c2, c3, c4, c5, c6, c7, rfl⟩

set_option maxRecDepth 100000 in
theorem open_erow {H : Type} {enc : TypeId × Value → H} {W : World} {base : Nat} {spare : Nat → Bool} {held : Bool} {r : Reach} {b0 : Nat} {v : Value} {d : DataW H} {p : List MemPlace}
    (hv : Value.okWide Tryd.prog W r b0 41 v) (h : DataW.Trod enc Tryd.prog W base spare held 41 v d p) :
    ∃ x : Rw, v = .agg x.cs := by
  obtain ⟨cs, rfl, hsz⟩ := okWide_struct Tryd.underlying41 hv
  obtain ⟨c0, c1, c2, c3, c4, c5, rfl⟩ := array6E (hsz.trans cellsErow)
  obtain ⟨fuel, hf⟩ := h
  obtain ⟨xs, n, _, _, _, hlen, hall⟩ := DataW.trod_struct Tryd.underlying41 hf
  match xs, hlen with
  | [y0, y1, y2, y3, y4, y5], _ =>
    have e2 : Tryd.prog.cellsOf 2 = 1 := by kernel_rfl
    have h0 := hall 0 _ rfl
    simp [Value.cells, e2] at h0
    obtain ⟨x0, q0, _, w0⟩ := DataW.trod_int Tryd.underlying2 h0
    have h1 := hall 1 _ rfl
    simp [Value.cells, e2] at h1
    obtain ⟨x1, q1, _, w1⟩ := DataW.trod_int Tryd.underlying2 h1
    have h2 := hall 2 _ rfl
    simp [Value.cells, e2] at h2
    obtain ⟨x2, q2, _, w2⟩ := DataW.trod_int Tryd.underlying2 h2
    have h3 := hall 3 _ rfl
    simp [Value.cells, e2] at h3
    obtain ⟨x3, q3, _, w3⟩ := DataW.trod_int Tryd.underlying2 h3
    have h4 := hall 4 _ rfl
    simp [Value.cells, e2] at h4
    obtain ⟨x4, q4, _, w4⟩ := DataW.trod_int Tryd.underlying2 h4
    have h5 := hall 5 _ rfl
    simp [Value.cells, e2] at h5
    obtain ⟨x5, q5, _, w5⟩ := DataW.trod_int Tryd.underlying2 h5
    simp at q0 q1 q2 q3 q4 q5
    subst q0 q1 q2 q3 q4 q5
    exact ⟨⟨x0, x1, x2, x3, x4, x5⟩, rfl⟩

set_option maxRecDepth 100000 in
theorem open_esup {H : Type} {enc : TypeId × Value → H} {W : World} {base : Nat} {spare : Nat → Bool} {held : Bool} {r : Reach} {b0 : Nat} {v : Value} {d : DataW H} {p : List MemPlace}
    (hv : Value.okWide Tryd.prog W r b0 23 v) (h : DataW.Trod enc Tryd.prog W base spare held 23 v d p) :
    ∃ x : Sp, v = .agg x.cs := by
  obtain ⟨cs, rfl, hsz⟩ := okWide_struct Tryd.underlying23 hv
  obtain ⟨c0, c1, c2, c3, c4, c5, c6, c7, rfl⟩ := array8E (hsz.trans cellsEsup)
  obtain ⟨fuel, hf⟩ := h
  obtain ⟨xs, n, _, _, _, hlen, hall⟩ := DataW.trod_struct Tryd.underlying23 hf
  match xs, hlen with
  | [y0, y1, y2, y3, y4, y5, y6, y7], _ =>
    have e2 : Tryd.prog.cellsOf 2 = 1 := by kernel_rfl
    have e4 : Tryd.prog.cellsOf 4 = 1 := by kernel_rfl
    have h0 := hall 0 _ rfl
    simp [Value.cells, e2] at h0
    obtain ⟨x0, q0, _, w0⟩ := DataW.trod_int Tryd.underlying2 h0
    have h1 := hall 1 _ rfl
    simp [Value.cells, e2] at h1
    obtain ⟨x1, q1, _, w1⟩ := DataW.trod_int Tryd.underlying2 h1
    have h2 := hall 2 _ rfl
    simp [Value.cells, e2] at h2
    obtain ⟨x2, q2, _, w2⟩ := DataW.trod_int Tryd.underlying2 h2
    have h3 := hall 3 _ rfl
    simp [Value.cells, e2] at h3
    obtain ⟨x3, q3, _, w3⟩ := DataW.trod_int Tryd.underlying2 h3
    have h4 := hall 4 _ rfl
    simp [Value.cells, e2] at h4
    obtain ⟨x4, q4, _, w4⟩ := DataW.trod_int Tryd.underlying2 h4
    have h5 := hall 5 _ rfl
    simp [Value.cells, e2] at h5
    obtain ⟨x5, q5, _, w5⟩ := DataW.trod_int Tryd.underlying2 h5
    have h6 := hall 6 _ rfl
    simp [Value.cells, e2] at h6
    obtain ⟨x6, q6, _, w6⟩ := DataW.trod_int Tryd.underlying2 h6
    have h7 := hall 7 _ rfl
    simp [Value.cells, e4] at h7
    obtain ⟨x7, q7, _⟩ := DataW.trod_bool Tryd.underlying4 h7
    simp at q0 q1 q2 q3 q4 q5 q6 q7
    subst q0 q1 q2 q3 q4 q5 q6 q7
    exact ⟨⟨x0, x1, x2, x3, x4, x5, x6, x7⟩, rfl⟩
end Go.Proofs.YtjmajjfknmjifaaDoor.Oct
