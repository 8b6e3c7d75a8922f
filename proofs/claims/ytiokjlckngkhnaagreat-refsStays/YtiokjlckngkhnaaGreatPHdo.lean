/- A header that comes in. -/
import Derived.Test.YtiokjlckngkhnaaGreatPHdm
import Derived.Test.YtiokjlckngkhnaaGreatChecked
import Derived.Lib.SmallJoins
import Derived.ProofKit
import Derived.OpenShut
import Derived.Carry
namespace Go.Proofs.YtiokjlckngkhnaaGreat.Oct
open Go.RowKit Go.ChangeShapes Go.WideShapes Go.ChangeAt

theorem own : ownKnob Tryz.prog.godebug = none := by kernel_rfl
theorem laidOut : laidOutB Tryz.prog = true := by kernel_rfl

theorem array5 {α : Type} {cs : Array α} (h : cs.size = 5) : ∃ c0 c1 c2 c3 c4, cs = #[c0, c1, c2, c3, c4] := by
  obtain ⟨l⟩ := cs
  match l, h with
  | [c0, c1, c2, c3, c4], _ => exact ⟨c0, c1, c2, c3, c4, rfl⟩

theorem i64_wf {n : Int} (h : (Lit.int .i64 n).wf = true) : I64 n := by
  have : -9223372036854775808 ≤ n ∧ n ≤ 9223372036854775807 := by simpa [Lit.wf, IntKind.min, IntKind.max, IntKind.signed, IntKind.bits] using h
  exact this

theorem cellsHdr : Tryz.prog.cellsOf 25 = 5 := by kernel_rfl

set_option maxRecDepth 100000 in
theorem open_hdr {H : Type} {enc : TypeId × Value → H} {W : World} {base : Nat} {spare : Nat → Bool} {held : Bool} {r : Reach} {b0 : Nat} {v : Value} {d : DataW H} {p : List MemPlace}
    (hv : Value.okWide Tryz.prog W r b0 25 v) (h : DataW.Trod enc Tryz.prog W base spare held 25 v d p) :
    ∃ (b s o j : Int) (k : Bool), v = .agg #[.int .i64 b, .int .i64 s, .int .i64 o, .int .i64 j, .bool k] ∧ Hd.Ok ⟨b, s, o, j, k⟩ := by
  obtain ⟨cs, rfl, hsz⟩ := okWide_struct Tryz.underlying25 hv
  obtain ⟨c0, c1, c2, c3, c4, rfl⟩ := array5 (hsz.trans cellsHdr)
  obtain ⟨fuel, hf⟩ := h
  obtain ⟨xs, n, _, _, _, hlen, hall⟩ := DataW.trod_struct Tryz.underlying25 hf
  match xs, hlen with
  | [y0, y1, y2, y3, y4], _ =>
    have e3 : Tryz.prog.cellsOf 3 = 1 := by kernel_rfl
    have e2 : Tryz.prog.cellsOf 2 = 1 := by kernel_rfl
    have e4 : Tryz.prog.cellsOf 4 = 1 := by kernel_rfl
    have h0 := hall 0 _ rfl
    have h1 := hall 1 _ rfl
    have h2 := hall 2 _ rfl
    have h3 := hall 3 _ rfl
    have h4 := hall 4 _ rfl
    simp [Value.cells, e3] at h0
    simp [Value.cells, e2] at h1 h2 h3
    simp [Value.cells, e4] at h4
    obtain ⟨x0, q0, _, w0⟩ := DataW.trod_int Tryz.underlying3 h0
    obtain ⟨x1, q1, _, w1⟩ := DataW.trod_int Tryz.underlying2 h1
    obtain ⟨x2, q2, _, w2⟩ := DataW.trod_int Tryz.underlying2 h2
    obtain ⟨x3, q3, _, w3⟩ := DataW.trod_int Tryz.underlying2 h3
    obtain ⟨x4, q4, _⟩ := DataW.trod_bool Tryz.underlying4 h4
    simp at q0 q1 q2 q3 q4
    subst q0 q1 q2 q3 q4
    exact ⟨x0, x1, x2, x3, x4, rfl, ⟨i64_wf w0, i64_wf w1, i64_wf w2, i64_wf w3⟩⟩
end Go.Proofs.YtiokjlckngkhnaaGreat.Oct
