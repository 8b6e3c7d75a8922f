/- What PartsWindows is given, opened. -/
import Derived.Test.YtjpdfchdgphdoaaGreatDoorPOpen
namespace Go.Proofs.YtjpdfchdgphdoaaGreatDoor.Oct
open Go.RowKit Go.ChangeShapes Go.WideShapes Go.ChangeAt

theorem cellsWc : Tryz.prog.cellsOf 26 = 5 := by kernel_rfl
theorem cellsWb : Tryz.prog.cellsOf 22 = 1 := by kernel_rfl
theorem cellsWe : Tryz.prog.cellsOf 24 = 2 := by kernel_rfl
theorem cellsWi : Tryz.prog.cellsOf 2 = 1 := by kernel_rfl

theorem arr5w {cs : Array Value} (h : cs.size = 5) : ∃ c0 c1 c2 c3 c4, cs = #[c0, c1, c2, c3, c4] := by
  obtain ⟨l⟩ := cs
  match l, h with
  | [c0, c1, c2, c3, c4], _ => exact ⟨c0, c1, c2, c3, c4, rfl⟩

set_option maxRecDepth 100000 in
theorem open_win {H : Type} {enc : TypeId × Value → H} {W : World} {base : Nat} {v : Value} {d : DataW H} {p : List MemPlace}
    (hv : Value.okWide Tryz.prog W .any base 26 v) (h : DataW.Trod enc Tryz.prog W 0 (fun _ => true) true 26 v d p) :
    ∃ (a : Option Addr) (cap : Nat) (l : List Int) (x y t n : Int), v = .agg #[.slice a l.length cap, .int .i64 x, .int .i64 y, .int .i64 t, .int .i64 n] ∧ l.length ≤ maxLen ∧ Byts l ∧ Sl W a cap l ∧ (-9223372036854775808 ≤ x ∧ x ≤ 9223372036854775807) ∧ (-9223372036854775808 ≤ y ∧ y ≤ 9223372036854775807) ∧ (-9223372036854775808 ≤ t ∧ t ≤ 9223372036854775807) ∧ (-9223372036854775808 ≤ n ∧ n ≤ 9223372036854775807) := by
  obtain ⟨cs, rfl, hsz⟩ := okWide_struct Tryz.underlying26 hv
  obtain ⟨c0, c1, c2, c3, c4, rfl⟩ := arr5w (hsz.trans cellsWc)
  obtain ⟨fuel, hf⟩ := h
  obtain ⟨xs, n, _, hx, _, hlen, hall⟩ := DataW.trod_struct Tryz.underlying26 hf
  match xs, hlen with
  | [y0, y1, y2, y3], _ =>
    have h0 := hall 0 _ rfl
    have h1 := hall 1 _ rfl
    have h2 := hall 2 _ rfl
    have h3 := hall 3 _ rfl
    simp [Value.cells, cellsWb, cellsWe, cellsWi] at h0 h1 h2 h3
    obtain ⟨ys, n2, _, _, _, hlen2, hall2⟩ := DataW.trod_struct Tryz.underlying24 h1
    match ys, hlen2 with
    | [z0, z1], _ =>
      have g0 := hall2 0 _ rfl
      have g1 := hall2 1 _ rfl
      simp [cellsWi] at g0 g1
      obtain ⟨a, cap, l, q0, hl, hb, _, hs⟩ := open_bytes_trod h0
      obtain ⟨x1, q1, _, w1⟩ := DataW.trod_int Tryz.underlying2 g0
      obtain ⟨x2, q2, _, w2⟩ := DataW.trod_int Tryz.underlying2 g1
      obtain ⟨x3, q3, _, w3⟩ := DataW.trod_int Tryz.underlying2 h2
      obtain ⟨x4, q4, _, w4⟩ := DataW.trod_int Tryz.underlying2 h3
      simp at q1 q2 q3 q4
      subst q0 q1 q2 q3 q4
      exact ⟨a, cap, l, x1, x2, x3, x4, rfl, hl, hb, hs, wf_i64 w1, wf_i64 w2, wf_i64 w3, wf_i64 w4⟩
end Go.Proofs.YtjpdfchdgphdoaaGreatDoor.Oct
