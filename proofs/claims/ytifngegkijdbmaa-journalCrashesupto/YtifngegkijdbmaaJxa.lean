/- A journal over bytes; the document's records of those that came in. -/
import Derived.Test.YtifngegkijdbmaaJxq
import Derived.Test.YtifngegkijdbmaaJce
namespace Go.Proofs.Ytifngegkijdbmaa.Oct
open Go.RowKit Go.Deep Go.WideShapes Go.ChangeShapes Go.ChangeAt

set_option maxRecDepth 100000 in
set_option maxHeartbeats 4000000 in
theorem open_j (w : World) (a : Option Addr) (cap : Nat) (l : List Int) (hl : Lies w a l) (hlen : l.length ≤ 4194304) (p s : Nat) (hp : p % 512 = 0) (hs : s % 512 = 0) (hs2 : 1024 ≤ s) (hf : p + s ≤ l.length) :
    Calls Try.prog 9 #[.slice a l.length cap, .int .i64 p, .int .i64 s] w fun e w' => ∃ F J f X, e = .returned (.tuple #[.pointer (some ⟨F, 0, none⟩), .pointer (some ⟨J, 0, none⟩), .bool true]) ∧
      Fl w' X F f ⟨l, l, []⟩ 2000000 0 ∧ Jrn w' J F p (p + s : Nat) 0 ∧ ¬ X J ∧ (∀ i, X i → w.heap.size ≤ i) ∧ w.heap.size ≤ J ∧ Below w.heap.size w w' := by
  have HN1 := hide (new_fl w a cap l hl hlen)
  clear hl
  go_enter Try.func9, Try.ntmps9
  go_wp2_with fail
  refine HN1.out.mono ?_
  rintro e9 w2 ⟨F, f, rfl, hf2, hf0, hb2⟩
  have HF2 := hide hf2
  have HB2 := hide hb2
  have hs12 := hb2.size
  have HJ := hide (jnew_fl w2 _ F f _ _ _ hf2 p s hp hs hs2 hf)
  clear hf2 hb2 hf0
  go_wp2_with fail
  refine HJ.out.mono ?_
  rintro e9 w3 ⟨J, rfl, hJ2, hJ3, hb3⟩
  have HB3 := hide (HB2.out.trans (hb3.mono HB2.out.size))
  have HF3 := hide (HF2.out.below hb3)
  have HJ3 := hide hJ3
  clear hJ3 hb3
  go_wp2_with fail
  go_ret3
  exact ⟨F, J, f, _, rfl, HF3.out, HJ3.out, by omega, fun i hi => hi.1, by omega, HB3.out⟩
end Go.Proofs.Ytifngegkijdbmaa.Oct
