/- A file and its journal, opened over bytes. -/
import Derived.Test.YtifngegkijdbmaaJxr
import Derived.Test.YtifngegkijdbmaaJxe
import Derived.Test.YtifngegkijdbmaaJxb
import Derived.Test.YtifngegkijdbmaaJxa
namespace Go.Proofs.Ytifngegkijdbmaa.Oct
open Go.RowKit Go.Deep Go.WideShapes Go.ChangeShapes Go.ChangeAt

theorem open_r (w1 w : World) (hw : Below w1.heap.size w1 w) (a : Option Addr) (cap : Nat) (l : List Int) (hl : Lies w a l) (hlen : l.length ≤ 4194304) (p s : Nat) (hp : p % 512 = 0) (hs : s % 512 = 0) (hs2 : 1024 ≤ s) (hf : p + s ≤ l.length) :
    Calls Try.prog 9 #[.slice a l.length cap, .int .i64 p, .int .i64 s] w fun e w' => ∃ F J, e = .returned (.tuple #[.pointer (some ⟨F, 0, none⟩), .pointer (some ⟨J, 0, none⟩), .bool true]) ∧ Run w1 w' F J p (p + s) ⟨l, l, []⟩ 2000000 0 0 := by
  refine (open_j w a cap l hl hlen p s hp hs hs2 hf).mono ?_
  rintro e w' ⟨F, J, f, X, rfl, h1, h2, h3, h4, h5, h6⟩
  have := hw.size
  exact ⟨F, J, rfl, X, f, h1, h2, h3, fun i hi => Nat.le_trans this (h4 i hi), Nat.le_trans this h5, hw.trans (h6.mono this)⟩
end Go.Proofs.Ytifngegkijdbmaa.Oct
