/- The journal writes: bytes are settled; records are to be done. -/
import Derived.Test.YtgmifbknmjdemaaGreatPJrg
namespace Go.Proofs.YtgmifbknmjdemaaGreat.Oct
open Go.RowKit Go.Deep

set_option maxHeartbeats 2000000 in
set_option maxRecDepth 100000 in
theorem settle_j (w : World) (J F p q : Nat) (nu : Int) (hJ : Jrn w J F p q nu) (X : Nat → Prop) (f : Fs) (A : A3) (k n : Nat) (h : Fl w X F f A k n) (hXJ : ¬ X J) (t : Nat) (a : Option Addr) (cap : Nat) (b : List Int) (hb : Lies w a b) (hx : b ≠ [] → ∀ x, a = some x → ¬ X x.block) (hp : t + b.length ≤ 4194304) (hn : n + b.length + 1 ≤ 900000) :
    Calls Tryz.prog 50 #[.pointer (some ⟨J, 0, none⟩), .int .i64 t, .slice a b.length cap] w fun e w' => e = .returned (.int .i64 (cod 2 k)) ∧ Ran w w' X F A k n [.wr t b, .fl] := by
  have HW := hide (write_fl w X F f A k n h (by omega) t a cap b hb hx hp)
  have HJ := hide hJ
  have HXJ := hide hXJ
  obtain ⟨c0, c1, c2, c3⟩ := hJ.cells
  clear h hJ hb hx hXJ
  go_enter Tryz.func50, Tryz.ntmps50
  go_wp2_with fail
  refine HW.out.mono ?_
  rintro e9 w1 ⟨rfl, hr1⟩
  by_cases hk : 1 ≤ k
  · rw [cod_ok hk]
    obtain ⟨X1, f1, h1, hx1, hc1⟩ := hr1
    have HJ1 := hide (HJ.out.chg hc1 HXJ.out)
    have HF1 := hide (flush_fl w1 X1 F f1 _ _ _ h1 (by simp [costs, AO.cost]; omega))
    have HM : Hid (∀ w2, Ran w1 w2 X1 F _ _ _ [.fl] → Ran w w2 X F A k n ([.wr t b] ++ [.fl])) := hide (fun w2 h2 => Ran.more h1 hx1 hc1 h2)
    clear c0 c1 c2 c3
    obtain ⟨c0, c1, c2, c3⟩ := HJ1.out.cells
    clear h1 hx1 hc1
    go_wp2_with fail
    refine HF1.out.mono ?_
    rintro e9 w2 ⟨rfl, hr2⟩
    have HR2 := hide (HM.out w2 hr2)
    clear hr2
    have e2 : cod 1 (k - [AO.wr t b].length) = cod 2 k := by
      unfold cod
      simp only [List.length_cons, List.length_nil]
      by_cases h2 : 2 ≤ k
      · rw [if_pos h2, if_pos (by omega)]
      · rw [if_neg h2, if_neg (by omega)]
    rw [e2]
    clear e2
    go_wp2_with fail
    go_ret
    exact ⟨rfl, HR2.out⟩
  · rw [cod_no hk]
    have HR2 := hide (hr1.stop (by simpa using hk) [.fl])
    clear hr1
    go_wp2_with fail
    go_ret
    refine ⟨?_, HR2.out⟩
    rw [cod_no (show ¬ 2 ≤ k by omega)]
    rfl
end Go.Proofs.YtgmifbknmjdemaaGreat.Oct
