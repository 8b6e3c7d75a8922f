/- The document's numbers in bytes; its reading of a sector with the counts. -/
import Derived.Test.YtbldkebolmellaaDoorFcd
import Derived.Test.YtbldkebolmellaaDoorRef
import Derived.Handy
namespace Go.Proofs.YtbldkebolmellaaDoor.Oct
open Go.RowKit

set_option maxHeartbeats 400000 in
theorem rint1 (a : Option Addr) (cap : Nat) (l : List Int) (p : Nat) (w : World) (h5 : l.length ≤ 1000000) (hb : Byts l) (hl : Lies w a l) (hp : p + 1 ≤ l.length) :
    Calls Tryd.prog 43 #[.slice a l.length cap, .int .i64 p, .int .i64 1] w fun e w' => e = .returned (.int .i64 (num l p 1)) ∧ w' = w := by
  have HN : Hid (Calls Tryd.prog 59 #[.slice a l.length cap, .int .i64 p, .int .i64 1] w fun e w' => e = .returned (.tuple #[.int .u64 (num l p 1), .bool true]) ∧ w' = w) := hide (by
    have := Num_any a cap l p 1 (by omega) (by omega) w (by unfold maxLen; omega) hb hl (by omega) (by omega)
    rw [thereB_yes (by omega) (by omega) (by omega), numAt_yes hp] at this
    exact this)
  have hn := num_lt l p hb 1
  have p4 : (256 : Int) ^ 1 = 256 := by decide
  rw [p4] at hn
  clear p4 hl hb
  generalize num l p 1 = v at *
  go_enter Tryd.func43, Tryd.ntmps43
  go_wp2_with fail
  refine HN.out.mono ?_
  rintro e9 w2 ⟨rfl, rfl⟩
  go_wp2_with fail
  go_ret
  exact ⟨rfl, rfl⟩

set_option maxHeartbeats 400000 in
theorem rint2 (a : Option Addr) (cap : Nat) (l : List Int) (p : Nat) (w : World) (h5 : l.length ≤ 1000000) (hb : Byts l) (hl : Lies w a l) (hp : p + 2 ≤ l.length) :
    Calls Tryd.prog 43 #[.slice a l.length cap, .int .i64 p, .int .i64 2] w fun e w' => e = .returned (.int .i64 (num l p 2)) ∧ w' = w := by
  have HN : Hid (Calls Tryd.prog 59 #[.slice a l.length cap, .int .i64 p, .int .i64 2] w fun e w' => e = .returned (.tuple #[.int .u64 (num l p 2), .bool true]) ∧ w' = w) := hide (by
    have := Num_any a cap l p 2 (by omega) (by omega) w (by unfold maxLen; omega) hb hl (by omega) (by omega)
    rw [thereB_yes (by omega) (by omega) (by omega), numAt_yes hp] at this
    exact this)
  have hn := num_lt l p hb 2
  have p4 : (256 : Int) ^ 2 = 65536 := by decide
  rw [p4] at hn
  clear p4 hl hb
  generalize num l p 2 = v at *
  go_enter Tryd.func43, Tryd.ntmps43
  go_wp2_with fail
  refine HN.out.mono ?_
  rintro e9 w2 ⟨rfl, rfl⟩
  go_wp2_with fail
  go_ret
  exact ⟨rfl, rfl⟩

set_option maxHeartbeats 400000 in
theorem rint4 (a : Option Addr) (cap : Nat) (l : List Int) (p : Nat) (w : World) (h5 : l.length ≤ 1000000) (hb : Byts l) (hl : Lies w a l) (hp : p + 4 ≤ l.length) :
    Calls Tryd.prog 43 #[.slice a l.length cap, .int .i64 p, .int .i64 4] w fun e w' => e = .returned (.int .i64 (num l p 4)) ∧ w' = w := by
  have HN : Hid (Calls Tryd.prog 59 #[.slice a l.length cap, .int .i64 p, .int .i64 4] w fun e w' => e = .returned (.tuple #[.int .u64 (num l p 4), .bool true]) ∧ w' = w) := hide (by
    have := Num_any a cap l p 4 (by omega) (by omega) w (by unfold maxLen; omega) hb hl (by omega) (by omega)
    rw [thereB_yes (by omega) (by omega) (by omega), numAt_yes hp] at this
    exact this)
  have hn := num_lt l p hb 4
  have p4 : (256 : Int) ^ 4 = 4294967296 := by decide
  rw [p4] at hn
  clear p4 hl hb
  generalize num l p 4 = v at *
  go_enter Tryd.func43, Tryd.ntmps43
  go_wp2_with fail
  refine HN.out.mono ?_
  rintro e9 w2 ⟨rfl, rfl⟩
  go_wp2_with fail
  go_ret
  exact ⟨rfl, rfl⟩

set_option maxHeartbeats 4000000 in
set_option maxRecDepth 100000 in
theorem rcounts_any (a : Option Addr) (cap : Nat) (l : List Int) (w : World) (hlen : l.length ≤ 1000000) (hb : Byts l) (hl : Lies w a l) :
    Calls Tryd.prog 26 #[.slice a l.length cap] w fun e w' => e = .returned (.tuple #[.int .i64 (parC l).1, .int .i64 (parC l).2.1, .int .i64 (parC l).2.2]) ∧ w' = w := by
  by_cases h5 : l.length = 512
  · have C := fun (p : Nat) (hp : p + 4 ≤ l.length) => hide (rint4 a cap l p w hlen hb hl hp)
    rw [h5] at C ⊢
    have C0 := C 0 (by omega)
    have C1 := C 484 (by omega)
    have C2 := C 508 (by omega)
    have C3 := C 488 (by omega)
    have C4 := C 492 (by omega)
    push_cast at C0 C1 C2 C3 C4
    have HE := hide (show parC l = if num l 0 4 = 1096897106 ∧ num l 484 4 = 1631679090 ∧ num l 508 4 = 2857697280 then (num l 488 4, num l 492 4, 0) else (0, 0, 10) from if_pos h5)
    obtain ⟨pc, hpc⟩ : ∃ pc, pc = parC l := ⟨_, rfl⟩
    rw [← hpc] at HE ⊢
    clear hpc C hlen hb hl h5
    generalize num l 0 4 = v0 at *
    generalize num l 484 4 = v1 at *
    generalize num l 508 4 = v2 at *
    generalize num l 488 4 = f at *
    generalize num l 492 4 = x at *
    go_enter Tryd.func26, Tryd.ntmps26
    go_wp2_with fail
    refine C0.out.mono ?_
    rintro e9 w2 ⟨rfl, h2⟩
    rw [h2]
    clear h2
    by_cases k0 : v0 = 1096897106
    · have q0 : (v0 != 1096897106) = false := by simpa using k0
      have K0 := hide k0
      clear k0
      go_wp2_with fail
      refine C1.out.mono ?_
      rintro e9 w2 ⟨rfl, h2⟩
      rw [h2]
      clear h2
      by_cases k1 : v1 = 1631679090
      · have q1 : (v1 != 1631679090) = false := by simpa using k1
        have K1 := hide k1
        clear k1
        go_wp2_with fail
        refine C2.out.mono ?_
        rintro e9 w2 ⟨rfl, h2⟩
        rw [h2]
        clear h2
        by_cases k2 : v2 = 2857697280
        · have q2 : (v2 != 2857697280) = false := by simpa using k2
          have HP := hide (show pc = (f, x, 0) by rw [HE.out, if_pos ⟨K0.out, K1.out, k2⟩])
          clear k2
          go_wp2_with fail
          refine C3.out.mono ?_
          rintro e9 w2 ⟨rfl, h2⟩
          rw [h2]
          clear h2
          go_wp2_with fail
          refine C4.out.mono ?_
          rintro e9 w2 ⟨rfl, h2⟩
          rw [h2]
          clear h2
          go_wp2_with fail
          go_returns
          exact ⟨by rw [HP.out]; rfl, rfl⟩
        · have q2 : (v2 != 2857697280) = true := by simpa using k2
          have HP := hide (show pc = (0, 0, 10) by rw [HE.out, if_neg (fun c => k2 c.2.2)])
          clear k2
          go_wp2_with fail
          go_returns
          exact ⟨by rw [HP.out]; rfl, rfl⟩
      · have q1 : (v1 != 1631679090) = true := by simpa using k1
        have HP := hide (show pc = (0, 0, 10) by rw [HE.out, if_neg (fun c => k1 c.2.1)])
        clear k1
        go_wp2_with fail
        go_returns
        exact ⟨by rw [HP.out]; rfl, rfl⟩
    · have q0 : (v0 != 1096897106) = true := by simpa using k0
      have HP := hide (show pc = (0, 0, 10) by rw [HE.out, if_neg (fun c => k0 c.1)])
      clear k0
      go_wp2_with fail
      go_returns
      exact ⟨by rw [HP.out]; rfl, rfl⟩
  · have e0 : parC l = (0, 0, 4) := by unfold parC; rw [if_neg h5]
    rw [e0]
    obtain ⟨n, hn⟩ : ∃ n, n = l.length := ⟨_, rfl⟩
    rw [← hn] at h5 hlen ⊢
    clear hn hl hb e0
    go_enter Tryd.func26, Tryd.ntmps26
    go_wp2_with fail
    go_returns
    exact ⟨rfl, rfl⟩
end Go.Proofs.YtbldkebolmellaaDoor.Oct
