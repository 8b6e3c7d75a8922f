/- The sector with the counts: ParseCounts. -/
import Derived.Test.YtbldkebolmellaaDoorFcb
import Derived.Test.YtbldkebolmellaaDoorRd
namespace Go.Proofs.YtbldkebolmellaaDoor.Oct
open Go.RowKit

theorem num32_lt (l : List Int) (p : Nat) (hb : Byts l) : 0 ≤ num l p 4 ∧ num l p 4 ≤ 4294967295 := by
  have := num_lt l p hb 4
  simp at this
  omega

set_option maxHeartbeats 1000000 in
theorem get16_any (a : Option Addr) (cap : Nat) (l : List Int) (p : Nat) (w : World) (hlen : l.length ≤ maxLen) (hb : Byts l) (hl : Lies w a l) (hp : p + 2 ≤ l.length) :
    Calls Tryd.prog 37 #[.slice a l.length cap, .int .i64 (p : Int)] w fun e w' => e = .returned (.int .i64 (num l p 2)) ∧ w' = w := by
  unfold maxLen at hlen
  have h := U16_any a cap l (p : Int) w (by unfold maxLen; omega) hb hl (by omega) (by omega)
  rw [numAt_yes hp, thereB_yes (by omega) (by omega) (by omega)] at h
  have hn := num_lt l p hb 2
  simp at hn
  have hw : IntKind.i64.wrap (num l p 2) = num l p 2 := by rw [IntKind.wrap_i64]; omega
  have HU := hide h
  obtain ⟨n, hnn⟩ : ∃ n, n = l.length := ⟨_, rfl⟩
  rw [← hnn] at HU ⊢
  clear h hl hb hlen hp hnn
  generalize num l p 2 = v at *
  go_enter Tryd.func37, Tryd.ntmps37
  go_wp2_with fail
  refine HU.out.mono ?_
  rintro e9 w9 ⟨rfl, h9⟩
  rw [h9]
  clear h9
  go_wp2_with fail
  go_ret
  exact ⟨by go_num, rfl⟩

set_option maxHeartbeats 1000000 in
theorem get32_any (a : Option Addr) (cap : Nat) (l : List Int) (p : Nat) (w : World) (hlen : l.length ≤ maxLen) (hb : Byts l) (hl : Lies w a l) (hp : p + 4 ≤ l.length) :
    Calls Tryd.prog 39 #[.slice a l.length cap, .int .i64 (p : Int)] w fun e w' => e = .returned (.int .i64 (num l p 4)) ∧ w' = w := by
  unfold maxLen at hlen
  have h := U32_any a cap l (p : Int) w (by unfold maxLen; omega) hb hl (by omega) (by omega)
  rw [numAt_yes hp, thereB_yes (by omega) (by omega) (by omega)] at h
  have hn := num_lt l p hb 4
  simp at hn
  have hw : IntKind.i64.wrap (num l p 4) = num l p 4 := by rw [IntKind.wrap_i64]; omega
  have HU := hide h
  obtain ⟨n, hnn⟩ : ∃ n, n = l.length := ⟨_, rfl⟩
  rw [← hnn] at HU ⊢
  clear h hl hb hlen hp hnn
  generalize num l p 4 = v at *
  go_enter Tryd.func39, Tryd.ntmps39
  go_wp2_with fail
  refine HU.out.mono ?_
  rintro e9 w9 ⟨rfl, h9⟩
  rw [h9]
  clear h9
  go_wp2_with fail
  go_ret
  exact ⟨by go_num, rfl⟩

/-- What ParseCounts answers: an error, the two counts. -/
def parC (s : List Int) : Int × Int × Int :=
  if s.length = 512 then (if num s 0 4 = 1096897106 ∧ num s 484 4 = 1631679090 ∧ num s 508 4 = 2857697280 then (num s 488 4, num s 492 4, 0) else (0, 0, 10)) else (0, 0, 4)
end Go.Proofs.YtbldkebolmellaaDoor.Oct
