/- One of the chain's sectors. -/
import Derived.Test.YtjpdfchdgphdoaaGreatDoorPMbjMbk
namespace Go.Proofs.YtjpdfchdgphdoaaGreatDoor.Oct
open Go.RowKit

/-- How a link ends. -/
def EndL (K : Nat → Prop) (R : Nat) (dv : Value) (r : Except Int (MS × M3)) (e : Ending) (w' : World) : Prop :=
  (∃ st' x vP' vH', r = .ok (st', x) ∧ e = .returned (.tuple #[.agg #[.int .i64 x.1, .int .i64 x.2.1, .int .i64 x.2.2], .int .i64 0]) ∧ Rdg w' K R dv vP' vH' st') ∨ (∃ c, r = .error c ∧ ¬ c = 0 ∧ e = .returned (.tuple #[.agg #[.int .i64 0, .int .i64 0, .int .i64 0], .int .i64 c]))

set_option maxHeartbeats 1000000 in
theorem linkf_any (x1 x2 x3 : Int) (w : World) :
    Calls Tryz.prog 82 #[.agg #[.int .i64 x1, .int .i64 x2, .int .i64 x3]] w fun e w' => e = .returned (.bool (x1 != 0)) ∧ Below w.heap.size w w' := by
  have HB := hide ((Below.refl w.heap.size w).alloc (Nat.le_refl _) (.cells #[.int .i64 x1, .int .i64 x2, .int .i64 x3] 128))
  go_enter Tryz.func82, Tryz.ntmps82
  go_wp2_with fail
  go_ret
  exact ⟨rfl, HB.out⟩

/-- Has one of them a type? -/
def anyT (L : List M3) : Bool := L.any (fun x => x.1 != 0)

theorem take_succM (L : List M3) (k : Nat) (hk : k < L.length) : L.take (k + 1) = L.take k ++ [L.getD k zm3] := by
  rw [List.take_succ_eq_append_getElem hk]
  simp [hk]

set_option maxHeartbeats 4000000 in
set_option maxRecDepth 100000 in
theorem indexM_any (w : World) (a : Option Addr) (cap : Nat) (L : List M3) (hL : LiesM w a L) (hn : L.length ≤ 1000000) :
    Calls Tryz.prog 102 #[.slice a L.length cap, .func (.func 82) #[] #[]] w fun e w' => (∃ i : Int, e = .returned (.int .i64 i) ∧ decide (0 ≤ i) = anyT L) ∧ Below w.heap.size w w' := by
  have HL := hide hL
  have HLk := fun (x1 x2 x3 : Int) u => hide (linkf_any x1 x2 x3 u)
  clear hL
  go_enter Tryz.func102, Tryz.ntmps102
  go_wp2_with fail
  go_loopw [8] (fun i wr => ∃ (k : Nat), k ≤ L.length ∧ i = .int .i64 (k : Int) ∧ anyT (L.take k) = false ∧ Below w.heap.size w wr) (fun i _ => L.length - (intOf i).toNat)
  case atStart => exact ⟨0, by omega, rfl, rfl, Below.refl _ _⟩
  case round =>
    obtain ⟨k, hk, rfl, hno, hbel⟩ := hrel
    have HB := hide hbel
    have HNo := hide hno
    clear hbel hno
    by_cases hlt : k < L.length
    · rcases HL.out with hE | ⟨b, off, rfl, hblt, hc⟩
      · rw [hE] at hlt; simp at hlt
      obtain ⟨q0, q1, q2⟩ := hc k hlt
      have r0 := (HB.out.cell (p := ⟨b, off + k * 3, none⟩) hblt).trans q0
      have r1 := (HB.out.cell (p := ⟨b, off + k * 3 + 1, none⟩) hblt).trans q1
      have r2 := (HB.out.cell (p := ⟨b, off + k * 3 + 2, none⟩) hblt).trans q2
      have hmem : L.getD k zm3 ∈ L := by
        have : L.getD k zm3 = L[k] := by simp [hlt]
        rw [this]
        exact List.getElem_mem _
      have HSt : Hid (anyT (L.take (k + 1)) = ((L.getD k zm3).1 != 0)) := hide (by
        have := HNo.out
        unfold anyT at *
        rw [take_succM L k hlt, List.any_append, this]
        simp)
      have HIn : Hid (((L.getD k zm3).1 != 0) = true → anyT L = true) := hide (fun e => List.any_eq_true.2 ⟨_, hmem, e⟩)
      clear hc q0 q1 q2 hmem
      generalize L.getD k zm3 = r at *
      obtain ⟨y1, y2, y3⟩ := r
      dsimp only at *
      go_wp2_with fail
      refine ((HLk y1 y2 y3 _).out).mono ?_
      rintro e9 w2 ⟨rfl, hb2⟩
      have HB2 := hide (HB.out.trans (hb2.mono HB.out.size))
      clear hb2
      obtain ⟨bb, hbb⟩ : ∃ bb, bb = (y1 != 0) := ⟨_, rfl⟩
      rw [← hbb] at HSt HIn ⊢
      clear hbb
      cases bb with
      | true =>
        have HY := hide (HIn.out rfl)
        go_wp2_with fail
        go_ret
        exact ⟨⟨_, rfl, by rw [HY.out]; simp⟩, HB2.out⟩
      | false =>
        go_wp2_with fail
        exact ⟨⟨k + 1, by omega, by congr 1 <;> omega, HSt.out, HB2.out⟩, by simp [intOf]; omega⟩
    · obtain rfl : k = L.length := by omega
      rw [List.take_length] at HNo
      go_wp2_with fail
      go_ret
      exact ⟨⟨-1, rfl, by rw [HNo.out]; decide⟩, HB.out⟩

theorem containsM_any (w : World) (a : Option Addr) (cap : Nat) (L : List M3) (hL : LiesM w a L) (hn : L.length ≤ 1000000) :
    Calls Tryz.prog 81 #[.slice a L.length cap, .func (.func 82) #[] #[]] w fun e w' => e = .returned (.bool (anyT L)) ∧ Below w.heap.size w w' := by
  have HI := hide (indexM_any w a cap L hL hn)
  clear hL
  go_enter Tryz.func81, Tryz.ntmps81
  go_wp2_with fail
  refine HI.out.mono ?_
  rintro e9 w2 ⟨⟨i, rfl, hi⟩, hb2⟩
  have HB := hide hb2
  have HI2 := hide hi
  clear hb2 hi
  go_wp2_with fail
  go_ret
  exact ⟨by rw [← HI2.out]; rfl, HB.out⟩
end Go.Proofs.YtjpdfchdgphdoaaGreatDoor.Oct
