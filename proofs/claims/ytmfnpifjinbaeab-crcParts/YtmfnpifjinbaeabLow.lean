/- What the calls Same of the reference, Pad and the statements' own example answer. -/
import Derived.Test.YtmfnpifjinbaeabRd
namespace Go.Proofs.Ytmfnpifjinbaeab.Oct
open Go.RowKit

theorem info5 : (Try.prog.info? 5).map (fun i => (i.zero, i.size, i.bytes)) = some (some (.int .u8 0), 1, 1) := by kernel_rfl
theorem size5 : (Try.prog.info? 5).map (·.size) = some 1 := by kernel_rfl

/-- Two lists of bytes as the same text? -/
theorem Same_any (a a' : Option Addr) (cap cap' : Nat) (l l' : List Int) (w : World) (hl : Lies w a l) (hl' : Lies w a' l') (hb : Byts l) (hb' : Byts l') :
    Calls Try.prog 22 #[.slice a l.length cap, .slice a' l'.length cap'] w fun e w' => e = .returned (.bool (decide (l = l'))) ∧ w' = w := by
  have h1 := run_text (P := Try.prog) (dst := 9) Try.underlying22 Try.underlying5 Try.underlying9 w a l cap hl
  have h2 := run_text (P := Try.prog) (dst := 9) Try.underlying22 Try.underlying5 Try.underlying9 w a' l' cap' hl'
  go_enter Try.func22, Try.ntmps22
  go_wp2
  go_ret
  refine ⟨?_, rfl⟩
  rw [← beq_text hb hb']
  rfl

/-- make of so many bytes. -/
theorem run_make_bytes (w : World) (n : Nat) (hn : n ≤ 140737488355328) :
    (Instr.makeSlice 22 (.int .i64 (n : Int)) (.int .i64 (n : Int))).run Try.prog w = .ok (.slice (some ⟨w.heap.size, 0, none⟩) n n) (w.alloc (.cells (madeCells #[.int .u8 0] n) 5)) := by
  obtain ⟨i0, hi, hz0, hz1, hz2⟩ := info_parts info5
  have h := run_make (P := Try.prog) w 22 5 i0 (.int .u8 0) Try.underlying22 hi hz0 .i64 .i64 (n : Int) (n : Int) (by omega) (Int.le_refl _) (by rw [hz2]; omega) (by omega)
  simpa [hz1, Value.cells] using h

/-- How many noughts Pad lays. -/
def lack (len : Nat) (size : Int) : Nat :=
  if size < 2 then 0 else if (len : Int) % size = 0 then 0 else if 2147483647 - (len : Int) < size - (len : Int) % size then 0 else (size - (len : Int) % size).toNat

set_option maxHeartbeats 400000 in
theorem lacking_any (len : Nat) (size : Int) (w : World) (hlen : len ≤ 1000000) (hs : size ≤ 9223372036854775807) :
    Calls Try.prog 30 #[.int .i64 len, .int .i64 size] w fun e w' => e = .returned (.int .i64 (lack len size)) ∧ w' = w := by
  by_cases h1 : size < 2
  · have e : lack len size = 0 := by simp [lack, h1]
    rw [e]; clear e
    go_enter Try.func30, Try.ntmps30
    go_wp2
    go_ret
    exact ⟨rfl, rfl⟩
  · have hm0 : 0 ≤ (len : Int) % size := Int.emod_nonneg _ (by omega)
    have hm1 : (len : Int) % size < size := Int.emod_lt_of_pos _ (by omega)
    by_cases h2 : (len : Int) % size = 0
    · have e : lack len size = 0 := by simp [lack, h2]
      have hb : (((len : Int) % size) == 0) = true := by simp [h2]
      rw [e]; clear e
      have H : Hid ((len : Int) % size = 0) := h2
      clear h2
      go_enter Try.func30, Try.ntmps30
      go_wp2
      go_ret
      exact ⟨rfl, rfl⟩
    · have hb : (((len : Int) % size) == 0) = false := by simp [h2]
      by_cases h3 : 2147483647 - (len : Int) < size - (len : Int) % size
      · have e : lack len size = 0 := by simp [lack, h3]
        rw [e]; clear e
        go_enter Try.func30, Try.ntmps30
        go_wp2
        go_ret
        exact ⟨rfl, rfl⟩
      · have e : (lack len size : Int) = size - (len : Int) % size := by
          simp only [lack, if_neg h1, if_neg h2, if_neg h3]
          omega
        rw [e]; clear e
        go_enter Try.func30, Try.ntmps30
        go_wp2
        go_ret
        exact ⟨rfl, rfl⟩
theorem lack_le (len : Nat) (size : Int) (hlen : len ≤ 1000000) : lack len size ≤ 2147483647 := by
  unfold lack
  split
  · omega
  · split
    · omega
    · split <;> omega

/-- Bytes with noughts behind. -/
def padL (l : List Int) (size : Int) : List Int := l ++ List.replicate (lack l.length size) 0

set_option maxHeartbeats 400000 in
theorem Pad_any (a : Option Addr) (cap : Nat) (l : List Int) (size : Int) (w : World) (hlen : l.length ≤ 1000000) (hs : size ≤ 9223372036854775807) (hl : Lies w a l) :
    Calls Try.prog 23 #[.slice a l.length cap, .int .i64 size] w fun e w' => ∃ v, e = .returned v ∧ Own w' w.heap.size v (padL l size) ∧ Below w.heap.size w w' := by
  have hle := lack_le l.length size hlen
  have hlk := fun w => lacking_any l.length size w hlen hs
  obtain ⟨m, hm⟩ : ∃ m, m = l.length + lack l.length size := ⟨_, rfl⟩
  have hmk := run_make_bytes w m (by omega)
  obtain ⟨w1, hrun, hown, hgr⟩ := run_copy_lies (P := Try.prog) (dT := 22) (sT := 22) (ty := 3) Try.underlying22 size5 _ _ w.heap.size 0 m m m m cap (some ⟨w.heap.size, 0, none⟩) a l
    (List.replicate m 0) (Own.made w m (by unfold maxLen; omega)) (by simp) (hl.alloc _) (fun _ => rfl) (by omega) (by simp; omega)
  have hcast : (l.length : Int) + (lack l.length size : Int) = (m : Int) := by omega
  have HM : Hid (m = l.length + lack l.length size) := hm
  have HB : Hid (Below w.heap.size w w1) := by
    have := (Below.refl w.heap.size w).alloc (Nat.le_refl _) (.cells (madeCells #[.int .u8 0] m) 5)
    exact this.grown hgr (by simp) (by intro k hk; simp at hk; omega)
  have HO : Hid (Own w1 w.heap.size (.slice (some ⟨w.heap.size, 0, none⟩) m m) (over (List.replicate m 0) 0 l)) := hown
  clear hm hown hgr hl
  go_enter Try.func23, Try.ntmps23
  go_wp2_with (go_at_call 30; refine (hlk _).mono ?_; rintro e w' ⟨rfl, rfl⟩)
  go_ret
  have e : over (List.replicate m 0) 0 l = padL l size := by
    have := HM.out
    simp [over, padL, this]
  exact ⟨.slice (some ⟨_, 0, none⟩) m m, rfl, e ▸ HO.out, HB.out⟩

theorem Byts.pad {l : List Int} (h : Byts l) (size : Int) : Byts (padL l size) := h.append (Byts.zeros _)
theorem lies_lit (w : World) (cs : List Int) : Lies (w.alloc (.cells (cs.map (Value.int .u8)).toArray 5)) (some ⟨w.heap.size, 0, none⟩) cs := by
  refine Lies.mk fun k hk => ?_
  simp [hk]

theorem low_b1 : Byts [1, 2, 0, 0, 9] := by intro k; match k with | 0 => simp | 1 => simp | 2 => simp | 3 => simp | 4 => simp | k + 5 => simp
theorem low_b2 : Byts [1, 2, 3] := by intro k; match k with | 0 => simp | 1 => simp | 2 => simp | k + 3 => simp
theorem low_b3 : Byts [1, 2, 3, 0] := by intro k; match k with | 0 => simp | 1 => simp | 2 => simp | 3 => simp | k + 4 => simp

theorem low_u0 (w : World) (H : Nat) (hH : w.heap.size = H) : Calls Try.prog 13 #[.slice (some ⟨H, 0, none⟩) 5 5, .int .i64 0]
    (w.alloc (.cells #[.int .u8 1, .int .u8 2, .int .u8 0, .int .u8 0, .int .u8 9] 5)) fun e w' =>
      e = .returned (.tuple #[.int .u32 513, .bool true]) ∧ w' = (w.alloc (.cells #[.int .u8 1, .int .u8 2, .int .u8 0, .int .u8 0, .int .u8 9] 5)) := by
  subst hH
  exact U32_any _ 5 [1, 2, 0, 0, 9] 0 _ (by unfold maxLen; decide) low_b1 (lies_lit w [1, 2, 0, 0, 9]) (by omega) (by omega)

theorem low_u2 (w : World) (H : Nat) (hH : w.heap.size = H) : Calls Try.prog 13 #[.slice (some ⟨H, 0, none⟩) 5 5, .int .i64 2]
    (w.alloc (.cells #[.int .u8 1, .int .u8 2, .int .u8 0, .int .u8 0, .int .u8 9] 5)) fun e w' =>
      e = .returned (.tuple #[.int .u32 0, .bool false]) ∧ w' = (w.alloc (.cells #[.int .u8 1, .int .u8 2, .int .u8 0, .int .u8 0, .int .u8 9] 5)) := by
  subst hH
  exact U32_any _ 5 [1, 2, 0, 0, 9] 2 _ (by unfold maxLen; decide) low_b1 (lies_lit w [1, 2, 0, 0, 9]) (by omega) (by omega)

theorem low_pad (w : World) (H : Nat) (hH : w.heap.size = H) : Calls Try.prog 23 #[.slice (some ⟨H, 0, none⟩) 3 3, .int .i64 4]
    (w.alloc (.cells #[.int .u8 1, .int .u8 2, .int .u8 3] 5)) fun e w' =>
      ∃ a cap, e = .returned (.slice a 4 cap) ∧ Lies w' a [1, 2, 3, 0] ∧ Below w.heap.size w w' := by
  subst hH
  refine (Pad_any (some ⟨w.heap.size, 0, none⟩) 3 [1, 2, 3] 4 _ (by decide) (by omega) (lies_lit w [1, 2, 3])).mono ?_
  rintro e w' ⟨v, rfl, ho, hb⟩
  have e : padL [1, 2, 3] 4 = [1, 2, 3, 0] := by decide
  rw [e] at ho
  obtain ⟨a, cap, rfl, hl, _⟩ := ho.form
  exact ⟨a, cap, rfl, hl, ((Below.refl _ _).alloc (Nat.le_refl _) _).trans (hb.mono (by simp))⟩

theorem low_same (w : World) (a : Option Addr) (cap : Nat) (h : Lies w a [1, 2, 3, 0]) (H : Nat) (hH : w.heap.size = H) : Calls Try.prog 22 #[.slice a 4 cap, .slice (some ⟨H, 0, none⟩) 4 4]
    (w.alloc (.cells #[.int .u8 1, .int .u8 2, .int .u8 3, .int .u8 0] 5)) fun e w' => e = .returned (.bool true) ∧ w' = (w.alloc (.cells #[.int .u8 1, .int .u8 2, .int .u8 3, .int .u8 0] 5)) := by
  subst hH
  have := Same_any a (some ⟨w.heap.size, 0, none⟩) cap 4 [1, 2, 3, 0] [1, 2, 3, 0] _ (h.alloc (.cells #[.int .u8 1, .int .u8 2, .int .u8 3, .int .u8 0] 5)) (lies_lit w [1, 2, 3, 0]) low_b3 low_b3
  simpa using this

set_option maxHeartbeats 1000000 in
theorem low_any (w : World) : Calls Try.prog 9 #[] w fun e w' => e = .returned (.bool true) ∧ Below w.heap.size w w' := by
  go_enter Try.func9, Try.ntmps9
  go_wp2_with fail
  refine (low_u0 _ _ (by simp)).mono ?_
  rintro e w1 ⟨rfl, rfl⟩
  go_wp2_with fail
  refine (low_u2 _ _ (by simp)).mono ?_
  rintro e w1 ⟨rfl, rfl⟩
  go_wp2_with fail
  refine (low_pad _ _ (by simp)).mono ?_
  rintro e w1 ⟨a, cap, rfl, hl, hb⟩
  have HB : Hid (Below w.heap.size w w1) := (((Below.refl _ _).alloc (Nat.le_refl _) _).alloc (by simp) _).trans (hb.mono (by simp; omega))
  clear hb
  go_wp2_with fail
  refine (low_same _ a cap hl _ (by simp)).mono ?_
  rintro e w2 ⟨rfl, rfl⟩
  go_wp2_with fail
  go_ret
  exact ⟨rfl, HB.out.alloc HB.out.size _⟩
end Go.Proofs.Ytmfnpifjinbaeab.Oct
