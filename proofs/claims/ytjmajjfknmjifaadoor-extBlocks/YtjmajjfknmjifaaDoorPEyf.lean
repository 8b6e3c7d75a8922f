/- Maps: how many bits aren't set, a map that is made; are all bits from one on set? -/
import Derived.Test.YtjmajjfknmjifaaDoorPEye
import Derived.Test.YtjmajjfknmjifaaDoorPLowLst
namespace Go.Proofs.YtjmajjfknmjifaaDoor.Oct
open Go.RowKit

set_option maxHeartbeats 4000000 in
set_option maxRecDepth 100000 in
theorem count_any (a : Option Addr) (cap : Nat) (B : List Int) (n : Int) (w : World) (hlen : B.length ≤ 1000000) (hl : Lies w a B) (hb : Byts B) :
    Calls Tryd.prog 28 #[.slice a B.length cap, .int .i64 n] w fun e w' => e = .returned (.int .i64 (freeB B (min n (8 * (B.length : Int))).toNat)) ∧ w' = w := by
  have HBi := fun u => hide (mbits_any a B.length cap u (by omega))
  have HHa := fun (i : Int) (h : 0 ≤ i ∧ i ≤ 8000000) => hide (has_any a cap B i w hlen hl hb (by omega))
  obtain ⟨M, hM⟩ : ∃ M, min n (8 * (B.length : Int)) = M := ⟨_, rfl⟩
  have HMb := hide (show M ≤ 8000000 by omega)
  rw [hM]
  obtain ⟨q, hq⟩ : ∃ q, q = B.length := ⟨_, rfl⟩
  rw [← hq] at HBi HHa hM ⊢
  clear hlen hl hb hq
  go_enter Tryd.func28, Tryd.ntmps28
  go_wp2_with fail
  refine (HBi _).out.mono ?_
  rintro e9 w2 ⟨rfl, h2⟩
  rw [h2]
  clear h2
  go_wp2_with fail
  go_loopw [5, 11] (fun f i wr => ∃ k : Nat, (k : Int) ≤ max M 0 ∧ i = .int .i64 (k : Int) ∧ f = .int .i64 (freeB B k) ∧ wr = w) (fun _ i _ => M.toNat - (intOf i).toNat)
  case atStart => exact ⟨0, by omega, rfl, rfl, rfl⟩
  case round =>
    obtain ⟨k, hk, rfl, rfl, hw⟩ := hrel
    rw [hw]
    clear hw
    by_cases hlt : (k : Int) < M
    · have HHk := HHa (k : Int) (by have := HMb.out; omega)
      have q1 : IntKind.i64.wrap ((k : Int) + 1) = (k : Int) + 1 := by rw [IntKind.wrap_i64]; have := HMb.out; omega
      have hf := freeB_in B k
      have q2 : IntKind.i64.wrap (freeB B k + 1) = freeB B k + 1 := by rw [IntKind.wrap_i64]; have := HMb.out; omega
      have HF := hide (show freeB B (k + 1) = freeB B k + if hasB B (k : Int) = true then 0 else 1 from rfl)
      have HJ := hide hlt
      obtain ⟨f, hfe⟩ : ∃ f, f = freeB B k := ⟨_, rfl⟩
      rw [← hfe] at q2 HF ⊢
      obtain ⟨h, hh⟩ : ∃ h, h = hasB B (k : Int) := ⟨_, rfl⟩
      rw [← hh] at HHk HF
      clear hh hfe hf hk
      go_wp2_with fail
      refine HHk.out.mono ?_
      rintro e9 w3 ⟨rfl, h3⟩
      rw [h3]
      clear h3
      cases h
      · go_wp2_with fail
        go_roundw
        case rel => exact ⟨k + 1, by have := HJ.out; omega, by push_cast; rfl, by rw [HF.out]; rfl, by first | rfl | trivial⟩
        case measure => have := HJ.out; simp [intOf]; omega
      · go_wp2_with fail
        go_roundw
        case rel => exact ⟨k + 1, by have := HJ.out; omega, by push_cast; rfl, by rw [HF.out]; simp, by first | rfl | trivial⟩
        case measure => have := HJ.out; simp [intOf]; omega
    · have hke : k = M.toNat := by omega
      have HK := hide hke
      clear hke hk
      go_wp2_with fail
      go_ret
      exact ⟨by rw [← HK.out]; rfl, rfl⟩

/-- A map in which all but the places from one on, up to another, are set. -/
def fbL (x y : Int) : Nat → List Int
  | 0 => List.replicate 1024 0
  | n + 1 => setB (fbL x y n) (n : Int) (decide ((n : Int) < x) || decide (y ≤ (n : Int)))

theorem fbL_len (x y : Int) : ∀ n, (fbL x y n).length = 1024
  | 0 => List.length_replicate
  | n + 1 => by rw [fbL, setB_len, fbL_len x y n]

theorem fbL_byts (x y : Int) : ∀ n, Byts (fbL x y n)
  | 0 => Byts.zeros _
  | n + 1 => setB_byts (fbL_byts x y n) _ _

set_option maxHeartbeats 4000000 in
set_option maxRecDepth 100000 in
theorem fb_any (x y : Int) (w : World) :
    Calls Tryd.prog 68 #[.int .i64 x, .int .i64 y] w fun e w' => (∃ g c, e = .returned (.slice (some ⟨g, 0, none⟩) 1024 c) ∧ Own w' w.heap.size (.slice (some ⟨g, 0, none⟩) 1024 c) (fbL x y 8192)) ∧ Below w.heap.size w w' := by
  have hmk : (Instr.makeSlice 63 (.int .i64 1024) (.int .i64 1024)).run Tryd.prog w = .ok (.slice (some ⟨w.heap.size, 0, none⟩) 1024 1024) (w.alloc (.cells (madeCells #[.int .u8 0] 1024) 5)) := by
    obtain ⟨i0, hi, hz0, hz1, hz2⟩ := info_parts info5
    have h := run_make (P := Tryd.prog) w 63 5 i0 (.int .u8 0) Tryd.underlying63 hi hz0 .i64 .i64 1024 1024 (by omega) (Int.le_refl _) (by rw [hz2]; omega) (by omega)
    simpa [hz1, Value.cells] using h
  obtain ⟨w1, hw1⟩ : ∃ w1, w1 = w.alloc (.cells (madeCells #[.int .u8 0] 1024) 5) := ⟨_, rfl⟩
  have HO1 := hide (show Own w1 w.heap.size (.slice (some ⟨w.heap.size, 0, none⟩) 1024 1024) (List.replicate 1024 0) by rw [hw1]; exact Own.made w 1024 (by unfold maxLen; omega))
  have HB1 := hide (show Below w.heap.size w w1 by rw [hw1]; exact (Below.refl _ _).alloc (Nat.le_refl _) _)
  rw [← hw1] at hmk
  have HBi := fun u => hide (mbits_any (some ⟨w.heap.size, 0, none⟩) 1024 1024 u (by omega))
  clear hw1
  go_enter Tryd.func68, Tryd.ntmps68
  go_wp2_with fail
  refine (HBi _).out.mono ?_
  rintro e9 w2 ⟨rfl, h2⟩
  rw [h2]
  clear h2 hmk
  go_wp2_with fail
  go_loopw [10] (fun i wr => ∃ k : Nat, k ≤ 8192 ∧ i = .int .i64 (k : Int) ∧ Own wr w.heap.size (.slice (some ⟨w.heap.size, 0, none⟩) 1024 1024) (fbL x y k) ∧ w1.grownBy wr (some w.heap.size)) (fun i _ => 8192 - (intOf i).toNat)
  case atStart => exact ⟨0, by omega, rfl, HO1.out, World.grownBy.refl _ _⟩
  case round =>
    obtain ⟨k, hk, rfl, ho, hg⟩ := hrel
    have HG := hide hg
    by_cases hlt : k < 8192
    · have hltI : (k : Int) < 8192 := by omega
      have hl := fbL_len x y k
      have HSe := fun on u (hu : Own u w.heap.size (.slice (some ⟨w.heap.size, 0, none⟩) 1024 1024) (fbL x y k)) => hide (by
        have h := set_in w.heap.size w.heap.size 1024 (fbL x y k) (k : Int) on u (by omega) (by rw [hl]; exact hu) (fbL_byts x y k) (by omega)
        rw [hl] at h
        exact h)
      have q1 : IntKind.i64.wrap ((k : Int) + 1) = (k : Int) + 1 := by rw [IntKind.wrap_i64]; omega
      have HF := hide (show fbL x y (k + 1) = setB (fbL x y k) (k : Int) (decide ((k : Int) < x) || decide (y ≤ (k : Int))) from rfl)
      have HO := hide ho
      have HJ := hide hlt
      obtain ⟨F, hF⟩ : ∃ F, F = fbL x y k := ⟨_, rfl⟩
      rw [← hF] at HSe HF HO
      clear hF hl ho hg hk hlt
      by_cases h1 : (k : Int) < x
      · have d1 : decide ((k : Int) < x) = true := by simpa using h1
        rw [d1] at HF
        go_wp2_with fail
        refine (HSe true _ HO.out).out.mono ?_
        rintro e9 w3 ⟨rfl, ho3, hg3⟩
        have HO3 := hide ho3
        have HG3 := hide (grown_trans HG.out hg3)
        clear ho3 hg3
        go_wp2_with fail
        go_roundw
        case rel => exact ⟨k + 1, by have := HJ.out; omega, by push_cast; rfl, by rw [HF.out]; exact HO3.out, HG3.out⟩
        case measure => have := HJ.out; simp [intOf]; omega
      · have d1 : decide ((k : Int) < x) = false := by simpa using h1
        by_cases h2 : y ≤ (k : Int)
        · have d2 : decide (y ≤ (k : Int)) = true := by simpa using h2
          rw [d1, d2] at HF
          go_wp2_with fail
          refine (HSe true _ HO.out).out.mono ?_
          rintro e9 w3 ⟨rfl, ho3, hg3⟩
          have HO3 := hide ho3
          have HG3 := hide (grown_trans HG.out hg3)
          clear ho3 hg3
          go_wp2_with fail
          go_roundw
          case rel => exact ⟨k + 1, by have := HJ.out; omega, by push_cast; rfl, by rw [HF.out]; exact HO3.out, HG3.out⟩
          case measure => have := HJ.out; simp [intOf]; omega
        · have d2 : decide (y ≤ (k : Int)) = false := by simpa using h2
          rw [d1, d2] at HF
          go_wp2_with fail
          refine (HSe false _ HO.out).out.mono ?_
          rintro e9 w3 ⟨rfl, ho3, hg3⟩
          have HO3 := hide ho3
          have HG3 := hide (grown_trans HG.out hg3)
          clear ho3 hg3
          go_wp2_with fail
          go_roundw
          case rel => exact ⟨k + 1, by have := HJ.out; omega, by push_cast; rfl, by rw [HF.out]; exact HO3.out, HG3.out⟩
          case measure => have := HJ.out; simp [intOf]; omega
    · obtain rfl : k = 8192 := by omega
      have HO := hide ho
      have HBf := hide (HB1.out.grown hg HB1.out.size (fun q hq => by simp at hq; omega))
      clear ho hg hk hlt
      go_wp2_with fail
      go_ret
      exact ⟨⟨_, _, rfl, HO.out⟩, HBf.out⟩
end Go.Proofs.YtjmajjfknmjifaaDoor.Oct
