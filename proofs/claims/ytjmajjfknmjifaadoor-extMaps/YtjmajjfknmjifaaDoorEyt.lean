/- The document's bits as bytes: Bits. -/
import Derived.Test.YtjmajjfknmjifaaDoorEys
namespace Go.Proofs.YtjmajjfknmjifaaDoor.Oct
open Go.RowKit

/-- Bytes of which so many bits are known, the others 0. -/
def outP (B : List Int) (i : Nat) : List Int := (List.range B.length).map fun k => B.getD k 0 % 2 ^ (i - 8 * k)

theorem outP_len (B : List Int) (i : Nat) : (outP B i).length = B.length := by simp [outP]
theorem outP_get (B : List Int) (i k : Nat) (hk : k < B.length) : (outP B i).getD k 0 = B.getD k 0 % 2 ^ (i - 8 * k) := by
  unfold outP
  rw [List.getD_eq_getElem?_getD, List.getElem?_map, List.getElem?_range hk]
  rfl
theorem outP_zero (B : List Int) : outP B 0 = List.replicate B.length 0 := by
  apply List.ext_getElem?
  intro k
  unfold outP
  by_cases hk : k < B.length
  · rw [List.getElem?_map, List.getElem?_range hk]
    simp [hk, Int.emod_one]
  · simp [hk]
theorem pow_big {m : Nat} (h : 8 ≤ m) : (256 : Int) ≤ 2 ^ m := by
  obtain ⟨d, rfl⟩ : ∃ d, m = 8 + d := ⟨m - 8, by omega⟩
  have h1 : (1 : Int) ≤ 2 ^ d := Int.pow_pos (by omega)
  rw [Int.pow_add]
  omega
theorem mod_big {x : Int} (h : 0 ≤ x ∧ x < 256) {m : Nat} (hm : 8 ≤ m) : x % 2 ^ m = x := Int.emod_eq_of_lt h.1 (by have := pow_big hm; omega)
theorem outP_all {B : List Int} (hb : Byts B) : outP B (8 * B.length) = B := by
  apply List.ext_getElem?
  intro k
  unfold outP
  by_cases hk : k < B.length
  · rw [List.getElem?_map, List.getElem?_range hk]
    simp only [Option.map_some]
    rw [mod_big (hb k) (by omega), List.getD_eq_getElem?_getD, List.getElem?_eq_getElem hk]
    rfl
  · simp [hk]
theorem pow_low : ∀ m : Nat, m < 8 → (2 : Int) ^ m ≤ 128 := by decide
theorem bit_step : ∀ x : Nat, x < 256 → ∀ q : Nat, q < 8 → (x : Int) % 2 ^ (q + 1) = (x : Int) % 2 ^ q + (if ((x : Int) / 2 ^ q % 2 == 1) = true then 2 ^ q else 0) ∧ 0 ≤ (x : Int) % 2 ^ q + 2 ^ q ∧ (x : Int) % 2 ^ q + 2 ^ q < 256 := by decide +kernel
theorem bit_stepI {x : Int} (h : 0 ≤ x ∧ x < 256) {q : Nat} (hq : q < 8) : x % 2 ^ (q + 1) = x % 2 ^ q + (if (x / 2 ^ q % 2 == 1) = true then 2 ^ q else 0) ∧ 0 ≤ x % 2 ^ q + 2 ^ q ∧ x % 2 ^ q + 2 ^ q < 256 := by
  obtain ⟨n, rfl⟩ : ∃ n : Nat, x = (n : Int) := ⟨x.toNat, by omega⟩
  exact bit_step n (by omega) q hq
theorem outP_same {B : List Int} (hb : Byts B) (i k : Nat) (hk : k ≠ i / 8) : B.getD k 0 % 2 ^ (i + 1 - 8 * k) = B.getD k 0 % 2 ^ (i - 8 * k) := by
  by_cases h : k < i / 8
  · rw [mod_big (hb k) (by omega), mod_big (hb k) (by omega)]
  · rw [show i + 1 - 8 * k = 0 by omega, show i - 8 * k = 0 by omega]
theorem outP_step {B : List Int} (hb : Byts B) (i : Nat) (hi : i < 8 * B.length) : outP B (i + 1) = (outP B i).set (i / 8) ((outP B i).getD (i / 8) 0 + if hasB B (i : Int) = true then 2 ^ (i % 8) else 0) := by
  have hk : i / 8 < B.length := by omega
  have hh : hasB B (i : Int) = (B.getD (i / 8) 0 / 2 ^ (i % 8) % 2 == 1) := by
    rw [hasB_in (by omega), show ((i : Int) / 8).toNat = i / 8 by omega, show ((i : Int) % 8).toNat = i % 8 by omega]
  apply List.ext_getElem?
  intro k
  by_cases hkl : k < B.length
  · rw [List.getElem?_set]
    by_cases e : i / 8 = k
    · subst e
      rw [if_pos rfl, if_pos (by rw [outP_len]; exact hk), outP_get _ _ _ hk]
      unfold outP
      rw [List.getElem?_map, List.getElem?_range hk, hh]
      simp only [Option.map_some]
      rw [show i + 1 - 8 * (i / 8) = i % 8 + 1 by omega, show i - 8 * (i / 8) = i % 8 by omega, (bit_stepI (hb (i / 8)) (q := i % 8) (by omega)).1]
    · rw [if_neg e]
      unfold outP
      rw [List.getElem?_map, List.getElem?_map, List.getElem?_range hkl]
      simp only [Option.map_some]
      rw [outP_same hb i k (fun x => e x.symm)]
  · rw [List.getElem?_eq_none (by rw [outP_len]; omega), List.getElem?_eq_none (by rw [List.length_set, outP_len]; omega)]
theorem outP_keep {B : List Int} (hb : Byts B) (i : Nat) (hi : i < 8 * B.length) (hn : hasB B (i : Int) = false) : outP B (i + 1) = outP B i := by
  rw [outP_step hb i hi, hn]
  simp
  rw [List.getElem?_eq_getElem (by rw [outP_len]; omega)]
  simp

set_option maxHeartbeats 8000000 in
set_option maxRecDepth 100000 in
theorem rbits_any (a : Option Addr) (cap : Nat) (B : List Int) (w : World) (hlen : B.length ≤ 100000) (hb : Byts B) (hl : B ≠ [] → ∃ b off, a = some ⟨b, off, none⟩ ∧ b < w.heap.size ∧ ∀ i : Nat, i < 8 * B.length → w.cell? ⟨b, off + i, none⟩ = some (.bool (hasB B (i : Int)))) :
    Calls Tryd.prog 27 #[.slice a (8 * B.length) cap] w fun e w' => (∃ v, e = .returned v ∧ Own w' w.heap.size v B) ∧ Below w.heap.size w w' := by
  obtain ⟨n, hn⟩ : ∃ n, n = B.length := ⟨_, rfl⟩
  have hmk : (Instr.makeSlice 24 (.int .i64 n) (.int .i64 n)).run Tryd.prog w = .ok (.slice (some ⟨w.heap.size, 0, none⟩) n n) (w.alloc (.cells (madeCells #[.int .u8 0] n) 5)) := by
    obtain ⟨i0, hi, hz0, hz1, hz2⟩ := info_parts info5
    have h := run_make (P := Tryd.prog) w 24 5 i0 (.int .u8 0) Tryd.underlying24 hi hz0 .i64 .i64 n n (by omega) (Int.le_refl _) (by rw [hz2]; omega) (by omega)
    simpa [hz1, Value.cells] using h
  obtain ⟨w1, hw1⟩ : ∃ w1, w1 = w.alloc (.cells (madeCells #[.int .u8 0] n) 5) := ⟨_, rfl⟩
  have HO1 := hide (show Own w1 w.heap.size (.slice (some ⟨w.heap.size, 0, none⟩) n n) (outP B 0) by rw [hw1, outP_zero, ← hn]; exact Own.made w n (by unfold maxLen; omega))
  have HB1 := hide (show Below w.heap.size w w1 by rw [hw1]; exact (Below.refl _ _).alloc (Nat.le_refl _) _)
  rw [← hw1] at hmk
  obtain ⟨N, hN⟩ : ∃ N, N = 8 * n := ⟨_, rfl⟩
  rw [← hn, ← hN] at hl ⊢
  have HN := hide hN
  have Hn := hide hn
  have HL := hide hl
  have HBy := hide hb
  have hq8 : ((N : Int)).tdiv 8 = (n : Int) := by rw [Int.tdiv_eq_ediv_of_nonneg (by omega)]; omega
  have hqw : IntKind.i64.wrap (n : Int) = (n : Int) := by rw [IntKind.wrap_i64]; omega
  have HNs := hide (show N ≤ 800000 by omega)
  clear hn hN hl hb hw1 hlen
  go_enter Tryd.func27, Tryd.ntmps27
  go_wp2_with fail
  clear hmk
  go_loopw [4] (fun i wr => ∃ j : Nat, j ≤ N ∧ i = .int .i64 (j : Int) ∧ Own wr w.heap.size (.slice (some ⟨w.heap.size, 0, none⟩) n n) (outP B j) ∧ w1.grownBy wr (some w.heap.size)) (fun i _ => N - (intOf i).toNat)
  case atStart => exact ⟨0, by omega, rfl, HO1.out, World.grownBy.refl _ _⟩
  case round =>
    obtain ⟨j, hj, rfl, ho, hg⟩ := hrel
    obtain ⟨W2, hW2⟩ : ∃ W2, W2 = wr := ⟨_, rfl⟩
    subst hW2
    have HG := hide hg
    have HO := hide ho
    by_cases hlt : j < N
    · obtain ⟨q, hq⟩ : ∃ q, q = j % 8 := ⟨_, rfl⟩
      obtain ⟨k, hk⟩ : ∃ k, k = j / 8 := ⟨_, rfl⟩
      have hkn : k < n := by have := HN.out; omega
      have hq8' : q < 8 := by omega
      have hqt : (j : Int).tmod 8 = (q : Int) := by rw [Int.tmod_eq_emod_of_nonneg (by omega)]; omega
      have hkt : (j : Int).tdiv 8 = (k : Int) := by rw [Int.tdiv_eq_ediv_of_nonneg (by omega)]; omega
      have hkw : IntKind.i64.wrap (k : Int) = (k : Int) := by rw [IntKind.wrap_i64]; have := HNs.out; omega
      have hjw : IntKind.i64.wrap ((j : Int) + 1) = (j : Int) + 1 := by rw [IntKind.wrap_i64]; have := HNs.out; omega
      have hltI : (j : Int) < (N : Int) := by omega
      have hk1 : (k : Int) < (n : Int) := by omega
      have hk0 : (0 : Int) ≤ (k : Int) := by omega
      have hBl : k < B.length := by rw [← Hn.out]; exact hkn
      have hc := Own.cell ho (by rw [outP_len]; exact Hn.out) k hkn
      have hf := Own.free ho (by rw [outP_len]; exact Hn.out) k
      have hs := fun v => Own.set ho (by rw [outP_len]; exact Hn.out) k v
      have hst := bit_stepI (HBy.out k) hq8'
      have hgv := outP_get B j k hBl
      rw [show j - 8 * k = q by omega] at hgv
      obtain ⟨b, off, rfl, hbl, hcell⟩ := HL.out (by intro e; rw [e] at hBl; simp at hBl)
      have hBW : Below w.heap.size w W2 := HB1.out.trans (Chg.below w.heap.size (Chg.of_grown hg) HB1.out.size (fun i hi e => by have := Option.some.inj e; omega))
      have hcj := (hBW.cell (p := ⟨b, off + j, none⟩) hbl).trans (hcell j hlt)
      have HSt := hide (outP_step HBy.out j (by have := HN.out; have := Hn.out; omega))
      have HKe := hide (outP_keep HBy.out j (by have := HN.out; have := Hn.out; omega))
      rw [← hk, ← hq] at HSt
      have hp0 : (0 : Int) < 2 ^ q := Int.pow_pos (by omega)
      have hx0 : 0 ≤ B.getD k 0 % 2 ^ q := Int.emod_nonneg _ (by omega)
      rw [← hgv] at hst hx0
      have hu1 : IntKind.u8.wrap (2 ^ q) = 2 ^ q := by rw [IntKind.wrap_u8]; omega
      have hu2 : IntKind.u8.wrap ((outP B j).getD k 0 + 2 ^ q) = (outP B j).getD k 0 + 2 ^ q := by rw [IntKind.wrap_u8]; omega
      have HJ := hide hlt
      have HQ := hide hq8'
      have HSs := hide (And.intro hq (And.intro hk True.intro))
      obtain ⟨x, hx⟩ : ∃ x, x = (outP B j).getD k 0 := ⟨_, rfl⟩
      obtain ⟨h, hh⟩ : ∃ h, h = hasB B (j : Int) := ⟨_, rfl⟩
      rw [← hh] at HSt HKe hcj
      rw [← hx] at HSt hc hu2
      have HSet := hide (hs (x + 2 ^ q))
      clear hx hh hst hgv hx0 hs hcell hbl hBl hBW ho hg hj hq8' hq hk hlt hkn HSs
      go_wp2_with fail
      go_loopw [5, 6] (fun c f wr => ∃ m : Nat, m ≤ q ∧ f = .int .i64 (m : Int) ∧ c = .int .i64 (2 ^ m) ∧ wr = W2) (fun _ f _ => q - (intOf f).toNat)
      case atStart => exact ⟨0, by omega, rfl, rfl, rfl⟩
      case round =>
        obtain ⟨m, hm, rfl, rfl, hw⟩ := hrel
        rw [hw]
        clear hw
        by_cases hmq : m < q
        · have hp1 : (2 : Int) ^ m ≤ 128 := pow_low m (by have := HQ.out; omega)
          have hp2 : (0 : Int) < 2 ^ m := Int.pow_pos (by omega)
          have hpw : IntKind.i64.wrap (2 ^ m * 2) = 2 ^ (m + 1) := by rw [Int.pow_succ, IntKind.wrap_i64]; omega
          have hmw : IntKind.i64.wrap ((m : Int) + 1) = (m : Int) + 1 := by rw [IntKind.wrap_i64]; have := HQ.out; omega
          have hmI : (m : Int) < (q : Int) := by omega
          have HM := hide hmq
          obtain ⟨y, hy⟩ : ∃ y : Int, y = 2 ^ m := ⟨_, rfl⟩
          obtain ⟨z, hz⟩ : ∃ z : Int, z = 2 ^ (m + 1) := ⟨_, rfl⟩
          rw [← hy, ← hz] at hpw
          rw [← hy]
          have HZ := hide hz
          clear hy hz hp1 hp2 hm hmq
          go_wp2_with fail
          go_roundw
          case rel => exact ⟨m + 1, by have := HM.out; omega, by go_num, by rw [HZ.out], by first | rfl | trivial⟩
          case measure => have := HM.out; simp [intOf]; omega
        · obtain rfl : m = q := by omega
          have hp1 : IntKind.u8.wrap (2 ^ m) = 2 ^ m := hu1
          clear hm hmq
          obtain ⟨y, hy⟩ : ∃ y : Int, y = 2 ^ m := ⟨_, rfl⟩
          rw [← hy] at hu1 hu2 HSt HSet hp0 ⊢
          clear hp1 hy
          cases h
          · go_wp2_with fail
            go_roundw
            case rel => exact ⟨j + 1, by have := HJ.out; omega, by go_num, by rw [HKe.out rfl]; exact HO.out, HG.out⟩
            case measure => have := HJ.out; simp [intOf]; omega
          · go_wp2_with fail
            go_roundw
            case rel => exact ⟨j + 1, by have := HJ.out; omega, by go_num, by rw [HSt.out, if_pos rfl]; exact HSet.out.1, grown_trans HG.out HSet.out.2⟩
            case measure => have := HJ.out; simp [intOf]; omega
    · obtain rfl : j = N := by omega
      have HF := hide (show outP B j = B by rw [HN.out, Hn.out]; exact outP_all HBy.out)
      have hBW : Below w.heap.size w W2 := HB1.out.trans (Chg.below w.heap.size (Chg.of_grown hg) HB1.out.size (fun i hi e => by have := Option.some.inj e; omega))
      have HBW := hide hBW
      clear hlt hj ho hg hBW
      go_wp2_with fail
      go_ret
      exact ⟨⟨_, rfl, by have := HO.out; rw [HF.out] at this; exact this⟩, HBW.out⟩
end Go.Proofs.YtjmajjfknmjifaaDoor.Oct
