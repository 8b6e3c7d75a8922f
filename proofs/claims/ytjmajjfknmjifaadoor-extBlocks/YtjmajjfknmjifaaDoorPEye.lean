/- A bit is set, or not, by the program; how many of the first bits aren't set. -/
import Derived.Test.YtjmajjfknmjifaaDoorPEyd
import Derived.Test.YtjmajjfknmjifaaDoorPAppChg
namespace Go.Proofs.YtjmajjfknmjifaaDoor.Oct
open Go.RowKit

set_option maxHeartbeats 4000000 in
set_option maxRecDepth 100000 in
theorem set_in (K g cap : Nat) (B : List Int) (i : Int) (on : Bool) (w : World) (hlen : B.length ≤ 1000000) (hown : Own w K (.slice (some ⟨g, 0, none⟩) B.length cap) B) (hb : Byts B) (h : 0 ≤ i ∧ i < 8 * (B.length : Int)) :
    Calls Tryd.prog 25 #[.slice (some ⟨g, 0, none⟩) B.length cap, .int .i64 i, .bool on] w fun e w' => e = .returned (.tuple #[]) ∧ Own w' K (.slice (some ⟨g, 0, none⟩) B.length cap) (setB B i on) ∧ w.grownBy w' (some g) := by
  have HBi := fun u => hide (mbits_any (some ⟨g, 0, none⟩) B.length cap u (by omega))
  have HWi := fun u => hide (within_ext 0 (8 * (B.length : Int) - 1) i u)
  have hwv : winE 0 (8 * (B.length : Int) - 1) i = true := by unfold winE; simp; omega
  have hw1 : IntKind.i64.wrap (8 * (B.length : Int) - 1) = 8 * (B.length : Int) - 1 := by rw [IntKind.wrap_i64]; omega
  have hv : setB B i on = B.set (i / 8).toNat (putBit (B.getD (i / 8).toNat 0) (i % 8).toNat on) := by unfold setB; rw [if_pos h]
  obtain ⟨k, hk⟩ : ∃ k : Nat, i / 8 = (k : Int) := ⟨(i / 8).toNat, by omega⟩
  obtain ⟨q, hq⟩ : ∃ q : Nat, i % 8 = (q : Int) := ⟨(i % 8).toNat, by omega⟩
  have hkt : i.tdiv 8 = (k : Int) := by rw [Int.tdiv_eq_ediv_of_nonneg h.1, hk]
  have hqt : i.tmod 8 = (q : Int) := by rw [Int.tmod_eq_emod_of_nonneg h.1, hq]
  have hkw : IntKind.i64.wrap (k : Int) = (k : Int) := by rw [IntKind.wrap_i64]; omega
  have hk0 : (0 : Int) ≤ (k : Int) := by omega
  have hkl : k < B.length := by omega
  have hk1 : (k : Int) < (B.length : Int) := by omega
  have hq0 : (0 : Int) ≤ (q : Int) := by omega
  have hq8 : (q : Int) ≤ 8 := by omega
  rw [hv, hk, hq]
  simp only [Int.toNat_natCast]
  have hc := hown.cell rfl k hkl
  have hf := hown.free rfl k
  have hx := hb k
  have HSt := hide (fun x => hown.set rfl k x)
  obtain ⟨x, hxe⟩ : ∃ x, x = B.getD k 0 := ⟨_, rfl⟩
  rw [← hxe] at hc hx ⊢
  obtain ⟨y, hy⟩ : ∃ y : Nat, x = (y : Int) := ⟨x.toNat, by omega⟩
  rw [hy] at hc ⊢
  have hq9 : q < 8 := by omega
  obtain ⟨P, hP⟩ : ∃ P, (2 : Int) ^ q = P := ⟨_, rfl⟩
  have hPb : 1 ≤ P ∧ P ≤ 128 := by
    have hqq : q = 0 ∨ q = 1 ∨ q = 2 ∨ q = 3 ∨ q = 4 ∨ q = 5 ∨ q = 6 ∨ q = 7 := by omega
    rcases hqq with e | e | e | e | e | e | e | e <;> subst e <;> omega
  have hwP : IntKind.u8.wrap P = P := by rw [IntKind.wrap_u8]; omega
  have hor := or_bit y (by omega) q hq9
  have han := andNot_bit y (by omega) q hq9
  rw [hP] at hor han
  rw [hwv] at HWi
  obtain ⟨n, hn⟩ : ∃ n, n = B.length := ⟨_, rfl⟩
  rw [← hn] at HBi HWi hk1 hw1 HSt ⊢
  clear hv hwv hk hq hkl hlen hb h hx hxe hy hn hown hPb hq9
  cases on with
  | true =>
    rw [← hor]
    obtain ⟨z, hz⟩ : ∃ z, bits .or .u8 (y : Int) P = z := ⟨_, rfl⟩
    rw [hz]
    have HS := hide (HSt.out z)
    clear hor han HSt
    go_enter Tryd.func25, Tryd.ntmps25
    go_wp2_with fail
    refine (HBi _).out.mono ?_
    rintro e9 w2 ⟨rfl, h2⟩
    rw [h2]
    clear h2
    go_wp2_with fail
    refine (HWi _).out.mono ?_
    rintro e9 w2 ⟨rfl, h2⟩
    rw [h2]
    clear h2
    go_wp2_with fail
    exact bodyPost_end (results_none rfl _ _ _) rfl ⟨rfl, HS.out.1, HS.out.2⟩
  | false =>
    rw [← han]
    obtain ⟨z, hz⟩ : ∃ z, bits .andNot .u8 (y : Int) P = z := ⟨_, rfl⟩
    rw [hz]
    have HS := hide (HSt.out z)
    clear hor han HSt
    go_enter Tryd.func25, Tryd.ntmps25
    go_wp2_with fail
    refine (HBi _).out.mono ?_
    rintro e9 w2 ⟨rfl, h2⟩
    rw [h2]
    clear h2
    go_wp2_with fail
    refine (HWi _).out.mono ?_
    rintro e9 w2 ⟨rfl, h2⟩
    rw [h2]
    clear h2
    go_wp2_with fail
    exact bodyPost_end (results_none rfl _ _ _) rfl ⟨rfl, HS.out.1, HS.out.2⟩

set_option maxHeartbeats 2000000 in
theorem set_off (a : Option Addr) (n cap : Nat) (i : Int) (on : Bool) (w : World) (hlen : n ≤ 1000000) (h : ¬ (0 ≤ i ∧ i < 8 * (n : Int))) :
    Calls Tryd.prog 25 #[.slice a n cap, .int .i64 i, .bool on] w fun e w' => e = .returned (.tuple #[]) ∧ w' = w := by
  have HBi := fun u => hide (mbits_any a n cap u (by omega))
  have HWi := fun u => hide (within_ext 0 (8 * (n : Int) - 1) i u)
  have hwv : winE 0 (8 * (n : Int) - 1) i = false := by
    unfold winE
    by_cases h0 : 0 ≤ i
    · have : ¬ i ≤ 8 * (n : Int) - 1 := by omega
      simp [this]
    · simp [h0]
  have hw1 : IntKind.i64.wrap (8 * (n : Int) - 1) = 8 * (n : Int) - 1 := by rw [IntKind.wrap_i64]; omega
  rw [hwv] at HWi
  clear hwv hlen h
  go_enter Tryd.func25, Tryd.ntmps25
  go_wp2_with fail
  refine (HBi _).out.mono ?_
  rintro e9 w2 ⟨rfl, h2⟩
  rw [h2]
  clear h2
  go_wp2_with fail
  refine (HWi _).out.mono ?_
  rintro e9 w2 ⟨rfl, h2⟩
  rw [h2]
  clear h2
  go_wp2_with fail
  exact bodyPost_ret (results_none rfl _ _ _) rfl ⟨rfl, rfl⟩
end Go.Proofs.YtjmajjfknmjifaaDoor.Oct
