/- Are all bits from one on set? None of some numbers meets what a closure asks. -/
import Derived.Test.YtjmajjfknmjifaaDoorPEzd
import Derived.Test.YtjmajjfknmjifaaDoorPTak
namespace Go.Proofs.YtjmajjfknmjifaaDoor.Oct
open Go.RowKit

set_option maxHeartbeats 4000000 in
set_option maxRecDepth 100000 in
theorem full_yes (a : Option Addr) (cap : Nat) (B : List Int) (x y : Int) (w : World) (hlen : B.length ≤ 1000000) (hl : Lies w a B) (hb : Byts B) (hx : 0 ≤ x ∧ x ≤ 8000000) (hy : 0 ≤ y ∧ y ≤ 8000000) (hall : ∀ i, x ≤ i → i < y → hasB B i = true) :
    Calls Tryd.prog 79 #[.slice a B.length cap, .int .i64 x, .int .i64 y] w fun e w' => e = .returned (.bool true) ∧ w' = w := by
  have HHa := fun (i : Int) (h : 0 ≤ i ∧ i ≤ 8000000) => hide (has_any a cap B i w hlen hl hb (by omega))
  have HAl := hide hall
  have HX := hide (And.intro hx hy)
  obtain ⟨q, hq⟩ : ∃ q, q = B.length := ⟨_, rfl⟩
  rw [← hq] at HHa ⊢
  clear hlen hl hb hq hall hx hy
  go_enter Tryd.func79, Tryd.ntmps79
  go_wp2_with fail
  go_loopw [7] (fun i wr => ∃ k : Int, x ≤ k ∧ k ≤ max x y ∧ i = .int .i64 k ∧ wr = w) (fun i _ => (y - intOf i).toNat)
  case atStart => exact ⟨x, by omega, by omega, rfl, rfl⟩
  case round =>
    obtain ⟨k, hk, hk2, rfl, hw⟩ := hrel
    rw [hw]
    clear hw
    by_cases hlt : k < y
    · have HHk := HHa k (by have := HX.out; omega)
      rw [HAl.out k hk hlt] at HHk
      have q1 : IntKind.i64.wrap (k + 1) = k + 1 := by rw [IntKind.wrap_i64]; have := HX.out; omega
      have HJ := hide (And.intro hlt (And.intro hk hk2))
      clear hk hk2
      go_wp2_with fail
      refine HHk.out.mono ?_
      rintro e9 w3 ⟨rfl, h3⟩
      rw [h3]
      clear h3
      go_wp2_with fail
      go_roundw
      case rel => exact ⟨k + 1, by have := HJ.out; omega, by have := HJ.out; omega, by first | rfl | go_num, by first | rfl | trivial⟩
      case measure => have := HJ.out; simp [intOf]; omega
    · clear hk hk2
      go_wp2_with fail
      go_ret
      exact ⟨rfl, rfl⟩

set_option maxHeartbeats 1000000 in
theorem og1_no (x f t : Int) (p q : Nat) (w : World) (hp : w.cell? ⟨p, 0, none⟩ = some (.int .i64 f)) (hq : w.cell? ⟨q, 0, none⟩ = some (.int .i64 t)) (hf : f ≤ x) (ht : x < t) :
    Calls Tryd.prog 75 #[.int .i64 x, .pointer (some ⟨p, 0, none⟩), .pointer (some ⟨q, 0, none⟩)] w fun e w' => e = .returned (.bool false) ∧ w' = w := by
  have d1 : decide (x < f) = false := by simpa using hf
  have d2 : decide (t ≤ x) = false := by simpa using ht
  clear hf ht
  go_enter Tryd.func75, Tryd.ntmps75
  go_wp2_with fail
  go_ret
  exact ⟨rfl, rfl⟩

set_option maxHeartbeats 1000000 in
theorem og2_no (x f : Int) (p q : Nat) (a : Option Addr) (cap : Nat) (B : List Int) (w : World) (hp : w.cell? ⟨p, 0, none⟩ = some (.slice a B.length cap)) (hq : w.cell? ⟨q, 0, none⟩ = some (.int .i64 f)) (hlen : B.length ≤ 1000000) (hl : Lies w a B) (hb : Byts B) (hx : 0 ≤ x ∧ x ≤ 8000000) (hf : 0 ≤ f ∧ f ≤ 8000000) (hh : hasB B (x - f) = true) :
    Calls Tryd.prog 78 #[.int .i64 x, .pointer (some ⟨p, 0, none⟩), .pointer (some ⟨q, 0, none⟩)] w fun e w' => e = .returned (.bool false) ∧ w' = w := by
  have hw1 : IntKind.i64.wrap (x - f) = x - f := by rw [IntKind.wrap_i64]; omega
  have HHa := hide (has_any a cap B (x - f) w hlen hl hb (by omega))
  rw [hh] at HHa
  obtain ⟨n, hn⟩ : ∃ n, n = B.length := ⟨_, rfl⟩
  rw [← hn] at hp HHa
  clear hlen hl hb hx hf hh hn
  go_enter Tryd.func78, Tryd.ntmps78
  go_wp2_with fail
  refine HHa.out.mono ?_
  rintro e9 w3 ⟨rfl, h3⟩
  rw [h3]
  clear h3
  go_wp2_with fail
  go_ret
  exact ⟨rfl, rfl⟩

set_option maxHeartbeats 4000000 in
set_option maxRecDepth 100000 in
theorem index1_none (w : World) (g cap p q : Nat) (L : List Int) (hL : CellsAt w g (L.map (Value.int .i64))) (hn : L.length ≤ 1000000) (hC : ∀ k, k < L.length → Calls Tryd.prog 75 #[.int .i64 (L.getD k 0), .pointer (some ⟨p, 0, none⟩), .pointer (some ⟨q, 0, none⟩)] w fun e w' => e = .returned (.bool false) ∧ w' = w) :
    Calls Tryd.prog 82 #[.slice (some ⟨g, 0, none⟩) L.length cap, .func (.func 75) #[] #[.pointer (some ⟨p, 0, none⟩), .pointer (some ⟨q, 0, none⟩)]] w fun e w' => e = .returned (.int .i64 (-1)) ∧ w' = w := by
  have HL := fun k (hk : k < L.length) => hide (show w.cell? ⟨g, k, none⟩ = some (.int .i64 (L.getD k 0)) from hL k _ (by simp [hk]))
  have HC := fun k hk => hide (hC k hk)
  clear hL hC
  go_enter Tryd.func82, Tryd.ntmps82
  go_wp2_with fail
  go_loopw [8] (fun i wr => ∃ (k : Nat), k ≤ L.length ∧ i = .int .i64 (k : Int) ∧ wr = w) (fun i _ => L.length - (intOf i).toNat)
  case atStart => exact ⟨0, by omega, rfl, rfl⟩
  case round =>
    obtain ⟨k, hk, rfl, hw⟩ := hrel
    rw [hw]
    clear hw
    by_cases hlt : k < L.length
    · have q0 := (HL k hlt).out
      have HCk := HC k hlt
      generalize L.getD k 0 = x at *
      go_wp2_with fail
      refine HCk.out.mono ?_
      rintro e9 w2 ⟨rfl, h2⟩
      rw [h2]
      clear h2
      go_wp2_with fail
      exact ⟨⟨k + 1, by omega, by congr 1 <;> omega, by first | rfl | trivial⟩, by simp [intOf]; omega⟩
    · obtain rfl : k = L.length := by omega
      go_wp2_with fail
      go_ret
      exact ⟨rfl, rfl⟩

theorem contains1_none (w : World) (g cap p q : Nat) (L : List Int) (hL : CellsAt w g (L.map (Value.int .i64))) (hn : L.length ≤ 1000000) (hC : ∀ k, k < L.length → Calls Tryd.prog 75 #[.int .i64 (L.getD k 0), .pointer (some ⟨p, 0, none⟩), .pointer (some ⟨q, 0, none⟩)] w fun e w' => e = .returned (.bool false) ∧ w' = w) :
    Calls Tryd.prog 74 #[.slice (some ⟨g, 0, none⟩) L.length cap, .func (.func 75) #[] #[.pointer (some ⟨p, 0, none⟩), .pointer (some ⟨q, 0, none⟩)]] w fun e w' => e = .returned (.bool false) ∧ w' = w := by
  have HI := hide (index1_none w g cap p q L hL hn hC)
  clear hL hC
  go_enter Tryd.func74, Tryd.ntmps74
  go_wp2_with fail
  refine HI.out.mono ?_
  rintro e9 w2 ⟨rfl, h2⟩
  rw [h2]
  clear h2
  go_wp2_with fail
  go_ret
  exact ⟨rfl, rfl⟩

set_option maxHeartbeats 4000000 in
set_option maxRecDepth 100000 in
theorem index2_none (w : World) (g cap p q : Nat) (L : List Int) (hL : CellsAt w g (L.map (Value.int .i64))) (hn : L.length ≤ 1000000) (hC : ∀ k, k < L.length → Calls Tryd.prog 78 #[.int .i64 (L.getD k 0), .pointer (some ⟨p, 0, none⟩), .pointer (some ⟨q, 0, none⟩)] w fun e w' => e = .returned (.bool false) ∧ w' = w) :
    Calls Tryd.prog 82 #[.slice (some ⟨g, 0, none⟩) L.length cap, .func (.func 78) #[] #[.pointer (some ⟨p, 0, none⟩), .pointer (some ⟨q, 0, none⟩)]] w fun e w' => e = .returned (.int .i64 (-1)) ∧ w' = w := by
  have HL := fun k (hk : k < L.length) => hide (show w.cell? ⟨g, k, none⟩ = some (.int .i64 (L.getD k 0)) from hL k _ (by simp [hk]))
  have HC := fun k hk => hide (hC k hk)
  clear hL hC
  go_enter Tryd.func82, Tryd.ntmps82
  go_wp2_with fail
  go_loopw [8] (fun i wr => ∃ (k : Nat), k ≤ L.length ∧ i = .int .i64 (k : Int) ∧ wr = w) (fun i _ => L.length - (intOf i).toNat)
  case atStart => exact ⟨0, by omega, rfl, rfl⟩
  case round =>
    obtain ⟨k, hk, rfl, hw⟩ := hrel
    rw [hw]
    clear hw
    by_cases hlt : k < L.length
    · have q0 := (HL k hlt).out
      have HCk := HC k hlt
      generalize L.getD k 0 = x at *
      go_wp2_with fail
      refine HCk.out.mono ?_
      rintro e9 w2 ⟨rfl, h2⟩
      rw [h2]
      clear h2
      go_wp2_with fail
      exact ⟨⟨k + 1, by omega, by congr 1 <;> omega, by first | rfl | trivial⟩, by simp [intOf]; omega⟩
    · obtain rfl : k = L.length := by omega
      go_wp2_with fail
      go_ret
      exact ⟨rfl, rfl⟩

theorem contains2_none (w : World) (g cap p q : Nat) (L : List Int) (hL : CellsAt w g (L.map (Value.int .i64))) (hn : L.length ≤ 1000000) (hC : ∀ k, k < L.length → Calls Tryd.prog 78 #[.int .i64 (L.getD k 0), .pointer (some ⟨p, 0, none⟩), .pointer (some ⟨q, 0, none⟩)] w fun e w' => e = .returned (.bool false) ∧ w' = w) :
    Calls Tryd.prog 74 #[.slice (some ⟨g, 0, none⟩) L.length cap, .func (.func 78) #[] #[.pointer (some ⟨p, 0, none⟩), .pointer (some ⟨q, 0, none⟩)]] w fun e w' => e = .returned (.bool false) ∧ w' = w := by
  have HI := hide (index2_none w g cap p q L hL hn hC)
  clear hL hC
  go_enter Tryd.func74, Tryd.ntmps74
  go_wp2_with fail
  refine HI.out.mono ?_
  rintro e9 w2 ⟨rfl, h2⟩
  rw [h2]
  clear h2
  go_wp2_with fail
  go_ret
  exact ⟨rfl, rfl⟩

end Go.Proofs.YtjmajjfknmjifaaDoor.Oct
