/- What a nil file answers; what is too long. -/
import Derived.Test.YtnhbncbiflnapaaHlv
namespace Go.Proofs.Ytnhbncbiflnapaa.Oct
open Go.RowKit Go.Deep

set_option maxHeartbeats 1000000 in
set_option maxRecDepth 100000 in
theorem new_big (w : World) (a : Option Addr) (cap n : Nat) (hn : 4194304 < n) (hm : n ≤ 100000000) :
    Calls Try.prog 10 #[.slice a n cap] w fun e w' => e = .returned (.tuple #[.pointer none, .int .i64 3]) ∧ w' = w := by
  have h1 : (4194304 : Int) < (n : Int) := by omega
  go_enter Try.func10, Try.ntmps10
  go_wp2_with fail
  go_ret2
  exact ⟨rfl, rfl⟩

set_option maxHeartbeats 1000000 in
set_option maxRecDepth 100000 in
theorem write_big (w : World) (X : Nat → Prop) (F : Nat) (f : Fs) (S T : List Int) (R : List Wr) (h : Fil w X F f S T R) (hops : -1000000 ≤ f.ops ∧ f.ops < 1000000) (h0 : f.said = 0) (at_ : Int) (a : Option Addr) (cap n : Nat) (hn : n ≤ 100000000) (hat : 0 ≤ at_) (hb : 4194304 - (n : Int) < at_) :
    Calls Try.prog 23 #[.pointer (some ⟨F, 0, none⟩), .int .i64 at_, .slice a n cap] w fun e w' => e = .returned (.int .i64 3) ∧ Fil w' X F f.asked S T R ∧ Chg (fun k => k = F) w w' := by
  have HF := hide h
  have hn0 : ¬ (at_ < 0) := by omega
  clear h
  go_enter Try.func23, Try.ntmps23
  go_wp2_with fail
  refine (ask_file w F f HF.out.at_ (by omega)).mono ?_
  rintro e w1 ⟨rfl, ha1, hc1⟩
  rw [h0]
  have HA1 := hide ha1
  have HC1 := hide hc1
  clear ha1 hc1
  go_wp2_with fail
  go_ret
  exact ⟨rfl, HF.out.fields HC1.out HA1.out rfl rfl rfl, HC1.out⟩

set_option maxHeartbeats 1000000 in
set_option maxRecDepth 100000 in
theorem trunc_big (w : World) (X : Nat → Prop) (F : Nat) (f : Fs) (S T : List Int) (R : List Wr) (h : Fil w X F f S T R) (hops : -1000000 ≤ f.ops ∧ f.ops < 1000000) (h0 : f.said = 0) (n : Int) (hb : 4194304 < n) :
    Calls Try.prog 27 #[.pointer (some ⟨F, 0, none⟩), .int .i64 n] w fun e w' => e = .returned (.int .i64 3) ∧ Fil w' X F f.asked S T R ∧ Chg (fun k => k = F) w w' := by
  have HF := hide h
  have hn0 : ¬ (n < 0) := by omega
  clear h
  go_enter Try.func27, Try.ntmps27
  go_wp2_with fail
  refine (ask_file w F f HF.out.at_ (by omega)).mono ?_
  rintro e w1 ⟨rfl, ha1, hc1⟩
  rw [h0]
  have HA1 := hide ha1
  have HC1 := hide hc1
  clear ha1 hc1
  go_wp2_with fail
  go_ret
  exact ⟨rfl, HF.out.fields HC1.out HA1.out rfl rfl rfl, HC1.out⟩

set_option maxHeartbeats 1000000 in
set_option maxRecDepth 100000 in
theorem nil_ask (w : World) : Calls Try.prog 37 #[.pointer none] w fun e w' => e = .returned (.int .i64 2) ∧ w' = w := by
  go_enter Try.func37, Try.ntmps37
  go_wp2
  go_ret
  exact ⟨rfl, rfl⟩

set_option maxHeartbeats 1000000 in
set_option maxRecDepth 100000 in
theorem nil_read (w : World) (a n : Int) : Calls Try.prog 26 #[.pointer none, .int .i64 a, .int .i64 n] w fun e w' => e = .returned (.tuple #[.slice none 0 0, .int .i64 2]) ∧ w' = w := by
  go_enter Try.func26, Try.ntmps26
  go_wp2_with (go_at_call 37; refine (nil_ask _).mono ?_; rintro e w' ⟨rfl, rfl⟩)
  go_ret2
  exact ⟨rfl, rfl⟩

set_option maxHeartbeats 1000000 in
set_option maxRecDepth 100000 in
theorem nil_write (w : World) (at_ : Int) (p : Value) : Calls Try.prog 23 #[.pointer none, .int .i64 at_, p] w fun e w' => e = .returned (.int .i64 2) ∧ w' = w := by
  go_enter Try.func23, Try.ntmps23
  go_wp2_with (go_at_call 37; refine (nil_ask _).mono ?_; rintro e w' ⟨rfl, rfl⟩)
  go_ret
  exact ⟨rfl, rfl⟩

set_option maxHeartbeats 1000000 in
set_option maxRecDepth 100000 in
theorem nil_trunc (w : World) (n : Int) : Calls Try.prog 27 #[.pointer none, .int .i64 n] w fun e w' => e = .returned (.int .i64 2) ∧ w' = w := by
  go_enter Try.func27, Try.ntmps27
  go_wp2_with (go_at_call 37; refine (nil_ask _).mono ?_; rintro e w' ⟨rfl, rfl⟩)
  go_ret
  exact ⟨rfl, rfl⟩

set_option maxHeartbeats 1000000 in
set_option maxRecDepth 100000 in
theorem nil_flush (w : World) : Calls Try.prog 22 #[.pointer none] w fun e w' => e = .returned (.int .i64 2) ∧ w' = w := by
  go_enter Try.func22, Try.ntmps22
  go_wp2_with (go_at_call 37; refine (nil_ask _).mono ?_; rintro e w' ⟨rfl, rfl⟩)
  go_ret
  exact ⟨rfl, rfl⟩

end Go.Proofs.Ytnhbncbiflnapaa.Oct
