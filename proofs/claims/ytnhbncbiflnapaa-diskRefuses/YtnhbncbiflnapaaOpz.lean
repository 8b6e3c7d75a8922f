/- What is said of a file; what it tells of itself. -/
import Derived.Test.YtnhbncbiflnapaaOpy
namespace Go.Proofs.Ytnhbncbiflnapaa.Oct
open Go.RowKit Go.Deep

theorem At.setrefuse {w : World} {F : Nat} {f : Fs} (h : At w F f) (n : Int) : At (w.setCell ⟨F, 5, none⟩ (.int .i64 n)) F { f with refuse := n } := h.set 5 _
theorem At.setstop {w : World} {F : Nat} {f : Fs} (h : At w F f) (n : Int) : At (w.setCell ⟨F, 6, none⟩ (.int .i64 n)) F { f with stop := n } := h.set 6 _

set_option maxHeartbeats 1000000 in
set_option maxRecDepth 100000 in
theorem ops_file (w : World) (F : Nat) (f : Fs) (h : At w F f) : Calls Try.prog 12 #[.pointer (some ⟨F, 0, none⟩)] w fun e w' => e = .returned (.int .i64 f.ops) ∧ w' = w := by
  have h3 := h.cell.2.2.2.1
  clear h
  go_enter Try.func12, Try.ntmps12
  go_wp2_with fail
  go_ret
  exact ⟨rfl, rfl⟩

set_option maxHeartbeats 1000000 in
set_option maxRecDepth 100000 in
theorem wrote_file (w : World) (F : Nat) (f : Fs) (h : At w F f) : Calls Try.prog 13 #[.pointer (some ⟨F, 0, none⟩)] w fun e w' => e = .returned (.int .i64 f.wrote) ∧ w' = w := by
  have h3 := h.cell.2.2.2.2.1
  clear h
  go_enter Try.func13, Try.ntmps13
  go_wp2_with fail
  go_ret
  exact ⟨rfl, rfl⟩

set_option maxHeartbeats 1000000 in
set_option maxRecDepth 100000 in
theorem from_one (w : World) (F : Nat) (f : Fs) (h : At w F f) (hops : 0 ≤ f.ops ∧ f.ops < 1000000) : Calls Try.prog 39 #[.pointer (some ⟨F, 0, none⟩), .int .i64 1] w fun e w' => e = .returned (.int .i64 (f.ops + 1)) ∧ w' = w := by
  have h3 := h.cell.2.2.2.1
  have hw : wrap64 (f.ops + 1) = f.ops + 1 := by unfold wrap64; omega
  clear h
  go_enter Try.func39, Try.ntmps39
  go_wp2_with fail
  go_ret
  exact ⟨rfl, rfl⟩

set_option maxHeartbeats 1000000 in
set_option maxRecDepth 100000 in
theorem refuse_one (w : World) (X : Nat → Prop) (F : Nat) (f : Fs) (A : Ab) (h : Has w X F f A) (hops : 0 ≤ f.ops ∧ f.ops < 1000000) :
    Calls Try.prog 24 #[.pointer (some ⟨F, 0, none⟩), .int .i64 1] w fun e w' => e = .returned (.tuple #[]) ∧ Has w' X F { f with refuse := f.ops + 1, stop := 0 } A ∧ Chg (fun k => k = F) w w' := by
  obtain ⟨R, hf, hD, hw⟩ := h
  have HF := hide hf
  have HD := hide (And.intro hD hw)
  have h5 := hf.at_.cell.2.2.2.2.2.1
  have z5 := hf.at_.frozen 5
  have a1 := hf.at_.setrefuse (f.ops + 1)
  have h6 := a1.cell.2.2.2.2.2.2.1
  have z6 := a1.frozen 6
  dsimp only at h6
  have a2 := a1.setstop 0
  have hc : Chg (fun k => k = F) w ((w.setCell ⟨F, 5, none⟩ (.int .i64 (f.ops + 1))).setCell ⟨F, 6, none⟩ (.int .i64 0)) := ((Chg.refl (fun k => k = F) _).setCell F 5 _ (fun _ => rfl)).setCell F 6 _ (fun _ => rfl)
  have HN := hide (And.intro (hf.fields hc a2 rfl rfl rfl) hc)
  clear hf hD hw a1 a2 hc
  go_enter Try.func24, Try.ntmps24
  go_wp2_with fail
  refine (from_one w F f HF.out.at_ hops).mono ?_
  rintro e w1 ⟨rfl, rfl⟩
  go_wp2_with fail
  go_end0
  exact ⟨rfl, ⟨R, HN.out.1, HD.out.1, HD.out.2⟩, HN.out.2⟩

end Go.Proofs.Ytnhbncbiflnapaa.Oct
