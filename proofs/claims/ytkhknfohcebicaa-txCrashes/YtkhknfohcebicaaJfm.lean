/- A file as lists: it is read, stopped, left by a crash. -/
import Derived.Test.YtkhknfohcebicaaJfl
namespace Go.Proofs.Ytkhknfohcebicaa.Oct
open Go.RowKit Go.Deep

theorem len_fl (w : World) (X : Nat → Prop) (F : Nat) (f : Fs) (A : A3) (k n : Nat) (h : Fl w X F f A k n) :
    Calls Try.prog 44 #[.pointer (some ⟨F, 0, none⟩)] w fun e w' => e = .returned (.int .i64 A.S.length) ∧ w' = w := by
  obtain ⟨R, hf, _⟩ := h.has
  exact len_file w X F f A.S A.T R hf

theorem bytes_fl (w : World) (X : Nat → Prop) (F : Nat) (f : Fs) (A : A3) (k n : Nat) (h : Fl w X F f A k n) :
    Calls Try.prog 20 #[.pointer (some ⟨F, 0, none⟩)] w fun e w' => ∃ v, e = .returned v ∧ Own w' w.heap.size v A.S ∧ Below w.heap.size w w' := by
  obtain ⟨R, hf, _⟩ := h.has
  exact bytes_file w X F f A.S A.T R hf (by have := h.s; omega)

/-- What a crash leaves: of the writes that wait those that are kept. -/
def leftD (T : List Int) (D : List (Nat × List Int × Bool)) (kp : List Bool) : Nat → List Int
  | 0 => T
  | k + 1 => if kp.getD k false = true then laidD (D.getD k (0, [], false)) (leftD T D kp k) else leftD T D kp k

theorem left_dat (T : List Int) (R : List Wr) (kp : List Bool) : ∀ k, k ≤ R.length → left T R kp k = leftD T (R.map Wr.dat) kp k
  | 0, _ => rfl
  | k + 1, hk => by
    rw [left, leftD, left_dat T R kp k (by omega)]
    have e : (R.map Wr.dat).getD k (0, [], false) = (R.getD k Wr.none).dat := by simp [show k < R.length by omega]
    rw [e, laid_dat]

theorem crash_fl (w : World) (X : Nat → Prop) (F : Nat) (f : Fs) (A : A3) (k n : Nat) (h : Fl w X F f A k n) (hn : n ≤ 900000) (ak : Option Addr) (ck : Nat) (kp : List Bool) (hk : LiesB w ak kp) :
    Calls Try.prog 18 #[.pointer (some ⟨F, 0, none⟩), .slice ak kp.length ck] w fun e w' => ∃ v, e = .returned v ∧ Own w' w.heap.size v (leftD A.T A.D kp A.D.length) ∧ Below w.heap.size w w' := by
  obtain ⟨R, hf, hD⟩ := h.has
  have hRl : R.length = A.D.length := by rw [← hD]; simp
  have hd := h.d
  refine (crash_file w X F f A.S A.T R hf ak ck kp hk h.t (small_dat (by rw [hD]; exact h.small)) (by omega)).mono ?_
  rintro e w' ⟨v, rfl, ho, hb⟩
  rw [left_dat A.T R kp R.length (Nat.le_refl _), hD, hRl] at ho
  exact ⟨v, rfl, ho, hb⟩

theorem At.setrefuse {w : World} {F : Nat} {f : Fs} (h : At w F f) (n : Int) : At (w.setCell ⟨F, 5, none⟩ (.int .i64 n)) F { f with refuse := n } := h.set 5 _
theorem At.setstop {w : World} {F : Nat} {f : Fs} (h : At w F f) (n : Int) : At (w.setCell ⟨F, 6, none⟩ (.int .i64 n)) F { f with stop := n } := h.set 6 _

set_option maxHeartbeats 1000000 in
set_option maxRecDepth 100000 in
theorem from_any (w : World) (F : Nat) (f : Fs) (h : At w F f) (hops : 0 ≤ f.ops ∧ f.ops < 1000000) (m : Nat) (h1 : 1 ≤ m) (h2 : m ≤ 65536) : Calls Try.prog 35 #[.pointer (some ⟨F, 0, none⟩), .int .i64 m] w fun e w' => e = .returned (.int .i64 (f.ops + m)) ∧ w' = w := by
  have h3 := h.cell.2.2.2.1
  have hw : wrap64 (f.ops + (m : Int)) = f.ops + m := by unfold wrap64; omega
  have g1 : ¬ (m : Int) < 1 := by omega
  have g2 : ¬ (65536 : Int) < m := by omega
  clear h
  go_enter Try.func35, Try.ntmps35
  go_wp2_with fail
  go_ret
  exact ⟨rfl, rfl⟩

set_option maxHeartbeats 1000000 in
set_option maxRecDepth 100000 in
/-- All operations from the m-th on are stopped. -/
theorem stop_fl (w : World) (X : Nat → Prop) (F : Nat) (f : Fs) (A : A3) (k n : Nat) (h : Fl w X F f A k n) (hn : n ≤ 900000) (m : Nat) (h1 : 1 ≤ m) (h2 : m ≤ 65536) :
    Calls Try.prog 16 #[.pointer (some ⟨F, 0, none⟩), .int .i64 m] w fun e w' => e = .returned (.tuple #[]) ∧ ∃ f', Fl w' X F f' A (m - 1) n ∧ Chg (fun k => k = F) w w' := by
  obtain ⟨R, hf, hD⟩ := h.has
  have hops := h.ops
  have HF := hide hf
  have HD := hide hD
  have HFl := hide h
  have h5 := hf.at_.cell.2.2.2.2.2.1
  have z5 := hf.at_.frozen 5
  have a1 := hf.at_.setrefuse 0
  have h6 := a1.cell.2.2.2.2.2.2.1
  have z6 := a1.frozen 6
  dsimp only at h6
  have a2 := a1.setstop (f.ops + m)
  have hc : Chg (fun k => k = F) w ((w.setCell ⟨F, 5, none⟩ (.int .i64 0)).setCell ⟨F, 6, none⟩ (.int .i64 (f.ops + m))) := ((Chg.refl (fun k => k = F) _).setCell F 5 _ (fun _ => rfl)).setCell F 6 _ (fun _ => rfl)
  have HN := hide (And.intro (hf.fields hc a2 rfl rfl rfl) hc)
  clear hf hD a1 a2 hc h
  go_enter Try.func16, Try.ntmps16
  go_wp2_with fail
  refine (from_any w F f HF.out.at_ (by omega) m h1 h2).mono ?_
  rintro e w1 ⟨rfl, rfl⟩
  go_wp2_with fail
  go_end0
  exact ⟨rfl, _, ⟨⟨R, HN.out.1, HD.out⟩, fun q hq => Nat.lt_of_lt_of_le (HFl.out.x q hq) HN.out.2.size, HFl.out.ops, HFl.out.wrote, HFl.out.s, HFl.out.t, HFl.out.d, HFl.out.small, ⟨rfl, Or.inr ⟨by show 0 < f.ops + (m : Int); omega, by show ((m - 1 : Nat) : Int) = max (f.ops + m - 1 - f.ops) 0; omega⟩⟩⟩, HN.out.2⟩
end Go.Proofs.Ytkhknfohcebicaa.Oct
