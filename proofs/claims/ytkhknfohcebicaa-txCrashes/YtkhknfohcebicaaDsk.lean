/- The file as it lies in memory, and the operations that count. -/
import Derived.Test.YtkhknfohcebicaaChg
import Derived.Test.YtkhknfohcebicaaChecked
import Derived.Deep.Heap
import Derived.BigQuiet
namespace Go.Proofs.Ytkhknfohcebicaa.Oct
open Go.RowKit Go.Deep

/-- A file's fields. -/
structure Fs where
  vs : Value
  vt : Value
  vr : Value
  ops : Int
  wrote : Int
  refuse : Int
  stop : Int
  st : Bool

def Fs.cells (f : Fs) : Array Value := #[f.vs, f.vt, f.vr, .int .i64 f.ops, .int .i64 f.wrote, .int .i64 f.refuse, .int .i64 f.stop, .bool f.st]

/-- They lie in block F. -/
def At (w : World) (F : Nat) (f : Fs) : Prop := w.heap[F]? = some (.cells f.cells 85 (0, 0))

theorem At.lt {w : World} {F : Nat} {f : Fs} (h : At w F f) : F < w.heap.size := (Array.getElem?_eq_some_iff.1 h).1

theorem At.chg {X : Nat → Prop} {w w' : World} {F : Nat} {f : Fs} (h : At w F f) (hg : Chg X w w') (hx : ¬ X F) : At w' F f := (hg.block F h.lt hx).trans h

theorem At.cell {w : World} {F : Nat} {f : Fs} (h : At w F f) : w.cell? ⟨F, 0, none⟩ = some f.vs ∧ w.cell? ⟨F, 1, none⟩ = some f.vt ∧ w.cell? ⟨F, 2, none⟩ = some f.vr ∧ w.cell? ⟨F, 3, none⟩ = some (.int .i64 f.ops) ∧ w.cell? ⟨F, 4, none⟩ = some (.int .i64 f.wrote) ∧
    w.cell? ⟨F, 5, none⟩ = some (.int .i64 f.refuse) ∧ w.cell? ⟨F, 6, none⟩ = some (.int .i64 f.stop) ∧ w.cell? ⟨F, 7, none⟩ = some (.bool f.st) := by
  unfold At Fs.cells at h
  simp [World.cell?, h]

theorem At.frozen {w : World} {F : Nat} {f : Fs} (h : At w F f) (o : Nat) : w.frozen? ⟨F, o, none⟩ = false := by
  unfold At at h
  simp [World.frozen?, h]

theorem At.set {w : World} {F : Nat} {f : Fs} (h : At w F f) (o : Nat) (v : Value) : (w.setCell ⟨F, o, none⟩ v).heap[F]? = some (.cells (f.cells.setIfInBounds o v) 85 (0, 0)) := by
  unfold At at h
  have hF := (Array.getElem?_eq_some_iff.1 h).1
  have e : w.heap[F] = .cells f.cells 85 (0, 0) := by
    have := Array.getElem?_eq_some_iff.1 h
    exact this.2
  simp [World.setCell, hF, Array.getElem_modify, e]

theorem At.setops {w : World} {F : Nat} {f : Fs} (h : At w F f) (n : Int) : At (w.setCell ⟨F, 3, none⟩ (.int .i64 n)) F { f with ops := n } := h.set 3 _
theorem At.setwrote {w : World} {F : Nat} {f : Fs} (h : At w F f) (n : Int) : At (w.setCell ⟨F, 4, none⟩ (.int .i64 n)) F { f with wrote := n } := h.set 4 _
theorem At.setst {w : World} {F : Nat} {f : Fs} (h : At w F f) (b : Bool) : At (w.setCell ⟨F, 7, none⟩ (.bool b)) F { f with st := b } := h.set 7 _
theorem At.setvs {w : World} {F : Nat} {f : Fs} (h : At w F f) (v : Value) : At (w.setCell ⟨F, 0, none⟩ v) F { f with vs := v } := h.set 0 _
theorem At.setvt {w : World} {F : Nat} {f : Fs} (h : At w F f) (v : Value) : At (w.setCell ⟨F, 1, none⟩ v) F { f with vt := v } := h.set 1 _
theorem At.setvr {w : World} {F : Nat} {f : Fs} (h : At w F f) (v : Value) : At (w.setCell ⟨F, 2, none⟩ v) F { f with vr := v } := h.set 2 _

theorem At.drew {w : World} {F : Nat} {f : Fs} (h : At w F f) : At w.drew F f := h

theorem At.drewN {w : World} {F : Nat} {f : Fs} (h : At w F f) (n : Nat) : At (w.drewN n) F f := h
theorem Chg.drewN {X : Nat → Prop} {w w' : World} (h : Chg X w w') (n : Nat) : Chg X w (w'.drewN n) := ⟨h.os, h.tape, h.output, h.size, h.block⟩

theorem Chg.setCell {X : Nat → Prop} {w w' : World} (h : Chg X w w') (F o : Nat) (v : Value) (hx : F < w.heap.size → X F) : Chg X w (w'.setCell ⟨F, o, none⟩ v) := by
  refine ⟨h.os, h.tape, h.output, by rw [nblk_setCell]; exact h.size, fun k hk hnx => ?_⟩
  rw [blk_setCell_other _ _ _ k (fun e => hnx (by subst e; exact hx hk))]
  exact h.block k hk hnx

/-- A file that is asked for an operation. -/
def Fs.asked (f : Fs) : Fs := { f with ops := f.ops + 1, st := f.st || decide (0 < f.stop ∧ f.stop ≤ f.ops + 1) }
def Fs.said (f : Fs) : Int := if (0 < f.stop ∧ f.stop ≤ f.ops + 1) ∨ f.ops + 1 = f.refuse then 5 else 0

set_option maxHeartbeats 1000000 in
theorem ask_file (w : World) (F : Nat) (f : Fs) (h : At w F f) (hops : -1000000000 ≤ f.ops ∧ f.ops < 1000000000) :
    Calls Try.prog 61 #[.pointer (some ⟨F, 0, none⟩)] w fun e w' => e = .returned (.int .i64 f.said) ∧ At w' F f.asked ∧ Chg (fun k => k = F) w w' := by
  obtain ⟨_, _, _, h3, _⟩ := h.cell
  have z3 := h.frozen 3
  have HA := hide (h.setops (f.ops + 1))
  have HC := hide ((Chg.refl (fun k => k = F) w).setCell F 3 (.int .i64 (f.ops + 1)) (fun _ => rfl))
  have hw : wrap64 (f.ops + 1) = f.ops + 1 := by unfold wrap64; omega
  clear h
  go_enter Try.func61, Try.ntmps61
  go_wp2
  obtain ⟨w1, e1⟩ : ∃ w1, w1 = w.setCell ⟨F, 3, none⟩ (.int .i64 (f.ops + 1)) := ⟨_, rfl⟩
  rw [← e1] at HA HC ⊢
  have hA := HA.out
  have hC := HC.out
  clear e1 HA HC h3 z3
  obtain ⟨_, _, _, h3, _, h5, h6, h7⟩ := hA.cell
  dsimp only at h3 h5 h6 h7
  have z7 := hA.frozen 7
  have HA := hide hA
  have HC := hide hC
  clear hA hC
  have hd : decide (0 < f.stop ∧ f.stop ≤ f.ops + 1) = (decide (0 < f.stop) && decide (f.stop ≤ f.ops + 1)) := by simp
  by_cases k1 : 0 < f.stop
  · by_cases k2 : f.stop ≤ f.ops + 1
    · go_region_held3 (fun w' => w'.cell? ⟨F, 3, none⟩ = some (.int .i64 (f.ops + 1)) ∧ w'.cell? ⟨F, 6, none⟩ = some (.int .i64 f.stop)) (go_keep) (fail)
      go_wp2
      go_ret
      refine ⟨by simp [Fs.said, k1, k2], ?_, HC.out.drew.setCell F 7 _ (fun _ => rfl)⟩
      have := (HA.out.setst true).drew
      simpa [Fs.asked, k1, k2] using this
    · go_region_held3 (fun w' => w'.cell? ⟨F, 3, none⟩ = some (.int .i64 (f.ops + 1)) ∧ w'.cell? ⟨F, 6, none⟩ = some (.int .i64 f.stop)) (go_keep) (fail)
      have k3 : decide (f.stop ≤ f.ops + 1) = false := by simpa using k2
      go_wp2
      have g3 : w1.drew.cell? ⟨F, 3, none⟩ = some (.int .i64 (f.ops + 1)) := h3
      have g5 : w1.drew.cell? ⟨F, 5, none⟩ = some (.int .i64 f.refuse) := h5
      by_cases hq : f.ops + 1 = f.refuse
      · have hqb : (f.ops + 1 == f.refuse) = true := by simpa using hq
        have hs : f.said = 5 := by unfold Fs.said; rw [if_pos (Or.inr hq)]
        clear hq
        go_quiet (fail)
        go_wp2
        go_ret
        exact ⟨by rw [hs]; rfl, by simpa [Fs.asked, k3] using (HA.out.drew.drewN _), HC.out.drew.drewN _⟩
      · have hqb : (f.ops + 1 == f.refuse) = false := by simpa using hq
        have hs : f.said = 0 := by unfold Fs.said; rw [if_neg (by simp [hq]; omega)]
        clear hq
        go_quiet (fail)
        go_wp2
        go_ret
        exact ⟨by rw [hs]; rfl, by simpa [Fs.asked, k3] using (HA.out.drew.drewN _), HC.out.drew.drewN _⟩
  · have k3 : decide (0 < f.stop) = false := by simpa using k1
    by_cases hq : f.ops + 1 = f.refuse
    · have hqb : (f.ops + 1 == f.refuse) = true := by simpa using hq
      have hs : f.said = 5 := by unfold Fs.said; rw [if_pos (Or.inr hq)]
      clear hq
      go_quiet (fail)
      go_wp2
      go_quiet (fail)
      go_wp2
      go_ret
      exact ⟨by rw [hs]; rfl, by simpa [Fs.asked, k3] using ((HA.out.drewN _).drewN _), (HC.out.drewN _).drewN _⟩
    · have hqb : (f.ops + 1 == f.refuse) = false := by simpa using hq
      have hs : f.said = 0 := by unfold Fs.said; rw [if_neg (by simp [hq]; omega)]
      clear hq
      go_quiet (fail)
      go_wp2
      go_quiet (fail)
      go_wp2
      go_ret
      exact ⟨by rw [hs]; rfl, by simpa [Fs.asked, k3] using ((HA.out.drewN _).drewN _), (HC.out.drewN _).drewN _⟩

end Go.Proofs.Ytkhknfohcebicaa.Oct
