/- A sector's bytes in memory: as a value, as a block. -/
import Derived.Test.YtkhknfohcebicaaTxm
import Derived.Test.YtkhknfohcebicaaChecked
import Derived.Laws.CopyRow
import Derived.Laws.Tables
namespace Go.Proofs.Ytkhknfohcebicaa.Oct
open Go.RowKit

def secC (l : List Int) : Array Value := (l.map (Value.int .u8)).toArray
/-- A sector's bytes as a value. -/
def sec (l : List Int) : Value := .agg (secC l)
/-- Noughts. -/
def Z5 : List Int := List.replicate 512 0

theorem Z5_len : Z5.length = 512 := List.length_replicate
theorem secC_size (l : List Int) : (secC l).size = l.length := by simp [secC]
theorem secC_one (l : List Int) : (secC l).all (·.oneCell') = true := by simp [secC]; intro x _; rfl

set_option maxRecDepth 100000 in
theorem info98 : (Try.prog.info? 96).map (fun i => (i.zero, i.size, i.bytes)) = some (some (sec Z5), 512, 512) := by kernel_rfl
set_option maxRecDepth 100000 in
theorem info99 : (Try.prog.info? 97).map (fun i => (i.zero, i.size, i.bytes)) = some (some (sec Z5), 512, 512) := by kernel_rfl

theorem zero98 (w : World) : (zeroValue 96).run Try.prog w = .ok (sec Z5) w := by
  obtain ⟨i, hi, h0, h1, h2⟩ := info_parts info98
  simp [zeroValue, typeInfo, hi, h0, Result.andThen]
theorem zero99 (w : World) : (zeroValue 97).run Try.prog w = .ok (sec Z5) w := by
  obtain ⟨i, hi, h0, h1, h2⟩ := info_parts info99
  simp [zeroValue, typeInfo, hi, h0, Result.andThen]

theorem size98 : (Try.prog.info? 96).map (·.size) = some 512 := by
  obtain ⟨i, hi, h0, h1, h2⟩ := info_parts info98
  simp [hi, h1]
theorem size99 : (Try.prog.info? 97).map (·.size) = some 512 := by
  obtain ⟨i, hi, h0, h1, h2⟩ := info_parts info99
  simp [hi, h1]

/-- The block X holds a sector's bytes. -/
structure Sec (w : World) (X : Nat) (t : TypeId) (l : List Int) : Prop where
  at_ : w.heap[X]? = some (.cells (secC l) t (0, 0))
  len : l.length = 512

theorem Sec.lt {w : World} {X : Nat} {t : TypeId} {l : List Int} (h : Sec w X t l) : X < w.heap.size := (Array.getElem?_eq_some_iff.1 h.at_).1
theorem Sec.same {w w' : World} {X : Nat} {t : TypeId} {l : List Int} (h : Sec w X t l) (he : w'.heap[X]? = w.heap[X]?) : Sec w' X t l := ⟨he.trans h.at_, h.len⟩
theorem Sec.cell {w : World} {X : Nat} {t : TypeId} {l : List Int} (h : Sec w X t l) (i : Nat) (hi : i < 512) : w.cell? ⟨X, i, none⟩ = some (.int .u8 (l.getD i 0)) := by
  have := h.len
  simp only [World.cell?, h.at_, secC]
  simp [show i < l.length by omega]
theorem Sec.frozen {w : World} {X : Nat} {t : TypeId} {l : List Int} (h : Sec w X t l) (i : Nat) : w.frozen? ⟨X, i, none⟩ = false := by
  simp [World.frozen?, h.at_]
theorem Sec.set {w : World} {X : Nat} {t : TypeId} {l : List Int} (h : Sec w X t l) (i : Nat) (x : Int) : Sec (w.setCell ⟨X, i, none⟩ (.int .u8 x)) X t (l.set i x) := by
  refine ⟨?_, by rw [List.length_set]; exact h.len⟩
  rw [heap_setCell_same w X i (secC l) t (.int .u8 x) h.at_]
  congr 2
  simp [secC, List.map_set]
theorem Sec.new (w : World) (t : TypeId) (l : List Int) (hl : l.length = 512) : Sec (w.alloc (.cells (secC l) t)) w.heap.size t l := ⟨heap_alloc_new w _, hl⟩
theorem Sec.row {w : World} {X : Nat} {t : TypeId} {l : List Int} (h : Sec w X t l) (l' : List Int) (hl : l'.length = 512) : Sec (w.setRow X (secC l')) X t l' :=
  ⟨setRow_heap w X _ _ t _ h.at_, hl⟩

theorem setRow_other (w : World) (X : Nat) (cs : Array Value) (k : Nat) (hk : k ≠ X) : (w.setRow X cs).heap[k]? = w.heap[k]? := by
  simp only [World.setRow]
  rw [Array.getElem?_modify, if_neg (fun e => hk e.symm)]

theorem grown_setRow (w : World) (X : Nat) (cs : Array Value) : w.grownBy (w.setRow X cs) (some X) :=
  ⟨rfl, rfl, rfl, by simp [World.setRow], fun i _ hi => setRow_other w X cs i (fun e => hi (by rw [e]))⟩

theorem arr98 : Try.prog.underlying 96 = some (.array (Try.prog.arrayLen 96) (Try.prog.elem 96)) := by kernel_rfl
theorem arr99 : Try.prog.underlying 97 = some (.array (Try.prog.arrayLen 97) (Try.prog.elem 97)) := by kernel_rfl
theorem len98 : Try.prog.arrayLen 96 = 512 := by kernel_rfl
theorem len99 : Try.prog.arrayLen 97 = 512 := by kernel_rfl
theorem sz98 (w : World) : (sizeOf (Try.prog.elem 96)).run Try.prog w = .ok 1 w := by
  have h : (Try.prog.info? (Try.prog.elem 96)).map (·.size) = some 1 := by kernel_rfl
  cases hq : Try.prog.info? (Try.prog.elem 96) with
  | none => simp [hq] at h
  | some i => simp [hq] at h; simp [sizeOf, typeInfo, hq, h, Result.andThen]
theorem sz99 (w : World) : (sizeOf (Try.prog.elem 97)).run Try.prog w = .ok 1 w := by
  have h : (Try.prog.info? (Try.prog.elem 97)).map (·.size) = some 1 := by kernel_rfl
  cases hq : Try.prog.info? (Try.prog.elem 97) with
  | none => simp [hq] at h
  | some i => simp [hq] at h; simp [sizeOf, typeInfo, hq, h, Result.andThen]

theorem slice98 (w : World) (X fr : Nat) (hf : fr < 512) : (Instr.sliceAt 96 (.pointer (some ⟨X, 0, none⟩)) (some (.int .i64 (fr : Int))) none none).run Try.prog w = .ok (.slice (some ⟨X, fr, none⟩) (512 - fr) (512 - fr)) w := by
  rw [run_sliceAt_array_l w 96 ⟨X, 0, none⟩ arr98 .i64 (fr : Int) (by omega) (by rw [len98]; omega), sz98, Result.andThen_ok, len98]
  simp [slicedAt, show ¬ 512 = fr by omega, Addr.add]
  try omega
theorem slice99 (w : World) (X fr n : Nat) (hf : fr < 512) (hn : fr + n ≤ 512) : (Instr.sliceAt 97 (.pointer (some ⟨X, 0, none⟩)) (some (.int .i64 (fr : Int))) (some (.int .i64 ((fr : Int) + (n : Int)))) none).run Try.prog w = .ok (.slice (some ⟨X, fr, none⟩) n (512 - fr)) w := by
  rw [run_sliceAt_array_lh w 97 ⟨X, 0, none⟩ arr99 .i64 .i64 (fr : Int) ((fr : Int) + n) (by omega) (by omega) (by rw [len99]; omega), sz99, Result.andThen_ok, len99]
  have e : ((fr : Int) + (n : Int)).toNat = fr + n := by omega
  simp [slicedAt, show ¬ 512 = fr by omega, Addr.add, e]
  try omega

/-- The numbers of changes: bytes and marks by sectors, as maps. -/
structure Ovr (w : World) (vb vm : Value) (B M : Int → List Int) : Prop where
  b : MapV w vb (sec Z5) (fun s => sec (B s))
  m : MapV w vm (sec Z5) (fun s => sec (M s))
  bl : ∀ s, (B s).length = 512
  ml : ∀ s, (M s).length = 512

theorem key81 : Try.prog.underlying 2 = some (.int .i64) := Try.underlying2

theorem look98 {w : World} {vb vm : Value} {B M : Int → List Int} (h : Ovr w vb vm B M) (s : Int) : (Instr.lookup 65 vb (.int .i64 s) false).run Try.prog w = .ok (sec (B s)) w :=
  look_run Try.underlying65 key81 (zero98 w) h.b s
theorem look99 {w : World} {vb vm : Value} {B M : Int → List Int} (h : Ovr w vb vm B M) (s : Int) : (Instr.lookup 66 vm (.int .i64 s) false).run Try.prog w = .ok (sec (M s)) w :=
  look_run Try.underlying66 key81 (zero99 w) h.m s
end Go.Proofs.Ytkhknfohcebicaa.Oct
