/- A sector's bytes in memory: as a value, as a block. -/
import Derived.Test.YtibkhgmmjhlpmaaGreatPNumMem
import Derived.MapKept
import Derived.Test.YtibkhgmmjhlpmaaGreatChecked
import Derived.Laws.CopyRow
import Derived.Laws.Tables
namespace Go.Proofs.YtibkhgmmjhlpmaaGreat.Oct
open Go.RowKit Go.MapKept

/-- The block r is a map that has f at each number; z where there is nothing. -/
def MapR (w : World) (r : Nat) (z : Value) (f : Int → Value) : Prop :=
  ∃ es clock, w.heap[r]? = some (.map es clock) ∧ Stamped es clock ∧ (∀ x ∈ es.toList, IsKey (.int .i64) x.key) ∧
    (∀ e ∈ es.toList, ∀ k, e.key = .int .i64 k → e.val = f k) ∧ (∀ k, (∀ e ∈ es.toList, e.key ≠ .int .i64 k) → f k = z)

/-- The entry of k is there, and will be stored: st tells which it is. -/
def MidR (w : World) (r : Nat) (z : Value) (f : Int → Value) (k : Int) (st : Nat) : Prop :=
  ∃ es clock, w.heap[r]? = some (.map es clock) ∧ Stamped es clock ∧ (∀ x ∈ es.toList, IsKey (.int .i64) x.key) ∧
    (∃ (i : Nat) (e : MapEntry), es[i]? = some e ∧ e.key = .int .i64 k ∧ e.born = st) ∧
    (∀ e ∈ es.toList, ∀ k', k' ≠ k → e.key = .int .i64 k' → e.val = f k') ∧ (∀ k', k' ≠ k → (∀ e ∈ es.toList, e.key ≠ .int .i64 k') → f k' = z)

def MapV (w : World) (v : Value) (z : Value) (f : Int → Value) : Prop := (v = .map none ∧ ∀ k, f k = z) ∨ ∃ r, v = .map (some r) ∧ MapR w r z f

def upd (f : Int → Value) (k : Int) (x : Value) : Int → Value := fun k' => if k' = k then x else f k'

theorem MapR.lt {w : World} {r : Nat} {z : Value} {f : Int → Value} (h : MapR w r z f) : r < w.heap.size := by
  obtain ⟨es, clock, hb, _⟩ := h
  exact (Array.getElem?_eq_some_iff.1 hb).1

theorem MapR.same {w w' : World} {r : Nat} {z : Value} {f : Int → Value} (h : MapR w r z f) (he : w'.heap[r]? = w.heap[r]?) : MapR w' r z f := by
  obtain ⟨es, clock, hb, hr⟩ := h
  exact ⟨es, clock, he.trans hb, hr⟩

theorem MidR.same {w w' : World} {r : Nat} {z : Value} {f : Int → Value} {k : Int} {st : Nat} (h : MidR w r z f k st) (he : w'.heap[r]? = w.heap[r]?) : MidR w' r z f k st := by
  obtain ⟨es, clock, hb, hr⟩ := h
  exact ⟨es, clock, he.trans hb, hr⟩

theorem MapR.made (w : World) (z : Value) : MapR (w.alloc (.map #[] 0)) w.heap.size z (fun _ => z) :=
  ⟨#[], 0, (heap_alloc w _).1, stamped_empty 0, by simp, by simp, fun _ _ => rfl⟩

theorem key_inj {es : Array MapEntry} {clock : Nat} (hs : Stamped es clock) {i j : Nat} {e e' : MapEntry} (hi : es[i]? = some e) (hj : es[j]? = some e') (hk : e.key = e'.key) : i = j := by
  have hi' : (es.toList.map (·.key))[i]? = some e.key := by simp [hi]
  have hj' : (es.toList.map (·.key))[j]? = some e.key := by simp [hj, hk]
  have h1 : i < (es.toList.map (·.key)).length := by
    rcases Nat.lt_or_ge i (es.toList.map (·.key)).length with h | h
    · exact h
    · rw [List.getElem?_eq_none h] at hi'; cases hi'
  exact (List.getElem?_inj h1 hs.2.2).1 (hi'.trans hj'.symm)

theorem born_inj {es : Array MapEntry} {clock : Nat} (hs : Stamped es clock) {i j : Nat} {e e' : MapEntry} (hi : es[i]? = some e) (hj : es[j]? = some e') (hk : e.born = e'.born) : i = j := by
  have hi' : (es.toList.map (·.born))[i]? = some e.born := by simp [hi]
  have hj' : (es.toList.map (·.born))[j]? = some e.born := by simp [hj, hk]
  have h1 : i < (es.toList.map (·.born)).length := by
    rcases Nat.lt_or_ge i (es.toList.map (·.born)).length with h | h
    · exact h
    · rw [List.getElem?_eq_none h] at hi'; cases hi'
  exact (List.getElem?_inj h1 hs.2.1).1 (hi'.trans hj'.symm)

section
variable {P : Program} {w : World} {mty kt et : TypeId} {z : Value} {f : Int → Value}

theorem look_run (hm : P.underlying mty = some (.map kt et)) (hd : P.underlying kt = some (.int .i64)) (hz : (zeroValue et).run P w = .ok z w) {v : Value} (h : MapV w v z f) (k : Int) :
    (Instr.lookup mty v (.int .i64 k) false).run P w = .ok (f k) w := by
  have hk : IsKey (.int .i64) (.int .i64 k) := rfl
  rcases h with ⟨rfl, h0⟩ | ⟨r, rfl, es, clock, hb, hs, hks, hv, hn⟩
  · have h1 : Instr.findNow (.int .i64) (.int .i64 k) [] 0 = some none := rfl
    simp [Instr.lookup, run_underlying hm, run_checkKey hd hk, run_findKey hd h1, hz, Result.andThen, h0 k]
  · rcases findNow_spec hk es.toList 0 hks with ⟨h1, h2⟩ | ⟨j, e, h1, h2, h3⟩
    · simp [Instr.lookup, run_underlying hm, MapKept.run_getObj_map hb, run_checkKey hd hk, run_findKey hd h1, hz, Result.andThen, hn k h2]
    · have he : e.val = f k := hv e (List.mem_of_getElem? h2) k h3
      simp [Instr.lookup, run_underlying hm, MapKept.run_getObj_map hb, run_checkKey hd hk, run_findKey hd h1, Result.andThen, he]

theorem entry_run (hm : P.underlying mty = some (.map kt et)) (hd : P.underlying kt = some (.int .i64)) (hz : (zeroValue et).run P w = .ok z w) {r : Nat} (h : MapR w r z f) (k : Int) :
    ∃ (old : Value) (st : Nat) (w1 : World), (Instr.mapEntry mty (.map (some r)) (.int .i64 k)).run P w = .ok (.tuple #[old, goInt (st : Int)]) w1 ∧ MidR w1 r z f k st ∧ w.grownBy w1 (some r) := by
  have hk : IsKey (.int .i64) (.int .i64 k) := rfl
  obtain ⟨es, clock, hb, hs, hks, hv, hn⟩ := h
  have hgr : ∀ o : Obj, w.grownBy { w with heap := w.heap.setIfInBounds r o } (some r) := fun o => ⟨rfl, rfl, rfl, by simp, fun i _ hi => (heap_set hb).2 i (fun e => hi (by rw [e]))⟩
  rcases findNow_spec hk es.toList 0 hks with ⟨h1, h2⟩ | ⟨j, e, h1, h2, h3⟩
  · refine ⟨z, clock, _, by simp [Instr.mapEntry, run_underlying hm, MapKept.run_getObj_map hb, run_checkKey hd hk, run_findKey hd h1, hz, MapKept.run_setObj_map _ hb, Result.andThen]; rfl, ?_, hgr _⟩
    refine ⟨_, _, (heap_set hb).1, stamped_push hs h2, ?_, ⟨es.size, { key := .int .i64 k, val := z, born := clock }, by simp, rfl, rfl⟩, ?_, ?_⟩
    · intro x hx
      simp only [Array.toList_push, List.mem_append, List.mem_singleton] at hx
      rcases hx with hx | rfl
      · exact hks x hx
      · exact hk
    · intro x hx k' hne hkx
      simp only [Array.toList_push, List.mem_append, List.mem_singleton] at hx
      rcases hx with hx | rfl
      · exact hv x hx k' hkx
      · simp at hkx
        exact absurd hkx.symm hne
    · intro k' hne hno
      exact hn k' (fun x hx => hno x (by simp [hx]))
  · have hj : es[j]? = some e := by simpa using h2
    have hkey : ∀ e', es[j]? = some e' → ({ e' with key := .int .i64 k } : MapEntry).key = e'.key := fun e' he' => by rw [hj] at he'; cases he'; exact h3.symm
    have hsame : es.modify j (fun e' => { e' with key := .int .i64 k }) = es := by
      apply Array.ext_getElem?
      intro q
      rw [Array.getElem?_modify]
      split
      · rename_i hq
        subst hq
        rw [hj]
        simp [← h3]
      · rfl
    refine ⟨e.val, e.born, _, by simp [Instr.mapEntry, run_underlying hm, MapKept.run_getObj_map hb, run_checkKey hd hk, run_findKey hd h1, hj, h3, run_keyThatStays hk, MapKept.run_setObj_map _ hb, Result.andThen]; rfl, ?_, hgr _⟩
    refine ⟨es, clock, by rw [hsame]; exact (heap_set hb).1, hs, hks, ⟨j, e, hj, h3, rfl⟩, fun x hx k' _ hkx => hv x hx k' hkx, fun k' _ hno => hn k' hno⟩

theorem store_run {r : Nat} {k : Int} {st : Nat} (h : MidR w r z f k st) (x : Value) :
    ∃ w1, (Instr.entryStore mty (.map (some r)) (goInt (st : Int)) x).run P w = .ok () w1 ∧ MapR w1 r z (upd f k x) ∧ w.grownBy w1 (some r) := by
  obtain ⟨es, clock, hb, hs, hks, ⟨i, e, hi, hk, hbo⟩, hv, hn⟩ := h
  have hgr : ∀ o : Obj, w.grownBy { w with heap := w.heap.setIfInBounds r o } (some r) := fun o => ⟨rfl, rfl, rfl, by simp, fun i _ hi => (heap_set hb).2 i (fun e => hi (by rw [e]))⟩
  have hf : es.findIdx? (fun e => (e.born : Int) == (st : Int)) = some i := by
    rw [Array.findIdx?_eq_some_iff_getElem]
    obtain ⟨hlt, he⟩ := Array.getElem?_eq_some_iff.1 hi
    refine ⟨hlt, by simp [he, hbo], fun j hj => ?_⟩
    simp only [beq_iff_eq]
    intro e2
    have hjl : j < es.size := by omega
    have := born_inj hs (i := j) (j := i) (e := es[j]) (e' := e) (by simp [hjl]) hi (by omega)
    omega
  refine ⟨_, by simp [Instr.entryStore, MapKept.run_getObj_map hb, asInt, asIntOf, goInt, hf, MapKept.run_setObj_map _ hb, Result.andThen]; rfl, ?_, hgr _⟩
  refine ⟨_, _, (heap_set hb).1, stamped_modify hs _ _ (fun _ _ => rfl) (fun _ _ _ => rfl), isKey_modify hks _ _ (fun _ _ => rfl), ?_, ?_⟩
  · intro y hy k' hky
    obtain ⟨q, hq⟩ := List.mem_iff_getElem?.1 hy
    simp only [Array.getElem?_toList, Array.getElem?_modify] at hq
    unfold upd
    split at hq
    · rename_i hiq
      subst hiq
      rw [hi] at hq
      simp at hq
      subst hq
      simp only at hky ⊢
      rw [hk] at hky
      simp at hky
      rw [if_pos hky.symm]
    · rename_i hiq
      have hne : k' ≠ k := fun e3 => hiq (key_inj hs hi hq (by rw [hk, hky, e3]))
      rw [if_neg hne]
      exact hv y (Array.mem_toList_iff.2 (Array.mem_of_getElem? hq)) k' hne hky
  · intro k' hno
    unfold upd
    have hne : k' ≠ k := by
      intro e3
      refine hno { e with val := x } (Array.mem_toList_iff.2 (Array.mem_of_getElem? (i := i) (by rw [Array.getElem?_modify, if_pos rfl, hi]; rfl))) ?_
      rw [e3]; exact hk
    rw [if_neg hne]
    refine hn k' hne (fun y hy hky => ?_)
    obtain ⟨q, hq⟩ := List.mem_iff_getElem?.1 hy
    simp only [Array.getElem?_toList] at hq
    by_cases hiq : i = q
    · subst hiq
      rw [hi] at hq
      cases hq
      rw [hk] at hky
      simp at hky
      exact hne hky.symm
    · exact hno y (Array.mem_toList_iff.2 (Array.mem_of_getElem? (i := q) (by rw [Array.getElem?_modify, if_neg hiq]; exact hq))) hky
end
end Go.Proofs.YtibkhgmmjhlpmaaGreat.Oct

namespace Go.Proofs.YtibkhgmmjhlpmaaGreat.Oct
open Go.RowKit

def secC (l : List Int) : Array Value := (l.map (Value.int .u8)).toArray
/-- A sector's bytes as a value. -/
def sec (l : List Int) : Value := .agg (secC l)
/-- Noughts. -/
def Z5 : List Int := List.replicate 512 0

theorem Z5_len : Z5.length = 512 := List.length_replicate
theorem secC_size (l : List Int) : (secC l).size = l.length := by simp [secC]
theorem secC_one (l : List Int) : (secC l).all (·.oneCell') = true := by simp [secC]; intro x _; rfl

set_option maxRecDepth 100000 in
theorem info98 : (Tryz.prog.info? 146).map (fun i => (i.zero, i.size, i.bytes)) = some (some (sec Z5), 512, 512) := by kernel_rfl
set_option maxRecDepth 100000 in
theorem info99 : (Tryz.prog.info? 147).map (fun i => (i.zero, i.size, i.bytes)) = some (some (sec Z5), 512, 512) := by kernel_rfl

theorem zero98 (w : World) : (zeroValue 146).run Tryz.prog w = .ok (sec Z5) w := by
  obtain ⟨i, hi, h0, h1, h2⟩ := info_parts info98
  simp [zeroValue, typeInfo, hi, h0, Result.andThen]
theorem zero99 (w : World) : (zeroValue 147).run Tryz.prog w = .ok (sec Z5) w := by
  obtain ⟨i, hi, h0, h1, h2⟩ := info_parts info99
  simp [zeroValue, typeInfo, hi, h0, Result.andThen]

theorem size98 : (Tryz.prog.info? 146).map (·.size) = some 512 := by
  obtain ⟨i, hi, h0, h1, h2⟩ := info_parts info98
  simp [hi, h1]
theorem size99 : (Tryz.prog.info? 147).map (·.size) = some 512 := by
  obtain ⟨i, hi, h0, h1, h2⟩ := info_parts info99
  simp [hi, h1]

/-- The block X holds a sector's bytes. -/
structure Sec (w : World) (X : Nat) (t : TypeId) (l : List Int) : Prop where
  at_ : w.heap[X]? = some (.cells (secC l) t (0, 0))
  len : l.length = 512

theorem Sec.lt {w : World} {X : Nat} {t : TypeId} {l : List Int} (h : Sec w X t l) : X < w.heap.size := (Array.getElem?_eq_some_iff.1 h.at_).1
theorem Sec.same {w w' : World} {X : Nat} {t : TypeId} {l : List Int} (h : Sec w X t l) (he : w'.heap[X]? = w.heap[X]?) : Sec w' X t l := ⟨he.trans h.at_, h.len⟩
theorem Sec.cell {w : World} {X : Nat} {t : TypeId} {l : List Int} (h : Sec w X t l) (i : Nat) (hi : i < 512) : w.cell? ⟨X, i, none⟩ = some (.int .u8 (l.getD i 0)) := by
  have := h.len
  simp only [World.cell?, h.at_, secC]
  simp [show i < l.length by omega]
theorem Sec.frozen {w : World} {X : Nat} {t : TypeId} {l : List Int} (h : Sec w X t l) (i : Nat) : w.frozen? ⟨X, i, none⟩ = false := by
  simp [World.frozen?, h.at_]
theorem Sec.set {w : World} {X : Nat} {t : TypeId} {l : List Int} (h : Sec w X t l) (i : Nat) (x : Int) : Sec (w.setCell ⟨X, i, none⟩ (.int .u8 x)) X t (l.set i x) := by
  refine ⟨?_, by rw [List.length_set]; exact h.len⟩
  rw [heap_setCell_same w X i (secC l) t (.int .u8 x) h.at_]
  congr 2
  simp [secC, List.map_set]
theorem Sec.new (w : World) (t : TypeId) (l : List Int) (hl : l.length = 512) : Sec (w.alloc (.cells (secC l) t)) w.heap.size t l := ⟨heap_alloc_new w _, hl⟩
theorem Sec.row {w : World} {X : Nat} {t : TypeId} {l : List Int} (h : Sec w X t l) (l' : List Int) (hl : l'.length = 512) : Sec (w.setRow X (secC l')) X t l' :=
  ⟨setRow_heap w X _ _ t _ h.at_, hl⟩

theorem setRow_other (w : World) (X : Nat) (cs : Array Value) (k : Nat) (hk : k ≠ X) : (w.setRow X cs).heap[k]? = w.heap[k]? := by
  simp only [World.setRow]
  rw [Array.getElem?_modify, if_neg (fun e => hk e.symm)]

theorem grown_setRow (w : World) (X : Nat) (cs : Array Value) : w.grownBy (w.setRow X cs) (some X) :=
  ⟨rfl, rfl, rfl, by simp [World.setRow], fun i _ hi => setRow_other w X cs i (fun e => hi (by rw [e]))⟩

theorem arr98 : Tryz.prog.underlying 146 = some (.array (Tryz.prog.arrayLen 146) (Tryz.prog.elem 146)) := by kernel_rfl
theorem arr99 : Tryz.prog.underlying 147 = some (.array (Tryz.prog.arrayLen 147) (Tryz.prog.elem 147)) := by kernel_rfl
theorem len98 : Tryz.prog.arrayLen 146 = 512 := by kernel_rfl
theorem len99 : Tryz.prog.arrayLen 147 = 512 := by kernel_rfl
theorem sz98 (w : World) : (sizeOf (Tryz.prog.elem 146)).run Tryz.prog w = .ok 1 w := by
  have h : (Tryz.prog.info? (Tryz.prog.elem 146)).map (·.size) = some 1 := by kernel_rfl
  cases hq : Tryz.prog.info? (Tryz.prog.elem 146) with
  | none => simp [hq] at h
  | some i => simp [hq] at h; simp [sizeOf, typeInfo, hq, h, Result.andThen]
theorem sz99 (w : World) : (sizeOf (Tryz.prog.elem 147)).run Tryz.prog w = .ok 1 w := by
  have h : (Tryz.prog.info? (Tryz.prog.elem 147)).map (·.size) = some 1 := by kernel_rfl
  cases hq : Tryz.prog.info? (Tryz.prog.elem 147) with
  | none => simp [hq] at h
  | some i => simp [hq] at h; simp [sizeOf, typeInfo, hq, h, Result.andThen]

theorem slice98 (w : World) (X fr : Nat) (hf : fr < 512) : (Instr.sliceAt 146 (.pointer (some ⟨X, 0, none⟩)) (some (.int .i64 (fr : Int))) none none).run Tryz.prog w = .ok (.slice (some ⟨X, fr, none⟩) (512 - fr) (512 - fr)) w := by
  rw [run_sliceAt_array_l w 146 ⟨X, 0, none⟩ arr98 .i64 (fr : Int) (by omega) (by rw [len98]; omega), sz98, Result.andThen_ok, len98]
  simp [slicedAt, show ¬ 512 = fr by omega, Addr.add]
  try omega
theorem slice99 (w : World) (X fr n : Nat) (hf : fr < 512) (hn : fr + n ≤ 512) : (Instr.sliceAt 147 (.pointer (some ⟨X, 0, none⟩)) (some (.int .i64 (fr : Int))) (some (.int .i64 ((fr : Int) + (n : Int)))) none).run Tryz.prog w = .ok (.slice (some ⟨X, fr, none⟩) n (512 - fr)) w := by
  rw [run_sliceAt_array_lh w 147 ⟨X, 0, none⟩ arr99 .i64 .i64 (fr : Int) ((fr : Int) + n) (by omega) (by omega) (by rw [len99]; omega), sz99, Result.andThen_ok, len99]
  have e : ((fr : Int) + (n : Int)).toNat = fr + n := by omega
  simp [slicedAt, show ¬ 512 = fr by omega, Addr.add, e]
  try omega

/-- The numbers of changes: bytes and marks by sectors, as maps. -/
structure Ovr (w : World) (vb vm : Value) (B M : Int → List Int) : Prop where
  b : MapV w vb (sec Z5) (fun s => sec (B s))
  m : MapV w vm (sec Z5) (fun s => sec (M s))
  bl : ∀ s, (B s).length = 512
  ml : ∀ s, (M s).length = 512

theorem key81 : Tryz.prog.underlying 2 = some (.int .i64) := Tryz.underlying2

theorem look98 {w : World} {vb vm : Value} {B M : Int → List Int} (h : Ovr w vb vm B M) (s : Int) : (Instr.lookup 88 vb (.int .i64 s) false).run Tryz.prog w = .ok (sec (B s)) w :=
  look_run Tryz.underlying88 key81 (zero98 w) h.b s
theorem look99 {w : World} {vb vm : Value} {B M : Int → List Int} (h : Ovr w vb vm B M) (s : Int) : (Instr.lookup 89 vm (.int .i64 s) false).run Tryz.prog w = .ok (sec (M s)) w :=
  look_run Tryz.underlying89 key81 (zero99 w) h.m s
end Go.Proofs.YtibkhgmmjhlpmaaGreat.Oct
