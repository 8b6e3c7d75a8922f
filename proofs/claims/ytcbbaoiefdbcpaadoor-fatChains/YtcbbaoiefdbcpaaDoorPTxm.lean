/- Maps by whole numbers, whatever their elements: a look-up, an entry, a store. -/
import Derived.Test.YtcbbaoiefdbcpaaDoorPNumMem
import Derived.MapKept
namespace Go.Proofs.YtcbbaoiefdbcpaaDoor.Oct
open Go.RowKit Go.MapKept

/-- The block r is a map that has f at each number; z where there is nothing. -/
def MapR (w : World) (r : Nat) (z : Value) (f : Int → Value) : Prop :=
  ∃ es clock, w.heap[r]? = some (.map es clock) ∧ Stamped es clock ∧ (∀ x ∈ es.toList, IsKey (.int .i64) x.key) ∧
    (∀ e ∈ es.toList, ∀ k, e.key = .int .i64 k → e.val = f k) ∧ (∀ k, (∀ e ∈ es.toList, e.key ≠ .int .i64 k) → f k = z)

/-- The entry of k is there, and will be stored: st tells which it is. -/
def MidR (w : World) (r : Nat) (z : Value) (f : Int → Value) (k : Int) (st : Nat) : Prop :=
  ∃ es clock, w.heap[r]? = some (.map es clock) ∧ Stamped es clock ∧ (∀ x ∈ es.toList, IsKey (.int .i64) x.key) ∧
    (∃ (i : Nat) (e : MapEntry), es[i]? = some e ∧ e.key = .int .i64 k ∧ e.born = st) ∧
    (∀ e ∈ es.toList, ∀ k', k' ≠ k → e.key = .int .i64 k' → e.val = f k') ∧ (∀ k', k' ≠ k → (∀ e ∈ es.toList, e.key ≠ .int .i64 k') → f k' = z)

def MapV (w : World) (v : Value) (z : Value) (f : Int → Value) : Prop := (v = .map none ∧ ∀ k, f k = z) ∨ ∃ r, v = .map (some r) ∧ MapR w r z f

def upd (f : Int → Value) (k : Int) (x : Value) : Int → Value := fun k' => if k' = k then x else f k'

theorem MapR.lt {w : World} {r : Nat} {z : Value} {f : Int → Value} (h : MapR w r z f) : r < w.heap.size := by
  obtain ⟨es, clock, hb, _⟩ := h
  exact (Array.getElem?_eq_some_iff.1 hb).1

theorem MapR.same {w w' : World} {r : Nat} {z : Value} {f : Int → Value} (h : MapR w r z f) (he : w'.heap[r]? = w.heap[r]?) : MapR w' r z f := by
  obtain ⟨es, clock, hb, hr⟩ := h
  exact ⟨es, clock, he.trans hb, hr⟩

theorem MidR.same {w w' : World} {r : Nat} {z : Value} {f : Int → Value} {k : Int} {st : Nat} (h : MidR w r z f k st) (he : w'.heap[r]? = w.heap[r]?) : MidR w' r z f k st := by
  obtain ⟨es, clock, hb, hr⟩ := h
  exact ⟨es, clock, he.trans hb, hr⟩

theorem MapR.made (w : World) (z : Value) : MapR (w.alloc (.map #[] 0)) w.heap.size z (fun _ => z) :=
  ⟨#[], 0, (heap_alloc w _).1, stamped_empty 0, by simp, by simp, fun _ _ => rfl⟩

theorem key_inj {es : Array MapEntry} {clock : Nat} (hs : Stamped es clock) {i j : Nat} {e e' : MapEntry} (hi : es[i]? = some e) (hj : es[j]? = some e') (hk : e.key = e'.key) : i = j := by
  have hi' : (es.toList.map (·.key))[i]? = some e.key := by simp [hi]
  have hj' : (es.toList.map (·.key))[j]? = some e.key := by simp [hj, hk]
  have h1 : i < (es.toList.map (·.key)).length := by
    rcases Nat.lt_or_ge i (es.toList.map (·.key)).length with h | h
    · exact h
    · rw [List.getElem?_eq_none h] at hi'; cases hi'
  exact (List.getElem?_inj h1 hs.2.2).1 (hi'.trans hj'.symm)

theorem born_inj {es : Array MapEntry} {clock : Nat} (hs : Stamped es clock) {i j : Nat} {e e' : MapEntry} (hi : es[i]? = some e) (hj : es[j]? = some e') (hk : e.born = e'.born) : i = j := by
  have hi' : (es.toList.map (·.born))[i]? = some e.born := by simp [hi]
  have hj' : (es.toList.map (·.born))[j]? = some e.born := by simp [hj, hk]
  have h1 : i < (es.toList.map (·.born)).length := by
    rcases Nat.lt_or_ge i (es.toList.map (·.born)).length with h | h
    · exact h
    · rw [List.getElem?_eq_none h] at hi'; cases hi'
  exact (List.getElem?_inj h1 hs.2.1).1 (hi'.trans hj'.symm)

section
variable {P : Program} {w : World} {mty kt et : TypeId} {z : Value} {f : Int → Value}

theorem look_run (hm : P.underlying mty = some (.map kt et)) (hd : P.underlying kt = some (.int .i64)) (hz : (zeroValue et).run P w = .ok z w) {v : Value} (h : MapV w v z f) (k : Int) :
    (Instr.lookup mty v (.int .i64 k) false).run P w = .ok (f k) w := by
  have hk : IsKey (.int .i64) (.int .i64 k) := rfl
  rcases h with ⟨rfl, h0⟩ | ⟨r, rfl, es, clock, hb, hs, hks, hv, hn⟩
  · have h1 : Instr.findNow (.int .i64) (.int .i64 k) [] 0 = some none := rfl
    simp [Instr.lookup, run_underlying hm, run_checkKey hd hk, run_findKey hd h1, hz, Result.andThen, h0 k]
  · rcases findNow_spec hk es.toList 0 hks with ⟨h1, h2⟩ | ⟨j, e, h1, h2, h3⟩
    · simp [Instr.lookup, run_underlying hm, MapKept.run_getObj_map hb, run_checkKey hd hk, run_findKey hd h1, hz, Result.andThen, hn k h2]
    · have he : e.val = f k := hv e (List.mem_of_getElem? h2) k h3
      simp [Instr.lookup, run_underlying hm, MapKept.run_getObj_map hb, run_checkKey hd hk, run_findKey hd h1, Result.andThen, he]

theorem entry_run (hm : P.underlying mty = some (.map kt et)) (hd : P.underlying kt = some (.int .i64)) (hz : (zeroValue et).run P w = .ok z w) {r : Nat} (h : MapR w r z f) (k : Int) :
    ∃ (old : Value) (st : Nat) (w1 : World), (Instr.mapEntry mty (.map (some r)) (.int .i64 k)).run P w = .ok (.tuple #[old, goInt (st : Int)]) w1 ∧ MidR w1 r z f k st ∧ w.grownBy w1 (some r) := by
  have hk : IsKey (.int .i64) (.int .i64 k) := rfl
  obtain ⟨es, clock, hb, hs, hks, hv, hn⟩ := h
  have hgr : ∀ o : Obj, w.grownBy { w with heap := w.heap.setIfInBounds r o } (some r) := fun o => ⟨rfl, rfl, rfl, by simp, fun i _ hi => (heap_set hb).2 i (fun e => hi (by rw [e]))⟩
  rcases findNow_spec hk es.toList 0 hks with ⟨h1, h2⟩ | ⟨j, e, h1, h2, h3⟩
  · refine ⟨z, clock, _, by simp [Instr.mapEntry, run_underlying hm, MapKept.run_getObj_map hb, run_checkKey hd hk, run_findKey hd h1, hz, MapKept.run_setObj_map _ hb, Result.andThen]; rfl, ?_, hgr _⟩
    refine ⟨_, _, (heap_set hb).1, stamped_push hs h2, ?_, ⟨es.size, { key := .int .i64 k, val := z, born := clock }, by simp, rfl, rfl⟩, ?_, ?_⟩
    · intro x hx
      simp only [Array.toList_push, List.mem_append, List.mem_singleton] at hx
      rcases hx with hx | rfl
      · exact hks x hx
      · exact hk
    · intro x hx k' hne hkx
      simp only [Array.toList_push, List.mem_append, List.mem_singleton] at hx
      rcases hx with hx | rfl
      · exact hv x hx k' hkx
      · simp at hkx
        exact absurd hkx.symm hne
    · intro k' hne hno
      exact hn k' (fun x hx => hno x (by simp [hx]))
  · have hj : es[j]? = some e := by simpa using h2
    have hkey : ∀ e', es[j]? = some e' → ({ e' with key := .int .i64 k } : MapEntry).key = e'.key := fun e' he' => by rw [hj] at he'; cases he'; exact h3.symm
    have hsame : es.modify j (fun e' => { e' with key := .int .i64 k }) = es := by
      apply Array.ext_getElem?
      intro q
      rw [Array.getElem?_modify]
      split
      · rename_i hq
        subst hq
        rw [hj]
        simp [← h3]
      · rfl
    refine ⟨e.val, e.born, _, by simp [Instr.mapEntry, run_underlying hm, MapKept.run_getObj_map hb, run_checkKey hd hk, run_findKey hd h1, hj, h3, run_keyThatStays hk, MapKept.run_setObj_map _ hb, Result.andThen]; rfl, ?_, hgr _⟩
    refine ⟨es, clock, by rw [hsame]; exact (heap_set hb).1, hs, hks, ⟨j, e, hj, h3, rfl⟩, fun x hx k' _ hkx => hv x hx k' hkx, fun k' _ hno => hn k' hno⟩

theorem store_run {r : Nat} {k : Int} {st : Nat} (h : MidR w r z f k st) (x : Value) :
    ∃ w1, (Instr.entryStore mty (.map (some r)) (goInt (st : Int)) x).run P w = .ok () w1 ∧ MapR w1 r z (upd f k x) ∧ w.grownBy w1 (some r) := by
  obtain ⟨es, clock, hb, hs, hks, ⟨i, e, hi, hk, hbo⟩, hv, hn⟩ := h
  have hgr : ∀ o : Obj, w.grownBy { w with heap := w.heap.setIfInBounds r o } (some r) := fun o => ⟨rfl, rfl, rfl, by simp, fun i _ hi => (heap_set hb).2 i (fun e => hi (by rw [e]))⟩
  have hf : es.findIdx? (fun e => (e.born : Int) == (st : Int)) = some i := by
    rw [Array.findIdx?_eq_some_iff_getElem]
    obtain ⟨hlt, he⟩ := Array.getElem?_eq_some_iff.1 hi
    refine ⟨hlt, by simp [he, hbo], fun j hj => ?_⟩
    simp only [beq_iff_eq]
    intro e2
    have hjl : j < es.size := by omega
    have := born_inj hs (i := j) (j := i) (e := es[j]) (e' := e) (by simp [hjl]) hi (by omega)
    omega
  refine ⟨_, by simp [Instr.entryStore, MapKept.run_getObj_map hb, asInt, asIntOf, goInt, hf, MapKept.run_setObj_map _ hb, Result.andThen]; rfl, ?_, hgr _⟩
  refine ⟨_, _, (heap_set hb).1, stamped_modify hs _ _ (fun _ _ => rfl) (fun _ _ _ => rfl), isKey_modify hks _ _ (fun _ _ => rfl), ?_, ?_⟩
  · intro y hy k' hky
    obtain ⟨q, hq⟩ := List.mem_iff_getElem?.1 hy
    simp only [Array.getElem?_toList, Array.getElem?_modify] at hq
    unfold upd
    split at hq
    · rename_i hiq
      subst hiq
      rw [hi] at hq
      simp at hq
      subst hq
      simp only at hky ⊢
      rw [hk] at hky
      simp at hky
      rw [if_pos hky.symm]
    · rename_i hiq
      have hne : k' ≠ k := fun e3 => hiq (key_inj hs hi hq (by rw [hk, hky, e3]))
      rw [if_neg hne]
      exact hv y (Array.mem_toList_iff.2 (Array.mem_of_getElem? hq)) k' hne hky
  · intro k' hno
    unfold upd
    have hne : k' ≠ k := by
      intro e3
      refine hno { e with val := x } (Array.mem_toList_iff.2 (Array.mem_of_getElem? (i := i) (by rw [Array.getElem?_modify, if_pos rfl, hi]; rfl))) ?_
      rw [e3]; exact hk
    rw [if_neg hne]
    refine hn k' hne (fun y hy hky => ?_)
    obtain ⟨q, hq⟩ := List.mem_iff_getElem?.1 hy
    simp only [Array.getElem?_toList] at hq
    by_cases hiq : i = q
    · subst hiq
      rw [hi] at hq
      cases hq
      rw [hk] at hky
      simp at hky
      exact hne hky.symm
    · exact hno y (Array.mem_toList_iff.2 (Array.mem_of_getElem? (i := q) (by rw [Array.getElem?_modify, if_neg hiq]; exact hq))) hky
end
end Go.Proofs.YtcbbaoiefdbcpaaDoor.Oct
