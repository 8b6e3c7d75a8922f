/- Which sectors have a byte that was put: a map gone through in any order, sorted. -/
import Derived.Test.YtibkhgmmjhlpmaaGreatPTyl
import Derived.Test.YtibkhgmmjhlpmaaGreatPShsort
import Derived.Maps.RangeRun
import Derived.Maps.Range
import Derived.Sort.OwnSortedInts
namespace Go.Proofs.YtibkhgmmjhlpmaaGreat.Oct
open Go.RowKit Go.Deep Go.Sort

set_option maxRecDepth 100000 in
set_option maxHeartbeats 1000000 in
theorem index_mark (w : World) (X : Nat) (l : List Int) (h : Sec w X 147 l) (v : Int) :
    Calls Tryz.prog 101 #[.slice (some ⟨X, 0, none⟩) 512 512, .int .u8 v] w fun e w' => (∃ i : Int, e = .returned (.int .i64 i) ∧ decide (0 ≤ i) = decide (v ∈ l)) ∧ Below w.heap.size w w' := by
  have HS := hide h
  have hlen := h.len
  clear h
  go_enter Tryz.func101, Tryz.ntmps101
  go_wp2_with fail
  go_loopw [8] (fun i wr => ∃ k : Nat, k ≤ 512 ∧ i = .int .i64 (k : Int) ∧ (∀ j, j < k → l.getD j 0 ≠ v) ∧ Below w.heap.size w wr) (fun i _ => 512 - (intOf i).toNat)
  case atStart => exact ⟨0, by omega, rfl, fun j hj => by omega, Below.refl _ _⟩
  case round =>
    obtain ⟨k, hk, rfl, hno, hb⟩ := hrel
    have HNo := hide hno
    have HB := hide hb
    have hlt := HS.out.lt
    clear hno
    by_cases h5 : k < 512
    · have c := (hb.cell (p := ⟨X, k, none⟩) hlt).trans (HS.out.cell k h5)
      obtain ⟨x, hx⟩ : ∃ x, x = l.getD k 0 := ⟨_, rfl⟩
      rw [← hx] at c
      have HX := hide hx
      clear hx hb
      by_cases hv : v = x
      · subst hv
        go_wp2_with fail
        go_ret
        refine ⟨⟨_, rfl, ?_⟩, HB.out⟩
        have h1 : v ∈ l := by
          rw [HX.out, List.getD_eq_getElem?_getD, List.getElem?_eq_getElem (by omega)]
          exact List.getElem_mem _
        simp [h1]
      · go_wp2_with fail
        refine ⟨⟨k + 1, by omega, by go_num, fun j hj => ?_, HB.out⟩, by simp [intOf]; omega⟩
        by_cases e : j = k
        · subst e
          rw [← HX.out]
          exact fun e => hv e.symm
        · exact HNo.out j (by omega)
    · obtain rfl : k = 512 := by omega
      go_wp2_with fail
      go_ret
      refine ⟨⟨-1, rfl, ?_⟩, HB.out⟩
      have h1 : ¬ v ∈ l := fun hm => by
        obtain ⟨j, hj, e⟩ := List.getElem_of_mem hm
        refine HNo.out j (by omega) ?_
        rw [List.getD_eq_getElem?_getD, List.getElem?_eq_getElem hj]
        exact e
      simp [h1]

set_option maxRecDepth 100000 in
theorem contains_mark (w : World) (X : Nat) (l : List Int) (h : Sec w X 147 l) (v : Int) :
    Calls Tryz.prog 90 #[.slice (some ⟨X, 0, none⟩) 512 512, .int .u8 v] w fun e w' => e = .returned (.bool (decide (v ∈ l))) ∧ Below w.heap.size w w' := by
  have HI := hide (index_mark w X l h v)
  clear h
  generalize decide (v ∈ l) = d at *
  go_enter Tryz.func90, Tryz.ntmps90
  go_wp2_with fail
  refine HI.out.mono ?_
  rintro e9 w2 ⟨⟨i, rfl, hi⟩, hb⟩
  have HB := hide hb
  have HI2 := hide hi
  clear hb hi
  go_wp2_with fail
  go_ret
  refine ⟨?_, HB.out⟩
  show Ending.returned (.bool (decide (0 ≤ i))) = _
  rw [HI2.out]

/-- A row of numbers of the call's own. -/
def OwnL (w : World) (B : Nat) (v : Value) (l : List Int) : Prop := w.ownsRow B 2 1 v l.length (l.map (Value.int .i64))
theorem OwnL.nil (w : World) (B : Nat) : OwnL w B (.slice none 0 0) [] := World.ownsRow_nil _ _ _ _
theorem info_L : (Tryz.prog.info? 2).map (fun i => (i.zero, i.size, i.bytes)) = some (some (.int .i64 0), 1, 8) := by kernel_rfl

/-- A step of a range over a map. -/
theorem next_map {w : World} {r bm clock c0 : Nat} {seen : Array Nat} {es : Array MapEntry} (ty : TypeId) (hr : w.heap[r]? = some (.mapIter (some bm) clock seen c0)) (hb : w.heap[bm]? = some (.map es clock)) (hs : MapKept.Stamped es clock) (hc : clock ≤ c0) :
    ((leftOf es seen).size = 0 ∧ (Instr.next (.pointer (some ⟨r, 0, none⟩)) false ty).run Tryz.prog w = .ok (.tuple #[.bool false]) w) ∨
    ∃ e ∈ es.toList, seen.contains e.born = false ∧ ∃ W : World, (Instr.next (.pointer (some ⟨r, 0, none⟩)) false ty).run Tryz.prog w = .ok (.tuple #[.bool true, e.key, e.val]) W ∧ (Instr.entry (.pointer (some ⟨r, 0, none⟩))).run Tryz.prog W = .ok (.tuple #[e.key, e.val]) W ∧
      W.heap[r]? = some (.mapIter (some bm) clock (seen.push e.born) clock) ∧ W.heap[bm]? = some (.map es clock) ∧ w.grownBy W (some r) ∧ W.heap.size = w.heap.size ∧ (leftOf es (seen.push e.born)).size < (leftOf es seen).size := by
  obtain ⟨hold, hnd, hkd⟩ := (MapKept.stamped_iff es clock).1 hs
  have hne : r ≠ bm := fun e => by rw [e, hb] at hr; cases hr
  rcases run_next_at (P := Tryz.prog) w ty r bm clock c0 seen es clock hr hb hold hc with ⟨h0, hrun⟩ | ⟨e, he, w1, hal, hrun⟩
  · exact Or.inl ⟨h0, hrun⟩
  · obtain ⟨hem, hes⟩ := mem_left he
    have hr1 : w1.heap[r]? = some (.mapIter (some bm) clock seen c0) := by rcases hal with rfl | rfl <;> exact hr
    have hb1 : w1.heap[bm]? = some (.map es clock) := by rcases hal with rfl | rfl <;> exact hb
    have hset := MapKept.heap_set (o' := .mapIter (some bm) clock (seen.push e.born) clock) hr1
    have hb' : (ChangeMaps.setBlock w1 r (.mapIter (some bm) clock (seen.push e.born) clock)).heap[bm]? = some (.map es clock) := (hset.2 bm (fun e1 => hne e1.symm)).trans hb1
    refine Or.inr ⟨e, hem, hes, _, hrun, run_entry_at _ r bm clock seen es clock e hset.1 hb' hem hnd, hset.1, hb', ?_, ?_, left_shrinks es seen e he⟩
    · rcases hal with rfl | rfl <;> exact ⟨rfl, rfl, rfl, by simp [ChangeMaps.setBlock], fun i _ hi => hset.2 i (fun e1 => hi (by rw [e1]))⟩
    · rcases hal with rfl | rfl <;> simp [ChangeMaps.setBlock]

theorem nodup_le : ∀ (N : Nat) (L : List Int), L.Nodup → (∀ x ∈ L, 0 ≤ x ∧ x < (N : Int)) → L.length ≤ N
  | 0, L, _, h => by
    cases L with
    | nil => simp
    | cons x L => have := h x (List.mem_cons_self ..); omega
  | N + 1, L, hn, h => by
    have ih := nodup_le N (L.erase (N : Int)) (hn.erase _) (fun x hx => by
      have h1 := (hn.mem_erase_iff).1 hx
      have h2 := h x h1.2
      have : x ≠ (N : Int) := h1.1
      omega)
    by_cases hm : (N : Int) ∈ L
    · rw [List.length_erase_of_mem hm] at ih
      omega
    · rw [List.erase_of_not_mem hm] at ih
      omega

theorem rise_eq : ∀ (a b : List Int), a.Pairwise (· < ·) → b.Pairwise (· < ·) → (∀ x, x ∈ a ↔ x ∈ b) → a = b
  | [], b, _, _, h => by
    cases b with
    | nil => rfl
    | cons y b => exact absurd ((h y).2 (List.mem_cons_self ..)) (by simp)
  | x :: a, [], _, _, h => absurd ((h x).1 (List.mem_cons_self ..)) (by simp)
  | x :: a, y :: b, ha, hb, h => by
    obtain ⟨ha1, ha2⟩ := List.pairwise_cons.1 ha
    obtain ⟨hb1, hb2⟩ := List.pairwise_cons.1 hb
    have hxy : x = y := by
      have h1 := (h x).1 (List.mem_cons_self ..)
      have h2 := (h y).2 (List.mem_cons_self ..)
      rcases List.mem_cons.1 h1 with e | e
      · exact e
      · rcases List.mem_cons.1 h2 with e2 | e2
        · exact e2.symm
        · have := hb1 x e; have := ha1 y e2; omega
    subst hxy
    rw [rise_eq a b ha2 hb2 (fun z => ?_)]
    have hz := h z
    simp only [List.mem_cons] at hz
    constructor
    · intro hm
      rcases hz.1 (Or.inr hm) with e | e
      · subst e; have := ha1 z hm; omega
      · exact e
    · intro hm
      rcases hz.2 (Or.inr hm) with e | e
      · subst e; have := hb1 z hm; omega
      · exact e

/-- The sectors of which a byte was put, rising. -/
def secsM (M : Int → List Int) : List Int := ((List.range 8192).map (fun n : Nat => (n : Int))).filter (fun s => decide (2 ∈ M s))

theorem secsM_mem (M : Int → List Int) (s : Int) : s ∈ secsM M ↔ (0 ≤ s ∧ s < 8192) ∧ 2 ∈ M s := by
  unfold secsM
  rw [List.mem_filter, List.mem_map]
  constructor
  · rintro ⟨⟨n, hn, rfl⟩, h⟩
    have := List.mem_range.1 hn
    exact ⟨by omega, of_decide_eq_true h⟩
  · rintro ⟨h1, h2⟩
    exact ⟨⟨s.toNat, List.mem_range.2 (by omega), by omega⟩, decide_eq_true h2⟩

theorem secsM_rise (M : Int → List Int) : (secsM M).Pairwise (· < ·) := by
  unfold secsM
  refine List.Pairwise.filter _ ?_
  rw [List.pairwise_map]
  exact List.pairwise_lt_range.imp (fun h => by omega)

/-- What is sorted is they. -/
theorem secsM_sorted {M : Int → List Int} {L : List Int} (hn : L.Nodup) (h : ∀ x, x ∈ L ↔ (0 ≤ x ∧ x < 8192) ∧ 2 ∈ M x) : L.mergeSort (fun x y => decide (x ≤ y)) = secsM M := by
  have hp := List.mergeSort_perm L (fun x y => decide (x ≤ y))
  have hso := List.pairwise_mergeSort (le := fun x y : Int => decide (x ≤ y)) (fun a b c h1 h2 => by simp at *; omega) (fun a b => by simp; omega) L
  refine rise_eq _ _ ?_ (secsM_rise M) (fun x => by rw [hp.mem_iff, h, secsM_mem])
  have hnd : (L.mergeSort (fun x y => decide (x ≤ y))).Nodup := hp.nodup_iff.2 hn
  refine (hso.and hnd).imp (fun {a b} h => ?_)
  have h1 := h.1
  have h2 : a ≠ b := h.2
  simp at h1
  omega
end Go.Proofs.YtibkhgmmjhlpmaaGreat.Oct
