/- What came in, opened: a case, and what is cut; how much of it there is. -/
import Derived.Test.YtifngegkijdbmaaJcd
import Derived.Test.YtifngegkijdbmaaJxd
import Derived.Test.YtifngegkijdbmaaCrs
import Derived.Test.YtifngegkijdbmaaRows
namespace Go.Proofs.Ytifngegkijdbmaa.Oct
open Go.RowKit Go.Deep Go.WideShapes Go.ChangeShapes Go.ChangeAt

theorem bulk_pos {H : Type} (d : DataW H) : 1 ≤ Rows.uptoBulk d := by
  cases d with
  | lit l => cases l <;> simp [Rows.uptoBulk]
  | _ => simp [Rows.uptoBulk]

theorem bulk_len {H : Type} (l : List (DataW H)) : l.length ≤ Rows.uptoBulkAll l := by
  induction l with
  | nil => simp [Rows.uptoBulkAll]
  | cons x r ih =>
    have := bulk_pos x
    simp only [Rows.uptoBulkAll, List.length_cons]
    omega

theorem slice_bulk {H : Type} {enc : TypeId × Value → H} {W : World} {fuel : Nat} {t e : TypeId} {a : Option Addr} {n cap : Nat} {x : DataW H × List MemPlace} (ht : Try.prog.underlying t = some (.slice e))
    (hf : DataW.trod enc Try.prog W 0 (fun _ => true) true fuel t [.slice a n cap] = some x) : n ≤ Rows.uptoBulk x.1 := by
  rcases open_slice ht hf with ⟨hcs, _⟩ | ⟨a', len, cap', m, k, D, Pl, hcs, _, hl, hm, hmm, hx, _⟩
  · simp at hcs
    omega
  · simp at hcs
    obtain ⟨rfl, rfl, rfl⟩ := hcs
    rw [hx]
    have := bulk_len ((List.range n).map D)
    simp only [Rows.uptoBulk, List.length_map, List.length_range] at *
    omega

theorem recs_sum {H : Type} (q : Nat → JR) (D : Nat → DataW H) : ∀ l : List Nat, (∀ i ∈ l, (q i).b.length ≤ Rows.uptoBulk (D i)) → lenD ((l.map q).map JR.dat) ≤ 13 * Rows.uptoBulkAll (l.map D)
  | [], _ => by simp [lenD]
  | i :: l, h => by
    have h1 := recs_sum q D l (fun j hj => h j (List.mem_cons_of_mem _ hj))
    have h2 := h i (List.mem_cons_self ..)
    have h3 := bulk_pos (D i)
    simp only [List.map_cons, lenD, List.sum_cons, JR.dat, Rows.uptoBulkAll] at *
    omega

set_option maxRecDepth 100000 in
theorem rec_ofB {H : Type} {enc : TypeId × Value → H} {W : World} {n : Nat} {b off : Nat} {i : Nat} {cs : List Value} {x : DataW H × List MemPlace}
    (h1 : W.cells? 0 ((⟨b, off, none⟩ : Addr).add (i * 2)) 2 = some cs) (h2 : DataW.trod enc Try.prog W 0 (fun _ => true) true n 53 cs = some x) :
    ∃ r : JR, RecAt W b (off + i * 2) r ∧ r.fit ∧ r.b.length ≤ Rows.uptoBulk x.1 := by
  obtain ⟨_, hlen, hcell⟩ := World.cells?_some h1
  obtain ⟨xs, m, _, hx, _, hlen2, hall⟩ := DataW.trod_struct Try.underlying53 h2
  match xs, hlen2 with
  | [y0, y1], _ =>
  match cs, hlen with
  | [v0, v1], _ =>
    have g0 := hall 0 _ rfl
    have g1 := hall 1 _ rfl
    simp [cellsR2] at g0
    simp [cellsRB] at g1
    obtain ⟨k0, e0, w0⟩ := open_int_trod Try.underlying2 g0
    obtain ⟨a3, c3, l3, e3, _, hb3, _, hs3⟩ := open_bytes_trod g1
    have q0 := hcell 0 (by omega)
    have q1 := hcell 1 (by omega)
    subst e0 e3
    have hbk := slice_bulk Try.underlying22 g1
    rw [add_plain, add_plain] at q0 q1
    refine ⟨⟨k0, a3, c3, l3⟩, ⟨q0, q1, hs3⟩, ⟨wf_i64 w0, hb3⟩, ?_⟩
    rw [hx]
    simp only [Rows.uptoBulk, List.map_cons, List.map_nil, Rows.uptoBulkAll]
    omega

set_option maxRecDepth 100000 in
theorem open_recsB {H : Type} {enc : TypeId × Value → H} {W : World} {fuel : Nat} {v : Value} {x : DataW H × List MemPlace}
    (hf : DataW.trod enc Try.prog W 0 (fun _ => true) true fuel 23 [v] = some x) :
    ∃ a cap L, v = .slice a (List.length L) cap ∧ (∀ r ∈ L, JR.fit r) ∧ LiesJ W a L ∧ L.length ≤ Rows.uptoBulk x.1 ∧ lenD (L.map JR.dat) ≤ 13 * Rows.uptoBulk x.1 := by
  rcases open_slice Try.underlying23 hf with ⟨hcs, _⟩ | ⟨a, len, cap, m, n, D, Pl, hcs, _, hl, hm, hmm, hxx, hx⟩
  · simp at hcs
    subst hcs
    exact ⟨none, 0, [], rfl, fun r hr => (by cases hr), Or.inl rfl, by simp, by simp [lenD]⟩
  · simp at hcs
    subst hcs
    simp only [if_true] at hmm
    rw [cellsRR] at hx
    by_cases h0 : len = 0
    · subst h0
      exact ⟨some a, cap, [], rfl, fun r hr => (by cases hr), Or.inl rfl, by simp, by simp [lenD]⟩
    haveI : Inhabited JR := ⟨JR.z⟩
    have hs : a.spot = none := by
      obtain ⟨cs', h1, _⟩ := hx 0 (by omega)
      exact spot_ofR (by simpa using h1)
    obtain ⟨b, off, spot⟩ := a
    simp only at hs
    subst hs
    obtain ⟨q, hq⟩ := choose_lt (α := JR) (p := fun i o => RecAt W b (off + i * 2) o ∧ o.fit ∧ o.b.length ≤ Rows.uptoBulk (D i)) (fun i (hi : i < m) => by
      obtain ⟨cs', h1, h2⟩ := hx i hi
      exact rec_ofB h1 h2)
    obtain ⟨L, hL⟩ : ∃ L, L = (List.range len).map q := ⟨_, rfl⟩
    have hlen : L.length = len := by rw [hL]; simp
    have hget : ∀ r, r < len → L.getD r JR.z = q r := fun r hr => by rw [hL]; simp [hr]
    refine ⟨some ⟨b, off, none⟩, cap, L, by rw [hlen], fun r hr => ?_, Or.inr ⟨b, off, rfl, lt_of_cell (hq 0 (by omega)).1.1, fun r hr => ?_⟩, by rw [hlen]; exact slice_bulk Try.underlying23 hf, ?_⟩
    · rw [hL] at hr
      obtain ⟨k, hk, rfl⟩ := List.mem_map.1 hr
      exact (hq k (by have := List.mem_range.1 hk; omega)).2.1
    · rw [hget r (by omega)]; exact (hq r (by omega)).1
    · have h := recs_sum q D (List.range len) (fun i hi => (hq i (by have := List.mem_range.1 hi; omega)).2.2)
      rw [hL, hxx]
      simp only [Rows.uptoBulk]
      omega

theorem arr5 {cs : Array Value} (h : cs.size = 5) : ∃ c0 c1 c2 c3 c4, cs = #[c0, c1, c2, c3, c4] := by
  obtain ⟨l⟩ := cs
  match l, h with
  | [a, b, c, d, e], _ => exact ⟨a, b, c, d, e, rfl⟩

theorem arr2 {cs : Array Value} (h : cs.size = 2) : ∃ c0 c1, cs = #[c0, c1] := by
  obtain ⟨l⟩ := cs
  match l, h with
  | [a, b], _ => exact ⟨a, b, rfl⟩

theorem cellsCase : Try.prog.cellsOf 25 = 5 := by kernel_rfl
theorem cellsCut : Try.prog.cellsOf 28 = 2 := by kernel_rfl
theorem cellsI : Try.prog.cellsOf 3 = 1 := by kernel_rfl
theorem cellsRs : Try.prog.cellsOf 23 = 1 := by kernel_rfl
theorem cellsBs : Try.prog.cellsOf 26 = 1 := by kernel_rfl
theorem cellsB1 : Try.prog.cellsOf 4 = 1 := by kernel_rfl

set_option maxRecDepth 100000 in
theorem open_case {H : Type} {enc : TypeId × Value → H} {W : World} {base : Nat} {v : Value} {d : DataW H} {p : List MemPlace}
    (hv : Value.okWide Try.prog W .any base 25 v) (h : DataW.Trod enc Try.prog W 0 (fun _ => true) true 25 v d p) :
    ∃ x : CaseV, v = .agg x.cells ∧ Sl W x.fa x.fc x.fl ∧ Byts x.fl ∧ LiesJ W x.ra x.R ∧ (∀ r ∈ x.R, JR.fit r) ∧ x.fl.length ≤ Rows.uptoBulk d ∧ x.R.length ≤ Rows.uptoBulk d ∧ lenD (x.R.map JR.dat) ≤ 13 * Rows.uptoBulk d := by
  obtain ⟨cs, rfl, hsz⟩ := okWide_struct Try.underlying25 hv
  obtain ⟨c0, c1, c2, c3, c4, rfl⟩ := arr5 (hsz.trans cellsCase)
  obtain ⟨fuel, hf⟩ := h
  obtain ⟨xs, n, _, hx, _, hlen, hall⟩ := DataW.trod_struct Try.underlying25 hf
  match xs, hlen with
  | [y0, y1, y2, y3, y4], _ =>
    have h0 := hall 0 _ rfl
    have h1 := hall 1 _ rfl
    have h2 := hall 2 _ rfl
    have h3 := hall 3 _ rfl
    have h4 := hall 4 _ rfl
    simp [Value.cells, cellsI] at h0 h2 h3
    simp [Value.cells, cellsRB] at h1
    simp [Value.cells, cellsRs] at h4
    obtain ⟨x0, q0, _, w0⟩ := DataW.trod_int Try.underlying3 h0
    obtain ⟨x2, q2, _, w2⟩ := DataW.trod_int Try.underlying3 h2
    obtain ⟨x3, q3, _, w3⟩ := DataW.trod_int Try.underlying3 h3
    obtain ⟨a1, k1, l1, q1, _, hb1, _, hs1⟩ := open_bytes_trod h1
    obtain ⟨a4, k4, l4, q4, hf4, hl4, hn4, hd4⟩ := open_recsB h4
    simp at q0 q2 q3
    subst q0 q1 q2 q3 q4
    have hbk := slice_bulk Try.underlying22 h1
    have hd : d = .agg [y0.1, y1.1, y2.1, y3.1, y4.1] := by simpa using congrArg Prod.fst hx
    refine ⟨⟨x0, a1, k1, l1, x2, x3, a4, k4, l4⟩, rfl, hs1, hb1, hl4, hf4, ?_, ?_, ?_⟩
    all_goals
      rw [hd]
      simp only [Rows.uptoBulk, Rows.uptoBulkAll]
      omega

set_option maxRecDepth 100000 in
theorem open_boolsB {H : Type} {enc : TypeId × Value → H} {W : World} {fuel : Nat} {v : Value} {x : DataW H × List MemPlace}
    (hf : DataW.trod enc Try.prog W 0 (fun _ => true) true fuel 26 [v] = some x) :
    ∃ a cap L, v = .slice a (List.length L) cap ∧ LiesB W a L := by
  rcases open_slice1 Try.underlying26 cellsB1 hf with ⟨hcs, _⟩ | ⟨a, len, cap, m, n, V, D, Pl, hcs, _, hl, hm, hmm, _, hx⟩
  · simp at hcs
    subst hcs
    exact ⟨none, 0, [], rfl, Or.inl rfl⟩
  · simp at hcs
    subst hcs
    simp only [if_true] at hmm
    by_cases h0 : len = 0
    · subst h0
      exact ⟨some a, cap, [], rfl, Or.inl rfl⟩
    obtain ⟨b, off, spot⟩ := a
    have hs : spot = none := by simpa [Addr.add] using World.cell?_spot (hx 0 (by omega)).1
    subst hs
    obtain ⟨q, hq⟩ := choose_lt (α := Bool) (p := fun i x => W.cell? ⟨b, off + i, none⟩ = some (.bool x)) (fun i (hi : i < m) => by
      obtain ⟨h1, h2⟩ := hx i hi
      obtain ⟨x, hb, _⟩ := DataW.trod_bool Try.underlying4 h2
      simp at hb
      rw [hb, add_plain] at h1
      exact ⟨x, h1⟩)
    obtain ⟨L, hL⟩ : ∃ L, L = (List.range len).map q := ⟨_, rfl⟩
    have hlen : L.length = len := by rw [hL]; simp
    have hget : ∀ r, r < len → L.getD r false = q r := fun r hr => by rw [hL]; simp [hr]
    refine ⟨some ⟨b, off, none⟩, cap, L, by rw [hlen], Or.inr ⟨b, off, rfl, lt_of_cell (hq 0 (by omega)), fun r hr => ?_⟩⟩
    rw [hget r (by omega)]
    exact hq r (by omega)

set_option maxRecDepth 100000 in
theorem open_cut {H : Type} {enc : TypeId × Value → H} {W : World} {base : Nat} {v : Value} {d : DataW H} {p : List MemPlace}
    (hv : Value.okWide Try.prog W .any base 28 v) (h : DataW.Trod enc Try.prog W 0 (fun _ => true) true 28 v d p) :
    ∃ (o : Int) (a : Option Addr) (c : Nat) (k : List Bool), v = .agg #[.int .i64 o, .slice a k.length c] ∧ LiesB W a k := by
  obtain ⟨cs, rfl, hsz⟩ := okWide_struct Try.underlying28 hv
  obtain ⟨c0, c1, rfl⟩ := arr2 (hsz.trans cellsCut)
  obtain ⟨fuel, hf⟩ := h
  obtain ⟨xs, n, _, _, _, hlen, hall⟩ := DataW.trod_struct Try.underlying28 hf
  match xs, hlen with
  | [y0, y1], _ =>
    have h0 := hall 0 _ rfl
    have h1 := hall 1 _ rfl
    simp [Value.cells, cellsI] at h0
    simp [Value.cells, cellsBs] at h1
    obtain ⟨x0, q0, _, w0⟩ := DataW.trod_int Try.underlying3 h0
    obtain ⟨a1, k1, l1, q1, hl1⟩ := open_boolsB h1
    simp at q0
    subst q0 q1
    exact ⟨x0, a1, k1, l1, rfl, hl1⟩
end Go.Proofs.Ytifngegkijdbmaa.Oct
