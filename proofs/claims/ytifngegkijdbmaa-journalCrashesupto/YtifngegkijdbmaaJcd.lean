/- Records that came in; rows of the document's records; a part of bytes. -/
import Derived.Test.YtifngegkijdbmaaJxp
import Derived.Test.YtifngegkijdbmaaOpen
import Derived.Test.YtifngegkijdbmaaRef
import Derived.Lib.SmallJoins
import Derived.Deep.Slices
namespace Go.Proofs.Ytifngegkijdbmaa.Oct
open Go.RowKit Go.Deep Go.ChangeShapes Go.WideShapes Go.ChangeAt

theorem cellsR2 : Try.prog.cellsOf 2 = 1 := by kernel_rfl
theorem cellsRB : Try.prog.cellsOf 22 = 1 := by kernel_rfl
theorem cellsRR : Try.prog.cellsOf 53 = 2 := by kernel_rfl

theorem spot_ofR {W : World} {a : Addr} {cs : List Value} (h1 : W.cells? 0 (a.add 0) 2 = some cs) : a.spot = none := by
  obtain ⟨_, hlen, hcell⟩ := World.cells?_some h1
  match cs, hlen with
  | [v0, v1], _ =>
    have q0 := hcell 0 (by omega)
    obtain ⟨b, off, spot⟩ := a
    simpa [Addr.add] using World.cell?_spot q0

def RecAt (w : World) (b off : Nat) (r : JR) : Prop := w.cell? ⟨b, off, none⟩ = some (.int .i64 r.at_) ∧ w.cell? ⟨b, off + 1, none⟩ = some (.slice r.a r.b.length r.cap) ∧ Sl w r.a r.cap r.b

set_option maxRecDepth 100000 in
theorem rec_of {H : Type} {enc : TypeId × Value → H} {W : World} {n : Nat} {b off : Nat} {i : Nat} {cs : List Value} {x : DataW H × List MemPlace}
    (h1 : W.cells? 0 ((⟨b, off, none⟩ : Addr).add (i * 2)) 2 = some cs) (h2 : DataW.trod enc Try.prog W 0 (fun _ => true) true n 53 cs = some x) :
    ∃ r : JR, RecAt W b (off + i * 2) r ∧ r.fit := by
  obtain ⟨_, hlen, hcell⟩ := World.cells?_some h1
  obtain ⟨xs, m, _, _, _, hlen2, hall⟩ := DataW.trod_struct Try.underlying53 h2
  match xs, hlen2 with
  | [y0, y1], _ =>
  match cs, hlen with
  | [v0, v1], _ =>
    have g0 := hall 0 _ rfl
    have g1 := hall 1 _ rfl
    simp [cellsR2] at g0
    simp [cellsRB] at g1
    obtain ⟨k0, e0, w0⟩ := open_int_trod Try.underlying2 g0
    obtain ⟨a3, c3, l3, e3, _, hb3, _, hs3⟩ := open_bytes_trod g1
    have q0 := hcell 0 (by omega)
    have q1 := hcell 1 (by omega)
    subst e0 e3
    rw [add_plain, add_plain] at q0 q1
    exact ⟨⟨k0, a3, c3, l3⟩, ⟨q0, q1, hs3⟩, wf_i64 w0, hb3⟩

set_option maxRecDepth 100000 in
theorem open_recs_trod {H : Type} {enc : TypeId × Value → H} {W : World} {fuel : Nat} {v : Value} {x : DataW H × List MemPlace}
    (hf : DataW.trod enc Try.prog W 0 (fun _ => true) true fuel 23 [v] = some x) :
    ∃ a cap L, v = .slice a (List.length L) cap ∧ L.length ≤ maxLen ∧ (∀ r ∈ L, JR.fit r) ∧ LiesJ W a L := by
  rcases open_slice Try.underlying23 hf with ⟨hcs, _⟩ | ⟨a, len, cap, m, n, D, Pl, hcs, _, hl, hm, hmm, _, hx⟩
  · simp at hcs
    subst hcs
    exact ⟨none, 0, [], rfl, by simp, fun r hr => (by cases hr), Or.inl rfl⟩
  · simp at hcs
    subst hcs
    simp only [if_true] at hmm
    rw [cellsRR] at hx
    by_cases h0 : len = 0
    · subst h0
      exact ⟨some a, cap, [], rfl, by simp, fun r hr => (by cases hr), Or.inl rfl⟩
    haveI : Inhabited JR := ⟨JR.z⟩
    have hs : a.spot = none := by
      obtain ⟨cs', h1, _⟩ := hx 0 (by omega)
      exact spot_ofR (by simpa using h1)
    obtain ⟨b, off, spot⟩ := a
    simp only at hs
    subst hs
    obtain ⟨q, hq⟩ := choose_lt (α := JR) (p := fun i o => RecAt W b (off + i * 2) o ∧ o.fit) (fun i (hi : i < m) => by
      obtain ⟨cs', h1, h2⟩ := hx i hi
      exact rec_of h1 h2)
    obtain ⟨L, hL⟩ : ∃ L, L = (List.range len).map q := ⟨_, rfl⟩
    have hlen : L.length = len := by rw [hL]; simp
    have hget : ∀ r, r < len → L.getD r JR.z = q r := fun r hr => by rw [hL]; simp [hr]
    refine ⟨some ⟨b, off, none⟩, cap, L, by rw [hlen], by omega, fun r hr => ?_, Or.inr ⟨b, off, rfl, lt_of_cell (hq 0 (by omega)).1.1, fun r hr => ?_⟩⟩
    · rw [hL] at hr
      obtain ⟨k, hk, rfl⟩ := List.mem_map.1 hr
      exact (hq k (by have := List.mem_range.1 hk; omega)).2
    · rw [hget r (by omega)]; exact (hq r (by omega)).1

set_option maxRecDepth 100000 in
theorem open_recs {H : Type} {enc : TypeId × Value → H} {W : World} {base : Nat} {v : Value} {d : DataW H} {ps : List MemPlace}
    (hok : Value.okWide Try.prog W .any base 23 v) (h : DataW.Trod enc Try.prog W 0 (fun _ => true) true 23 v d ps) :
    ∃ a cap L, v = .slice a (List.length L) cap ∧ L.length ≤ maxLen ∧ (∀ r ∈ L, JR.fit r) ∧ LiesJ W a L := by
  obtain ⟨a0, len, cap, rfl⟩ := okWide_slice Try.underlying23 hok
  obtain ⟨fuel, hf⟩ := h
  exact open_recs_trod (by simpa [Value.cells] using hf)

/-- A record's bytes lie apart from a row. -/
def FarQ (w : World) (v : Value) (r : JR) : Prop := Sl w r.a r.cap r.b ∧ (r.b ≠ [] → ∃ x, r.a = some x ∧ x.block < w.heap.size ∧ v.ownBlock ≠ some x.block)

/-- A row of the document's records, of the call's own. -/
structure OwnQ (w : World) (B : Nat) (v : Value) (R : List JR) : Prop where
  row : w.ownsRow B 54 2 v R.length (R.flatMap JR.cells)
  far : ∀ r ∈ R, FarQ w v r

theorem FarQ.below {w w' : World} {v : Value} {r : JR} (h : FarQ w v r) (hb : Below w.heap.size w w') : FarQ w' v r :=
  ⟨h.1.below hb, fun hn => by
    obtain ⟨x, h1, h3, h4⟩ := h.2 hn
    exact ⟨x, h1, Nat.lt_of_lt_of_le h3 hb.size, h4⟩⟩

theorem OwnQ.below {w w' : World} {B : Nat} {v : Value} {R : List JR} (h : OwnQ w B v R) (hb : Below w.heap.size w w') : OwnQ w' B v R :=
  ⟨World.ownsRow.kept (row := none) h.row ⟨hb.os, hb.tape, hb.output, hb.size, fun k hk _ => hb.block k hk⟩ (by cases v.ownBlock <;> simp), fun r hr => (h.far r hr).below hb⟩

theorem OwnQ.form {w : World} {B : Nat} {v : Value} {R : List JR} (h : OwnQ w B v R) : ∃ a c, v = .slice a R.length c ∧ LiesJ w a R ∧ R.length ≤ c ∧ c ≤ maxLen := by
  have hr := h.row
  rcases hr.2 with ⟨rfl, hn⟩ | ⟨g, cap, cur, rfl, hB, hg, hnc, hcm, _⟩
  · have hR : R = [] := List.length_eq_zero_iff.1 hn
    subst hR
    exact ⟨none, 0, rfl, Or.inl rfl, by simp, by unfold maxLen; omega⟩
  · have hlt := (Array.getElem?_eq_some_iff.1 hg).1
    refine ⟨some ⟨g, 0, none⟩, cap, rfl, ?_, hnc, hcm⟩
    by_cases h0 : R = []
    · exact Or.inl h0
    refine Or.inr ⟨g, 0, rfl, hlt, fun k hk => ?_⟩
    have e : ∀ j, j < 2 → w.cell? ⟨g, 0 + k * 2 + j, none⟩ = (R.getD k JR.z).cells[j]? := by
      intro j hj
      rw [Nat.zero_add, World.ownsRow.cellAt hr _ (by omega)]
      exact flatK R k j hk hj
    refine ⟨e 0 (by omega), e 1 (by omega), (h.far _ ?_).1⟩
    have : R.getD k JR.z = R[k] := by simp [hk]
    rw [this]
    exact List.getElem_mem _

theorem OwnQ.nil (w : World) (B : Nat) : OwnQ w B (.slice none 0 0) [] := ⟨World.ownsRow_nil _ _ _ _, fun r hr => by cases hr⟩

/-- A record behind others. -/
theorem OwnQ.append {w w' : World} {B : Nat} {v v' : Value} {R : List JR} {r : JR} (h : OwnQ w B v R) (hr : FarQ w v r) (ho : w'.ownsRow B 54 2 v' (R.length + 1) (R.flatMap JR.cells ++ r.cells)) (hg : w.grownBy w' v.ownBlock) (hw : v'.ownBlock = v.ownBlock ∨ v'.ownBlock = some w.heap.size) : OwnQ w' B v' (R ++ [r]) := by
  have hfar : ∀ x, FarQ w v x → FarQ w' v' x := fun x hx => by
    refine ⟨?_, fun hne => ?_⟩
    · by_cases hne : x.b = []
      · exact ⟨hx.1.le, hx.1.max, hx.1.none, by rw [hne]; exact Lies.nil _ _⟩
      · obtain ⟨y, h1, h3, h4⟩ := hx.2 hne
        exact ⟨hx.1.le, hx.1.max, hx.1.none, hx.1.lies.grown hg (fun z hz => by rw [h1] at hz; cases hz; exact fun e => h4 e.symm)⟩
    · obtain ⟨y, h1, h3, h4⟩ := hx.2 hne
      refine ⟨y, h1, Nat.lt_of_lt_of_le h3 hg.size, fun e => ?_⟩
      rcases hw with h | h
      · exact h4 (h ▸ e)
      · rw [h] at e
        have e' : w.heap.size = y.block := by simpa using e
        omega
  refine ⟨by rw [List.flatMap_append, List.length_append]; simpa using ho, fun x hx => ?_⟩
  rcases List.mem_append.1 hx with hx | hx
  · exact hfar x (h.far x hx)
  · simp at hx
    subst hx
    exact hfar _ hr

theorem info_rec5 : (Try.prog.info? 54).map (fun i => (i.zero, i.size, i.bytes)) = some (some (.agg #[.int .i64 0, .slice none 0 0]), 2, 32) := by kernel_rfl

set_option maxRecDepth 100000 in
set_option maxHeartbeats 2000000 in
/-- A part of bytes that is there, behind which there is room. -/
theorem Part_in (a : Option Addr) (cap : Nat) (l : List Int) (p n : Nat) (w : World) (hlen : l.length ≤ 1000000) (hs : Sl w a cap l) (hp : p + n ≤ l.length) (hn : 0 < n) :
    Calls Try.prog 45 #[.slice a l.length cap, .int .i64 p, .int .i64 n] w fun e w' => ∃ v, e = .returned v ∧ Own w' w.heap.size v ((l.drop p).take n) ∧ Below w.heap.size w w' := by
  rcases hs.lies with h0 | ⟨b, off, rfl, hb, hc⟩
  · rw [h0] at hp; simp at hp; omega
  have hcap := hs.le
  have hmax := hs.max
  have HL := hide (Lies.of_part (Lies.mk hc) p n)
  have hpl : ((l.drop p).take n).length = n := by simp; omega
  have HPl := hide hpl
  have hcc : ¬ cap = p := by omega
  unfold maxLen at hmax
  clear hs hc hpl
  go_enter Try.func45, Try.ntmps45
  go_wp2_with (at_builtin; refine wpList_append_bytes rfl _ _ 22 rfl Try.underlying22 info5 w.heap.size _ [] rfl (by exact Own.nil _ _) _ _ _ ((l.drop p).take n) rfl (by rw [HPl.out]; omega) (by exact HL.out) (by rw [HPl.out]; simp; omega) (by exact Nat.le_refl _) ?_; intro v4 w4 ho4 hg4)
  go_ret
  exact ⟨_, rfl, ho4, Own.behind (Own.nil _ _) (Below.refl _ _) hg4 (Nat.le_refl _)⟩

theorem Sl_cap {w : World} {a : Option Addr} {cap : Nat} {l : List Int} (hs : Sl w a cap l) (h0 : a = none) : cap = 0 := hs.none h0

set_option maxRecDepth 100000 in
set_option maxHeartbeats 2000000 in
/-- A part of no bytes. -/
theorem Part_nil (a : Option Addr) (cap : Nat) (l : List Int) (p : Nat) (w : World) (hlen : l.length ≤ 1000000) (hs : Sl w a cap l) (hp : p ≤ l.length) :
    Calls Try.prog 45 #[.slice a l.length cap, .int .i64 p, .int .i64 0] w fun e w' => e = .returned (.slice none 0 0) ∧ w' = w := by
  have hcap := hs.le
  have hmax := hs.max
  have hno := hs.none
  unfold maxLen at hmax
  cases a with
  | none =>
    have hz := hno rfl
    subst hz
    have hl0 : l.length = 0 := by omega
    have hp0 : p = 0 := by omega
    subst hp0
    rw [hl0]
    clear hs hno
    go_enter Try.func45, Try.ntmps45
    go_wp2_with fail
    go_ret
    exact ⟨rfl, rfl⟩
  | some x =>
    clear hs hno
    by_cases hc : cap = p
    · subst hc
      go_enter Try.func45, Try.ntmps45
      go_wp2_with fail
      go_ret
      exact ⟨rfl, rfl⟩
    · go_enter Try.func45, Try.ntmps45
      go_wp2_with fail
      go_ret
      exact ⟨rfl, rfl⟩
end Go.Proofs.Ytifngegkijdbmaa.Oct
