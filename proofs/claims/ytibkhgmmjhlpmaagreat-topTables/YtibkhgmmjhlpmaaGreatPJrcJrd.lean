/- All records out of bytes. -/
import Derived.Test.YtibkhgmmjhlpmaaGreatPJpmJraJrbJbk
import Derived.Test.YtibkhgmmjhlpmaaGreatPRdLowWrLst
import Derived.Maps.AppendAt
import Derived.Laws.OwnMore
namespace Go.Proofs.YtibkhgmmjhlpmaaGreat.Oct
open Go.RowKit Go.Deep

/-- The record at a place, if there is one. -/
def decO (l : List Int) (p : Nat) : Option RD :=
  if p + 12 ≤ l.length ∧ num l p 8 ≤ 4194304 ∧ num l (p + 8) 4 ≤ (l.length : Int) - (p + 12) then some (num l p 8, (l.drop (p + 12)).take (num l (p + 8) 4).toNat) else none

set_option maxRecDepth 100000 in
set_option maxHeartbeats 4000000 in
theorem decodeOne_any (a : Option Addr) (cap : Nat) (l : List Int) (p : Nat) (w : World) (hlen : l.length ≤ 1000000) (hb : Byts l) (hs : Sl w a cap l) (hp : p ≤ 1000000) :
    Calls Tryz.prog 106 #[.slice a l.length cap, .int .i64 p] w fun e w' => Below w.heap.size w w' ∧
      ((decO l p = none ∧ e = .returned (.tuple #[.agg #[.int .i64 0, .slice none 0 0], .bool false])) ∨
       (∃ r v, decO l p = some r ∧ e = .returned (.tuple #[.agg #[.int .i64 r.1, v], .bool true]) ∧ Own w' w.heap.size v r.2)) := by
  have HS := hide hs
  have HBy := hide hb
  have HU8 := fun u (hu : Lies u a l) => hide (U64_any a cap l p u (by unfold maxLen; omega) hb hu (by omega) (by omega))
  have HU4 := fun u (hu : Lies u a l) => hide (U32_any a cap l ((p : Int) + 8) u (by unfold maxLen; omega) hb hu (by omega) (by omega))
  have HBx := hide (Blk.new w #[.int .i64 0, .slice none 0 0] 125)
  have hb0 : Below w.heap.size w (w.alloc (.cells #[.int .i64 0, .slice none 0 0] 125)) := (Below.refl _ _).alloc (Nat.le_refl _) _
  have HB := hide hb0
  have HS1 := hide (hs.below hb0)
  clear hs hb hb0
  by_cases h12 : p + 12 ≤ l.length
  · have e8 : numAt l (p : Int) 8 = num l p 8 := numAt_yes (by omega)
    have t8 : thereB l.length (p : Int) 8 = true := thereB_yes (by omega) (by omega) (by omega)
    have c8 : ((p + 8 : Nat) : Int) = (p : Int) + 8 := by omega
    have e4 : numAt l ((p : Int) + 8) 4 = num l (p + 8) 4 := by rw [← c8]; exact numAt_yes (by omega)
    have t4 : thereB l.length ((p : Int) + 8) 4 = true := thereB_yes (by omega) (by omega) (by omega)
    have b8 := num_lt l p HBy.out 8
    have b4 := num_lt l (p + 8) HBy.out 4
    rw [e8, t8] at HU8
    rw [e4, t4] at HU4
    obtain ⟨x, hx⟩ : ∃ x, num l p 8 = x := ⟨_, rfl⟩
    obtain ⟨y, hy⟩ : ∃ y, num l (p + 8) 4 = y := ⟨_, rfl⟩
    rw [hx] at HU8 b8
    rw [hy] at HU4 b4
    have HD : Hid (decO l p = if x ≤ 4194304 ∧ y ≤ (l.length : Int) - (p + 12) then some (x, (l.drop (p + 12)).take y.toNat) else none) := hide (by
      unfold decO
      rw [hx, hy]
      by_cases hc : x ≤ 4194304 ∧ y ≤ (l.length : Int) - (p + 12)
      · rw [if_pos ⟨h12, hc⟩, if_pos hc]
      · rw [if_neg (fun e => hc e.2), if_neg hc])
    have hb8 : x < 18446744073709551616 := by have := b8.2; simpa using this
    have hb4 : y < 4294967296 := by have := b4.2; simpa using this
    obtain ⟨hx0, _⟩ := b8
    obtain ⟨hy0, _⟩ := b4
    clear e8 t8 e4 t4 hx hy c8
    by_cases hxm : x ≤ 4194304
    · have hd1 : decide (4194304 < x) = false := by simp; omega
      have hwx : wrap64 x = x := by unfold wrap64; omega
      have hwy : wrap64 y = y := by unfold wrap64; omega
      obtain ⟨n, rfl⟩ := Int.eq_ofNat_of_zero_le hy0
      by_cases hyl : p + 12 + n ≤ l.length
      · have HSl := fun u (hu : Sl u a cap l) => hide (Slice_yes a cap l (p + 12) n u hlen hu (by omega))
        have c12 : ((p + 12 : Nat) : Int) = (p : Int) + 12 := by omega
        rw [c12] at HSl
        have HQL : Hid (((l.drop (p + 12)).take n).length = n) := hide (by simp; omega)
        have HDn : Hid (decO l p = some (x, (l.drop (p + 12)).take n)) := hide (by
          rw [HD.out, if_pos ⟨hxm, by omega⟩]
          rfl)
        generalize (l.drop (p + 12)).take n = q at *
        go_enter Tryz.func106, Tryz.ntmps106
        go_wp2_with fail
        generalize w.alloc (.cells #[.int .i64 0, .slice none 0 0] 125) = w1 at *
        refine ((HU8 _ HS1.out.lies).out).mono ?_
        rintro e9 w2 ⟨rfl, rfl⟩
        go_wp2_with fail
        refine ((HU4 _ HS1.out.lies).out).mono ?_
        rintro e9 w3 ⟨rfl, rfl⟩
        go_wp2_with fail
        refine ((HSl _ HS1.out).out).mono ?_
        rintro e9 w4 ⟨v, rfl, ho4, hb4⟩
        have HX4 := hide (HBx.out.below hb4)
        have HB4 := hide (HB.out.trans (hb4.mono HB.out.size))
        have hbs := HBx.out.lt
        obtain ⟨av, cv, rfl, _⟩ := ho4.form
        rw [HQL.out] at ho4 ⊢
        have c0 := HX4.out.cell 0 _ rfl
        have c1 := HX4.out.cell 1 _ rfl
        have f0 := HX4.out.frozen 0
        have f1 := HX4.out.frozen 1
        have HG4 : Hid (∀ z, Own ((w4.setCell ⟨w.heap.size, 0, none⟩ (.int .i64 x)).setCell ⟨w.heap.size, 1, none⟩ z) w.heap.size (.slice av n cv) q) := hide (fun z => (ho4.chg ((((Chg.refl (fun k => k = w.heap.size) w4).setCell w.heap.size 0 (.int .i64 x) (fun _ => rfl))).setCell w.heap.size 1 z (fun _ => rfl)) (fun g hg e => by
          have := (ho4.lt g hg).1
          omega)).mono (by omega))
        clear ho4 hb4
        go_wp2_with fail
        refine bodyPost_ret (ret_agg rfl _ _ w.heap.size #[.int .i64 x, .slice av n cv] _ rfl rfl (run_loadVar_row _ w.heap.size 125 125 _ (0, 0) _ ((HX4.out.set 0 _).set 1 _) Tryz.underlying125 rfl (by kernel_rfl))) rfl ?_
        refine ⟨(HB4.out.setCell (p := ⟨w.heap.size, 0, none⟩) (Nat.le_refl _) _).setCell (p := ⟨w.heap.size, 1, none⟩) (Nat.le_refl _) _, Or.inr ⟨(x, q), _, HDn.out, rfl, HG4.out _⟩⟩
      · have HSn := fun u => hide (Slice_no a l.length cap ((p : Int) + 12) n u (by unfold maxLen; omega) (by omega) (by omega) (by omega))
        go_enter Tryz.func106, Tryz.ntmps106
        go_wp2_with fail
        generalize w.alloc (.cells #[.int .i64 0, .slice none 0 0] 125) = w1 at *
        refine ((HU8 _ HS1.out.lies).out).mono ?_
        rintro e9 w2 ⟨rfl, rfl⟩
        go_wp2_with fail
        refine ((HU4 _ HS1.out.lies).out).mono ?_
        rintro e9 w3 ⟨rfl, rfl⟩
        go_wp2_with fail
        refine ((HSn _).out).mono ?_
        rintro e9 w4 ⟨rfl, rfl⟩
        have c0 := HBx.out.cell 0 _ rfl
        have c1 := HBx.out.cell 1 _ rfl
        have f0 := HBx.out.frozen 0
        have f1 := HBx.out.frozen 1
        go_wp2_with fail
        refine bodyPost_ret (ret_agg rfl _ _ w.heap.size #[.int .i64 0, .slice none 0 0] _ rfl rfl (run_loadVar_row _ w.heap.size 125 125 _ (0, 0) _ ((HBx.out.set 0 _).set 1 _) Tryz.underlying125 rfl (by kernel_rfl))) rfl ?_
        refine ⟨(HB.out.setCell (p := ⟨w.heap.size, 0, none⟩) (Nat.le_refl _) _).setCell (p := ⟨w.heap.size, 1, none⟩) (Nat.le_refl _) _, Or.inl ⟨?_, rfl⟩⟩
        rw [HD.out, if_neg (by omega)]
    · have hd1 : decide (4194304 < x) = true := by simp; omega
      go_enter Tryz.func106, Tryz.ntmps106
      go_wp2_with fail
      generalize w.alloc (.cells #[.int .i64 0, .slice none 0 0] 125) = w1 at *
      refine ((HU8 _ HS1.out.lies).out).mono ?_
      rintro e9 w2 ⟨rfl, rfl⟩
      go_wp2_with fail
      refine ((HU4 _ HS1.out.lies).out).mono ?_
      rintro e9 w3 ⟨rfl, rfl⟩
      have c0 := HBx.out.cell 0 _ rfl
      have c1 := HBx.out.cell 1 _ rfl
      have f0 := HBx.out.frozen 0
      have f1 := HBx.out.frozen 1
      go_wp2_with fail
      refine bodyPost_ret (ret_agg rfl _ _ w.heap.size #[.int .i64 0, .slice none 0 0] _ rfl rfl (run_loadVar_row _ w.heap.size 125 125 _ (0, 0) _ ((HBx.out.set 0 _).set 1 _) Tryz.underlying125 rfl (by kernel_rfl))) rfl ?_
      refine ⟨(HB.out.setCell (p := ⟨w.heap.size, 0, none⟩) (Nat.le_refl _) _).setCell (p := ⟨w.heap.size, 1, none⟩) (Nat.le_refl _) _, Or.inl ⟨?_, rfl⟩⟩
      rw [HD.out, if_neg (by omega)]
  · have t4 : thereB l.length ((p : Int) + 8) 4 = false := thereB_no (by omega)
    rw [t4] at HU4
    have HD : Hid (decO l p = none) := hide (by unfold decO; rw [if_neg (fun e => h12 e.1)])
    generalize numAt l ((p : Int) + 8) 4 = y at *
    generalize numAt l (p : Int) 8 = x at *
    generalize thereB l.length (p : Int) 8 = t at *
    clear t4
    go_enter Tryz.func106, Tryz.ntmps106
    go_wp2_with fail
    generalize w.alloc (.cells #[.int .i64 0, .slice none 0 0] 125) = w1 at *
    refine ((HU8 _ HS1.out.lies).out).mono ?_
    rintro e9 w2 ⟨rfl, rfl⟩
    go_wp2_with fail
    refine ((HU4 _ HS1.out.lies).out).mono ?_
    rintro e9 w3 ⟨rfl, rfl⟩
    have c0 := HBx.out.cell 0 _ rfl
    have c1 := HBx.out.cell 1 _ rfl
    have f0 := HBx.out.frozen 0
    have f1 := HBx.out.frozen 1
    go_wp2_with fail
    refine bodyPost_ret (ret_agg rfl _ _ w.heap.size #[.int .i64 0, .slice none 0 0] _ rfl rfl (run_loadVar_row _ w.heap.size 125 125 _ (0, 0) _ ((HBx.out.set 0 _).set 1 _) Tryz.underlying125 rfl (by kernel_rfl))) rfl ?_
    exact ⟨(HB.out.setCell (p := ⟨w.heap.size, 0, none⟩) (Nat.le_refl _) _).setCell (p := ⟨w.heap.size, 1, none⟩) (Nat.le_refl _) _, Or.inl ⟨HD.out, rfl⟩⟩
end Go.Proofs.YtibkhgmmjhlpmaaGreat.Oct

namespace Go.Proofs.YtibkhgmmjhlpmaaGreat.Oct
open Go.RowKit Go.Deep

def JR.cells (r : JR) : List Value := [.int .i64 r.at_, .slice r.a r.b.length r.cap]

/-- A record's bytes lie in a block of their own. -/
def FarJ (w : World) (B : Nat) (v : Value) (r : JR) : Prop := Sl w r.a r.cap r.b ∧ (r.b ≠ [] → ∃ g, r.a = some ⟨g, 0, none⟩ ∧ B ≤ g ∧ g < w.heap.size ∧ v.ownBlock ≠ some g)

/-- A row of records of the call's own. -/
structure OwnK (w : World) (B : Nat) (v : Value) (R : List JR) : Prop where
  row : w.ownsRow B 125 2 v R.length (R.flatMap JR.cells)
  far : ∀ r ∈ R, FarJ w B v r

theorem OwnK.below {w w' : World} {B : Nat} {v : Value} {R : List JR} (h : OwnK w B v R) (hb : Below w.heap.size w w') : OwnK w' B v R :=
  ⟨World.ownsRow.kept (row := none) h.row ⟨hb.os, hb.tape, hb.output, hb.size, fun k hk _ => hb.block k hk⟩ (by cases v.ownBlock <;> simp),
   fun r hr => ⟨(h.far r hr).1.below hb, fun hn => by
    obtain ⟨g, h1, h2, h3, h4⟩ := (h.far r hr).2 hn
    exact ⟨g, h1, h2, Nat.lt_of_lt_of_le h3 hb.size, h4⟩⟩⟩

theorem flatK (R : List JR) (k j : Nat) (hk : k < R.length) (hj : j < 2) : (R.flatMap JR.cells)[k * 2 + j]? = (R.getD k JR.z).cells[j]? := by
  induction R generalizing k with
  | nil => simp at hk
  | cons r R ih =>
    cases k with
    | zero =>
      simp only [List.flatMap_cons, Nat.zero_mul, Nat.zero_add]
      rw [List.getElem?_append_left (by simp [JR.cells]; omega)]
      simp
    | succ k =>
      simp only [List.flatMap_cons]
      rw [List.getElem?_append_right (by simp [JR.cells]; omega)]
      have := ih k (by simpa using hk)
      simp only [List.getD_cons_succ]
      rw [← this]
      congr 1
      simp [JR.cells]
      omega

theorem OwnK.form {w : World} {B : Nat} {v : Value} {R : List JR} (h : OwnK w B v R) : ∃ a c, v = .slice a R.length c ∧ LiesJ w a R ∧ R.length ≤ c ∧ c ≤ maxLen ∧ (∀ x, a = some x → B ≤ x.block ∧ x.block < w.heap.size) := by
  have hr := h.row
  rcases hr.2 with ⟨rfl, hn⟩ | ⟨g, cap, cur, rfl, hB, hg, hnc, hcm, _⟩
  · have hR : R = [] := List.length_eq_zero_iff.1 hn
    subst hR
    exact ⟨none, 0, rfl, Or.inl rfl, by simp, by unfold maxLen; omega, fun x hx => by cases hx⟩
  · have hlt := (Array.getElem?_eq_some_iff.1 hg).1
    refine ⟨some ⟨g, 0, none⟩, cap, rfl, ?_, hnc, hcm, fun x hx => by cases hx; exact ⟨hB, hlt⟩⟩
    by_cases h0 : R = []
    · exact Or.inl h0
    refine Or.inr ⟨g, 0, rfl, hlt, fun k hk => ?_⟩
    have e : ∀ j, j < 2 → w.cell? ⟨g, 0 + k * 2 + j, none⟩ = (R.getD k JR.z).cells[j]? := by
      intro j hj
      rw [Nat.zero_add, World.ownsRow.cellAt hr _ (by omega)]
      exact flatK R k j hk hj
    refine ⟨e 0 (by omega), e 1 (by omega), (h.far _ ?_).1⟩
    have : R.getD k JR.z = R[k] := by simp [hk]
    rw [this]
    exact List.getElem_mem _

theorem info_rec : (Tryz.prog.info? 125).map (fun i => (i.zero, i.size, i.bytes)) = some (some (.agg #[.int .i64 0, .slice none 0 0]), 2, 32) := by kernel_rfl

/-- So many records, from the first on; and where they end. -/
def decM (l : List Int) : Nat → Option (List RD × Nat)
  | 0 => some ([], 0)
  | k + 1 => match decM l k with
    | none => none
    | some (D, p) => match decO l p with
      | none => none
      | some r => some (D ++ [r], p + (12 + r.2.length))

/-- All of bytes, as so many records. -/
def decD (l : List Int) (n : Int) : Option (List RD) :=
  if n > (l.length : Int) / 12 then none else match decM l n.toNat with
    | none => none
    | some (D, p) => if p = l.length then some D else none

theorem decO_end {l : List Int} {p : Nat} {r : RD} (h : decO l p = some r) : p + (12 + r.2.length) ≤ l.length := by
  unfold decO at h
  split at h
  · rename_i hc
    simp at h
    subst h
    simp
    omega
  · cases h

theorem decM_end {l : List Int} : ∀ {k : Nat} {D : List RD} {p : Nat}, decM l k = some (D, p) → p ≤ l.length ∧ D.length = k
  | 0, D, p, h => by
    simp [decM] at h
    obtain ⟨rfl, rfl⟩ := h
    simp
  | k + 1, D, p, h => by
    rw [decM] at h
    split at h
    · cases h
    · rename_i D' p' hm
      split at h
      · cases h
      · rename_i r hr
        simp at h
        have := decO_end hr
        have := decM_end hm
        obtain ⟨rfl, rfl⟩ := h
        simp
        omega

theorem decM_none {l : List Int} {k : Nat} (h : decM l k = none) : ∀ m, k ≤ m → decM l m = none
  | 0, hm => by
    obtain rfl : k = 0 := by omega
    exact h
  | m + 1, hm => by
    by_cases he : k = m + 1
    · subst he; exact h
    · rw [decM, decM_none h m (by omega)]

theorem new2J (w : World) (t : TypeId) (x y : Value) : ∀ (j : Nat) (u : Value), [x, y][j]? = some u → (w.alloc (.cells #[x, y] t)).cell? ((⟨w.heap.size, 0, none⟩ : Addr).add j) = some u := by
  obtain ⟨h0, h1⟩ := box2 w t x y
  intro j u hj
  rw [Go.WideShapes.add_plain, Nat.zero_add]
  match j, hj with
  | 0, hj => simp at hj; subst hj; exact h0
  | 1, hj => simp at hj; subst hj; exact h1

set_option maxRecDepth 100000 in
set_option maxHeartbeats 8000000 in
theorem Decode_neg (a : Option Addr) (cap : Nat) (l : List Int) (n : Int) (w : World) (hlen : l.length ≤ 1000000) (hn : n < 0) :
    Calls Tryz.prog 99 #[.slice a l.length cap, .int .i64 n] w fun e w' => Below w.heap.size w w' ∧
      ((decD l n = none ∧ e = .returned (.tuple #[.slice none 0 0, .int .i64 11])) ∨
       (∃ R v, decD l n = some (R.map JR.dat) ∧ e = .returned (.tuple #[v, .int .i64 0]) ∧ OwnK w' w.heap.size v R)) := by
  obtain ⟨i1, hi, hz0, hz1, hz2⟩ := info_parts info_rec
  have hq : (l.length : Int).tdiv 12 = (l.length : Int) / 12 := Int.tdiv_eq_ediv_of_nonneg (by omega)
  have hd : decide ((l.length : Int) / 12 < n) = false := by simp; omega
  have HDd : Hid (decD l n = if l.length = 0 then some [] else none) := hide (by
    unfold decD
    rw [if_neg (by omega), show n.toNat = 0 by omega]
    simp only [decM]
    by_cases h0 : l.length = 0
    · rw [if_pos h0.symm, if_pos h0]
    · rw [if_neg (fun e => h0 e.symm), if_neg h0])
  have hmk : (Instr.makeSlice 90 (.int .i64 0) (.int .i64 0)).run Tryz.prog w = .ok (.slice (some ⟨w.heap.size, 0, none⟩) 0 0) (w.alloc (.cells (madeCells #[.int .i64 0, .slice none 0 0] (0 * 2)) 125)) := by
    have h := run_make (P := Tryz.prog) w 90 125 i1 (.agg #[.int .i64 0, .slice none 0 0]) Tryz.underlying90 hi hz0 .i64 .i64 0 0 (by omega) (by omega) (by rw [hz2]; omega) (by omega)
    simpa [hz1, Value.cells] using h
  have HO0 : Hid (OwnK (w.alloc (.cells (madeCells #[.int .i64 0, .slice none 0 0] (0 * 2)) 125)) w.heap.size (.slice (some ⟨w.heap.size, 0, none⟩) 0 0) []) := hide ⟨World.ownsRow_made w _ 0 (Nat.le_refl _) (by unfold maxLen; omega) (size_madeCells _ _), fun r hr => by cases hr⟩
  have HB0 := hide ((Below.refl w.heap.size w).alloc (Nat.le_refl _) (.cells (madeCells #[.int .i64 0, .slice none 0 0] (0 * 2)) 125))
  generalize w.alloc (.cells (madeCells #[.int .i64 0, .slice none 0 0] (0 * 2)) 125) = w1 at *
  have hmx : max n 0 = 0 := by omega
  by_cases h0 : l.length = 0
  · rw [h0]
    rw [h0] at hq hd
    have HZ := hide h0
    clear h0
    go_enter Tryz.func99, Tryz.ntmps99
    go_wp2_with fail
    refine wp_loop_rounds 1 ?_
    rw [rounds_succ]
    go_wp2_with fail
    go_ret2
    exact ⟨HB0.out, Or.inr ⟨[], _, by rw [HDd.out, if_pos HZ.out]; rfl, rfl, HO0.out⟩⟩
  · have h1 : ((0 : Int) != (l.length : Int)) = true := by simp; omega
    have h2 : ¬ ((0 : Int) = (l.length : Int)) := by omega
    go_enter Tryz.func99, Tryz.ntmps99
    go_wp2_with fail
    refine wp_loop_rounds 1 ?_
    rw [rounds_succ]
    go_wp2_with fail
    go_ret2
    exact ⟨HB0.out, Or.inl ⟨by rw [HDd.out, if_neg h0], rfl⟩⟩

set_option maxRecDepth 100000 in
set_option maxHeartbeats 8000000 in
theorem Decode_nat (a : Option Addr) (cap : Nat) (l : List Int) (c : Nat) (w : World) (hlen : l.length ≤ 1000000) (hb : Byts l) (hs : Sl w a cap l) (hcm : c ≤ 9223372036854775807) :
    Calls Tryz.prog 99 #[.slice a l.length cap, .int .i64 c] w fun e w' => Below w.heap.size w w' ∧
      ((decD l c = none ∧ e = .returned (.tuple #[.slice none 0 0, .int .i64 11])) ∨
       (∃ R v, decD l c = some (R.map JR.dat) ∧ e = .returned (.tuple #[v, .int .i64 0]) ∧ OwnK w' w.heap.size v R)) := by
  have HDo := fun (p : Nat) (hp : p ≤ 1000000) u (hu : Sl u a cap l) => hide (decodeOne_any a cap l p u hlen hb hu hp)
  have HS := hide hs
  obtain ⟨i1, hi, hz0, hz1, hz2⟩ := info_parts info_rec
  clear hs hb
  have hq : (l.length : Int).tdiv 12 = (l.length : Int) / 12 := Int.tdiv_eq_ediv_of_nonneg (by omega)
  by_cases hbig : (c : Int) > (l.length : Int) / 12
  · have HD : Hid (decD l c = none) := hide (by unfold decD; rw [if_pos hbig])
    have hd : decide ((l.length : Int) / 12 < (c : Int)) = true := by simp; omega
    have HB := hide (Below.refl w.heap.size w)
    go_enter Tryz.func99, Tryz.ntmps99
    go_wp2_with fail
    go_ret2
    exact ⟨HB.out, Or.inl ⟨HD.out, rfl⟩⟩
  have hd : decide ((l.length : Int) / 12 < (c : Int)) = false := by simp; omega
  have HDd : Hid (decD l c = match decM l c with | none => none | some (D, p) => if p = l.length then some D else none) := hide (by unfold decD; rw [if_neg hbig, Int.toNat_natCast])
  have hcl : c ≤ 1000000 := by omega
  have hmk : (Instr.makeSlice 90 (.int .i64 0) (.int .i64 (c : Int))).run Tryz.prog w = .ok (.slice (some ⟨w.heap.size, 0, none⟩) 0 c) (w.alloc (.cells (madeCells #[.int .i64 0, .slice none 0 0] (c * 2)) 125)) := by
    have h := run_make (P := Tryz.prog) w 90 125 i1 (.agg #[.int .i64 0, .slice none 0 0]) Tryz.underlying90 hi hz0 .i64 .i64 0 (c : Int) (by omega) (by omega) (by rw [hz2]; omega) (by omega)
    simpa [hz1, Value.cells] using h
  have HO0 : Hid (OwnK (w.alloc (.cells (madeCells #[.int .i64 0, .slice none 0 0] (c * 2)) 125)) w.heap.size (.slice (some ⟨w.heap.size, 0, none⟩) 0 c) []) := hide ⟨World.ownsRow_made w _ c (Nat.le_refl _) (by unfold maxLen; omega) (size_madeCells _ _), fun r hr => by cases hr⟩
  have HB0 := hide ((Below.refl w.heap.size w).alloc (Nat.le_refl _) (.cells (madeCells #[.int .i64 0, .slice none 0 0] (c * 2)) 125))
  generalize w.alloc (.cells (madeCells #[.int .i64 0, .slice none 0 0] (c * 2)) 125) = w1 at *
  have hmx : max (c : Int) 0 = c := by omega
  go_enter Tryz.func99, Tryz.ntmps99
  go_wp2_with fail
  clear hmk
  go_loopw [6, 7, 19] (fun v t i wr => ∃ (k p : Nat) (R : List JR), k ≤ c ∧ i = .int .i64 (k : Int) ∧ t = .int .i64 (p : Int) ∧ decM l k = some (R.map JR.dat, p) ∧ OwnK wr w.heap.size v R ∧ Below w.heap.size w wr) (fun _ _ i _ => c - (intOf i).toNat)
  case atStart => exact ⟨0, 0, [], by omega, rfl, rfl, rfl, HO0.out, HB0.out⟩
  case round =>
    obtain ⟨k, p, R, hk, rfl, rfl, hdm, ho, hbel⟩ := hrel
    have hpe := (decM_end hdm).1
    have hRl := (decM_end hdm).2
    have HDm := hide hdm
    have HO := hide ho
    have HB := hide hbel
    have HStep : Hid (decM l (k + 1) = match decO l p with | none => none | some r => some (R.map JR.dat ++ [r], p + (12 + r.2.length))) := hide (by rw [decM, hdm])
    clear hdm hbel
    by_cases hlt : k < c
    · have HDk := hide ((HDo p (by omega) _ (HS.out.below HB.out)).out)
      go_wp2_with fail
      refine HDk.out.mono ?_
      rintro e9 w2 ⟨hb2, ⟨hno, rfl⟩ | ⟨r, vr, hyes, rfl, hor⟩⟩
      · have HNo : Hid (decD l c = none) := hide (by
          have h1 : decM l (k + 1) = none := by rw [HStep.out, hno]
          rw [HDd.out, decM_none h1 c (by omega)])
        have HB2 := hide (HB.out.trans (hb2.mono HB.out.size))
        clear hb2
        go_wp2_with fail
        go_ret2
        exact ⟨HB2.out.alloc HB2.out.size _, Or.inl ⟨HNo.out, rfl⟩⟩
      · have HYes : Hid (decM l (k + 1) = some (R.map JR.dat ++ [r], p + (12 + r.2.length))) := hide (by rw [HStep.out, hyes])
        have hpe2 := decO_end hyes
        have HB2 := hide (HB.out.trans (hb2.mono HB.out.size))
        obtain ⟨ar, cr, rfl, hslr, hgr⟩ := hor.sl
        obtain ⟨r1, r2⟩ := r
        simp only at *
        have HF2 : Hid (FarJ w2 w.heap.size u6 ⟨r1, ar, cr, r2⟩) := hide ⟨hslr, fun hne => by
          obtain ⟨g, h1, h2, h3⟩ := hgr hne
          refine ⟨g, h1, Nat.le_trans HB.out.size h2, h3, fun e => ?_⟩
          have := (World.ownsRow.lt ho.row g e).2
          omega⟩
        have HO2 := hide (HO.out.below hb2)
        have hb3 : Below w2.heap.size w2 ((w2.alloc (.cells #[.int .i64 r1, .slice ar r2.length cr] 125)).alloc (.cells #[.int .i64 r1, .slice ar r2.length cr] 125)) := ((Below.refl w2.heap.size w2).alloc (Nat.le_refl _) _).alloc (by simp) _
        have HO3 := hide (HO2.out.below hb3)
        have HB3 := hide (HB2.out.trans (hb3.mono HB2.out.size))
        have HF3 : Hid (FarJ ((w2.alloc (.cells #[.int .i64 r1, .slice ar r2.length cr] 125)).alloc (.cells #[.int .i64 r1, .slice ar r2.length cr] 125)) w.heap.size u6 ⟨r1, ar, cr, r2⟩) := hide ⟨HF2.out.1.below hb3, fun hne => by
          obtain ⟨g, h1, h2, h3, h4⟩ := HF2.out.2 hne
          exact ⟨g, h1, h2, Nat.lt_of_lt_of_le h3 hb3.size, h4⟩⟩
        have HN3 := hide (new2J (w2.alloc (.cells #[.int .i64 r1, .slice ar r2.length cr] 125)) 125 (.int .i64 r1) (.slice ar r2.length cr))
        have hs3 : (w2.alloc (.cells #[.int .i64 r1, .slice ar r2.length cr] 125)).heap.size = w2.heap.size + 1 := by simp
        rw [hs3] at HN3
        have hbx : Blk ((w2.alloc (.cells #[.int .i64 r1, .slice ar r2.length cr] 125)).alloc (.cells #[.int .i64 r1, .slice ar r2.length cr] 125)) w2.heap.size #[.int .i64 r1, .slice ar r2.length cr] 125 := (Blk.new w2 #[.int .i64 r1, .slice ar r2.length cr] 125).below ((Below.refl _ _).alloc (Nat.le_refl _) _)
        have HNe : Hid (some w2.heap.size ≠ u6.ownBlock) := hide (fun e => by
          have := (World.ownsRow.lt HO2.out.row _ e.symm).2
          omega)
        have HC1 := hide (hbx.cell 1 _ rfl)
        clear hb2 hb3 hs3 hslr hgr hor ho hbx
        go_wp2_with (at_builtin; refine wpList_append_own_at _ rfl (.tmp 29) (.tmp 31) 90 rfl w.heap.size 125 i1 (.agg #[.int .i64 0, .slice none 0 0]) 2 32 Tryz.underlying90 hi hz0 hz1 hz2 rfl (by decide) u6 R.length (R.flatMap JR.cells) rfl HO3.out.row ⟨w2.heap.size + 1, 0, none⟩ 1 1 [.int .i64 r1, .slice ar r2.length cr] rfl rfl HN3.out (by simp [Value.oneCell']) (by have := hRl; simp at this; unfold maxLen; omega) (by have := hRl; simp at this; omega) HB3.out.size ?_; intro v5 w5 ho5 hg5 _ hw5; have HO5 := hide ho5; have HG5 := hide hg5; have HW5 := hide hw5; have c5 := hg5.cell (a := ⟨w2.heap.size, 1, none⟩) HC1.out HNe.out; clear ho5 hg5 hw5)
        have hb5 := HB3.out.grown HG5.out HB3.out.size (fun q hq => (World.ownsRow.lt HO3.out.row q hq).1)
        have hfar : ∀ x, FarJ ((w2.alloc (.cells #[.int .i64 r1, .slice ar r2.length cr] 125)).alloc (.cells #[.int .i64 r1, .slice ar r2.length cr] 125)) w.heap.size u6 x → FarJ w5 w.heap.size v5 x := fun x hx => by
          refine ⟨?_, fun hne => ?_⟩
          · by_cases hne : x.b = []
            · exact ⟨hx.1.le, hx.1.max, hx.1.none, by rw [hne]; exact Lies.nil _ _⟩
            · obtain ⟨g, h1, h2, h3, h4⟩ := hx.2 hne
              exact ⟨hx.1.le, hx.1.max, hx.1.none, hx.1.lies.grown HG5.out (fun y hy => by rw [h1] at hy; cases hy; exact fun e => h4 e.symm)⟩
          · obtain ⟨g, h1, h2, h3, h4⟩ := hx.2 hne
            refine ⟨g, h1, h2, Nat.lt_of_lt_of_le h3 HG5.out.size, fun e => ?_⟩
            rcases HW5.out with h | h
            · exact h4 (h ▸ e)
            · rw [h] at e
              cases e
              omega
        refine ⟨⟨k + 1, p + (12 + r2.length), R ++ [⟨r1, ar, cr, r2⟩], by omega, by congr 1 <;> omega, by congr 1 <;> omega, by rw [HYes.out, List.map_append]; rfl, ⟨by rw [List.flatMap_append, List.length_append]; exact HO5.out, fun x hx => ?_⟩, hb5⟩, by simp [intOf]; omega⟩
        rcases List.mem_append.1 hx with hx | hx
        · exact hfar x (HO3.out.far x hx)
        · simp at hx
          subst hx
          exact hfar _ HF3.out
    · obtain rfl : k = c := by omega
      by_cases hpl : p = l.length
      · have h1 : ((p : Int) != (l.length : Int)) = false := by simp; omega
        have HFin : Hid (decD l k = some (R.map JR.dat)) := hide (by rw [HDd.out, HDm.out]; simp only; rw [if_pos hpl])
        subst hpl
        go_wp2_with fail
        go_ret2
        exact ⟨HB.out, Or.inr ⟨R, _, HFin.out, rfl, HO.out⟩⟩
      · have h1 : ((p : Int) != (l.length : Int)) = true := by simp; omega
        have h2 : ¬ ((p : Int) = (l.length : Int)) := by omega
        have HFin : Hid (decD l k = none) := hide (by rw [HDd.out, HDm.out]; simp only; rw [if_neg hpl])
        go_wp2_with fail
        go_ret2
        exact ⟨HB.out, Or.inl ⟨HFin.out, rfl⟩⟩
end Go.Proofs.YtibkhgmmjhlpmaaGreat.Oct
