/- The bytes of the volume of 128 blocks. -/
import Derived.Test.YtjmajjfknmjifaaDoorPEzk
namespace Go.Proofs.YtjmajjfknmjifaaDoor.Oct
open Go.RowKit

theorem VarX.chg {X : Nat → Prop} {w w' : World} (h : VarX w) (hc : Chg X w w') (h0 : ¬ X 0) : VarX w' := fun i hi => ⟨hc.cell (h i hi).1 h0, hc.cell (h i hi).2 h0⟩
theorem VarX.lt {w : World} (h : VarX w) : 0 < w.heap.size := lt_of_cell h.all.1

/-- The bytes, as they are laid one behind the other. -/
def mkX (F1 F2 : List Int) : Nat → List Int
  | 0 => List.replicate 131072 0
  | 1 => spB s1 (mkX F1 F2 0) 1024
  | 2 => rwB r1 (mkX F1 F2 1) 2048
  | 3 => over (mkX F1 F2 2) 3072 F1
  | 4 => over (mkX F1 F2 3) 4096 F2
  | 5 => rootB (mkX F1 F2 4) 5248 7 5
  | 6 => dotB (dotB (mkX F1 F2 5) 7168 12 [46]) 7180 1012 [46, 46]
  | _ + 7 => []

theorem mkX_len (F1 F2 : List Int) (h1 : F1.length = 1024) (h2 : F2.length = 1024) : ∀ k, k ≤ 6 → (mkX F1 F2 k).length = 131072
  | 0, _ => by rw [mkX]; exact List.length_replicate
  | 1, _ => by rw [mkX, spB_len]; exact mkX_len F1 F2 h1 h2 0 (by omega)
  | 2, _ => by rw [mkX, rwB_len]; exact mkX_len F1 F2 h1 h2 1 (by omega)
  | 3, _ => by rw [mkX, over_length (by rw [mkX_len F1 F2 h1 h2 2 (by omega), h1]; omega)]; exact mkX_len F1 F2 h1 h2 2 (by omega)
  | 4, _ => by rw [mkX, over_length (by rw [mkX_len F1 F2 h1 h2 3 (by omega), h2]; omega)]; exact mkX_len F1 F2 h1 h2 3 (by omega)
  | 5, _ => by rw [mkX, rootB_len _ _ _ _ (by omega)]; exact mkX_len F1 F2 h1 h2 4 (by omega)
  | 6, _ => by
    have h5 := mkX_len F1 F2 h1 h2 5 (by omega)
    have hd := dotB_len (mkX F1 F2 5) 7168 12 [46] (by rw [h5]; simp)
    rw [mkX, dotB_len _ _ _ _ (by rw [hd, h5]; simp), hd, h5]
  | n + 7, h => by omega

/-- What is kept while they are laid. -/
structure KpB (u : World) (R gr cr gb cb gn cn ga ca gc cc H g : Nat) (F1 F2 : List Int) : Prop where
  var : VarX u
  blk : Blk u R (volX s1 (.slice (some ⟨gr, 0, none⟩) 1 cr) (.slice (some ⟨gb, 0, none⟩) 1 cb) (.slice (some ⟨gn, 0, none⟩) 1 cn) .nilIface) 82
  row : CellsAt u gr r1.cs.toList
  mb : CellsAt u gb [.slice (some ⟨ga, 0, none⟩) 1024 ca]
  lb : Lies u (some ⟨ga, 0, none⟩) F1
  mn : CellsAt u gn [.slice (some ⟨gc, 0, none⟩) 1024 cc]
  ln : Lies u (some ⟨gc, 0, none⟩) F2
  box : u.cell? ⟨H, 0, none⟩ = some (.slice (some ⟨g, 0, none⟩) 131072 131072)
  ne : 0 ≠ g ∧ R ≠ g ∧ gr ≠ g ∧ gb ≠ g ∧ gn ≠ g ∧ ga ≠ g ∧ gc ≠ g ∧ H ≠ g

theorem KpB.chg {w w' : World} {R gr cr gb cb gn cn ga ca gc cc H g : Nat} {F1 F2 : List Int} (h : KpB w R gr cr gb cb gn cn ga ca gc cc H g F1 F2) (hc : Chg (fun k => some k = some g) w w') : KpB w' R gr cr gb cb gn cn ga ca gc cc H g F1 F2 := by
  obtain ⟨n0, n1, n2, n3, n4, n5, n6, n7⟩ := h.ne
  exact ⟨h.var.chg hc (fun e => n0 (Option.some.inj e)), h.blk.chg hc (fun e => n1 (Option.some.inj e)), h.row.chg hc (fun e => n2 (Option.some.inj e)), h.mb.chg hc (fun e => n3 (Option.some.inj e)), h.lb.chg hc (fun x hx e => by cases hx; exact n5 (Option.some.inj e)), h.mn.chg hc (fun e => n4 (Option.some.inj e)), h.ln.chg hc (fun x hx e => by cases hx; exact n6 (Option.some.inj e)), hc.cell h.box (fun e => n7 (Option.some.inj e)), h.ne⟩

theorem KpB.below {w w' : World} {R gr cr gb cb gn cn ga ca gc cc H g : Nat} {F1 F2 : List Int} (h : KpB w R gr cr gb cb gn cn ga ca gc cc H g F1 F2) (hb : Below w.heap.size w w') : KpB w' R gr cr gb cb gn cn ga ca gc cc H g F1 F2 := h.chg (Chg.of_below hb)

theorem exec_copyE {P : Program} {a : Act} {o : Oper} {s x : Operand} {tD tS : TypeId} {v q v' : Value} {w w' : World} (ho : o.op = .call { callee := .builtin .copy, args := #[s, x], argTypes := #[tD, tS] }) (hs : a.eval s = v) (hx : a.eval x = q) (h : (Builtin.copy_ #[tD, tS] o.type #[v, q]).run P w = .ok v' w') : (execOp a.eval o).run P w = .ok (.value v') w' := by
  unfold execOp
  simp only [ho, resolve, invoke, builtin, Sem.run_bind, Sem.run_pure, Result.andThen_ok, List.map_toArray, List.map_cons, List.map_nil, hs, hx, h]

theorem rows_r1 {w : World} {g : Nat} (h : Blk w g #[.int .i64 3, .int .i64 4, .int .i64 5, .int .i64 120, .int .i64 6, .int .i64 1] 41) : w.cell? ⟨g, 0, none⟩ = some (.int .i64 3) ∧ w.cell? ⟨g, 1, none⟩ = some (.int .i64 4) ∧ w.cell? ⟨g, 2, none⟩ = some (.int .i64 5) ∧ w.cell? ⟨g, 3, none⟩ = some (.int .i64 120) ∧ w.cell? ⟨g, 4, none⟩ = some (.int .i64 6) ∧ w.cell? ⟨g, 5, none⟩ = some (.int .i64 1) :=
  ⟨h.cell 0 _ rfl, h.cell 1 _ rfl, h.cell 2 _ rfl, h.cell 3 _ rfl, h.cell 4 _ rfl, h.cell 5 _ rfl⟩

set_option maxHeartbeats 16000000 in
set_option maxRecDepth 100000 in
theorem bytes_ok (R : Nat) (F1 F2 : List Int) (w : World) (hV : VarX w) (h1 : F1.length = 1024) (h2 : F2.length = 1024) (hB : VolB w R .nilIface F1 F2) :
    Calls Tryd.prog 52 #[.pointer (some ⟨R, 0, none⟩)] w fun e w' => (∃ g, e = .returned (.slice (some ⟨g, 0, none⟩) 131072 131072) ∧ Own w' w.heap.size (.slice (some ⟨g, 0, none⟩) 131072 131072) (mkX F1 F2 6)) ∧ Below w.heap.size w w' := by
  obtain ⟨gr, cr, gb, cb, gn, cn, ga, ca, gc, cc, hR, hr, hmb, hlb, hmn, hln⟩ := hB
  obtain ⟨⟨c0, c1, c2, c3, c4, c5, c6, c7⟩, c8, c9, c10, c11⟩ := cells_v1 hR
  obtain ⟨g, hg⟩ : ∃ g, g = w.heap.size := ⟨_, rfl⟩
  obtain ⟨w1, hw1⟩ : ∃ w1, w1 = w.alloc (.cells (madeCells #[.int .u8 0] 131072) 5) := ⟨_, rfl⟩
  have hmk := run_make_bytes w 131072 (by omega)
  rw [← hw1, ← hg] at hmk
  have hmk1 : (Instr.makeSlice 24 (.int .i64 131072) (.int .i64 131072)).run Tryd.prog w = .ok (.slice (some ⟨g, 0, none⟩) 131072 131072) w1 := hmk
  have hb1 : Below w.heap.size w w1 := by rw [hw1]; exact (Below.refl _ _).alloc (Nat.le_refl _) _
  have ho1 : Own w1 w.heap.size (.slice (some ⟨g, 0, none⟩) 131072 131072) (mkX F1 F2 0) := by rw [hg, mkX, hw1]; exact Own.made w 131072 (by unfold maxLen; omega)
  have hs1 : w1.heap.size = g + 1 := by rw [hw1, hg]; simp
  obtain ⟨H, hH⟩ : ∃ H, H = w1.heap.size := ⟨_, rfl⟩
  obtain ⟨w2, hw2⟩ : ∃ w2, w2 = w1.alloc (.cells #[(.slice (some ⟨g, 0, none⟩) 131072 131072)] 24) := ⟨_, rfl⟩
  have hb2 : Below w1.heap.size w1 w2 := by rw [hw2]; exact (Below.refl _ _).alloc (Nat.le_refl _) _
  have hb12 := hb1.trans (hb2.mono hb1.size)
  have HO2 := hide (ho1.below hb2)
  have HK2 := hide (show KpB w2 R gr cr gb cb gn cn ga ca gc cc H g F1 F2 from ⟨hV.below hb12, hR.below hb12, hr.below hb12, hmb.below hb12, hlb.below hb12, hmn.below hb12, hln.below hb12, by rw [hw2, hH]; exact (Blk.new w1 #[(.slice (some ⟨g, 0, none⟩) 131072 131072)] 24).cell 0 _ rfl, by
    have l0 := hV.lt
    have l1 := hR.lt
    have l2 := lt_of_cell (hr 0 _ rfl)
    have l3 := lt_of_cell (hmb 0 _ rfl)
    have l4 := lt_of_cell (hmn 0 _ rfl)
    have l5 : ga < w.heap.size := by
      rcases hlb with h | ⟨b, off, e, hb, _⟩
      · rw [h] at h1; simp at h1
      · cases e; exact hb
    have l6 : gc < w.heap.size := by
      rcases hln with h | ⟨b, off, e, hb, _⟩
      · rw [h] at h2; simp at h2
      · cases e; exact hb
    omega⟩)
  have HB2 := hide hb12
  have HB1 := hide hb1
  have hl := mkX_len F1 F2 h1 h2
  have HP0 : ∀ u, KpB u R gr cr gb cb gn cn ga ca gc cc H g F1 F2 → w.heap.size ≤ u.heap.size → Own u w.heap.size (.slice (some ⟨g, 0, none⟩) 131072 131072) (mkX F1 F2 0) → Hid (Calls Tryd.prog 12 #[.agg #[.int .i64 16, .int .i64 128, .int .i64 120, .int .i64 6, .int .i64 128, .int .i64 16, .int .i64 11, .bool true], .slice (some ⟨g, 1024, none⟩) 1024 130048] u fun e w' => e = .returned (.int .i64 0) ∧ Own w' w.heap.size (.slice (some ⟨g, 0, none⟩) 131072 131072) (mkX F1 F2 1) ∧ Chg (fun k => some k = some g) u w') := fun u hk hu ho => hide (by
    have h := spput_yes s1 w.heap.size g 131072 1024 130048 (mkX F1 F2 0) u hk.var (by rw [hl 0 (by omega)]; omega) (by rw [hl 0 (by omega)]; omega) hu (by have := hV.lt; omega) (by decide) (by rw [hl 0 (by omega)]; exact ho)
    rw [hl 0 (by omega)] at h
    rw [show mkX F1 F2 1 = spB s1 (mkX F1 F2 0) 1024 by conv => { lhs; rw [mkX] }]
    exact h)
  have HP1 : ∀ u, w.heap.size ≤ u.heap.size → Own u w.heap.size (.slice (some ⟨g, 0, none⟩) 131072 131072) (mkX F1 F2 1) → Hid (Calls Tryd.prog 18 #[.agg #[.int .i64 3, .int .i64 4, .int .i64 5, .int .i64 120, .int .i64 6, .int .i64 1], .slice (some ⟨g, 2048, none⟩) 1024 129024, .int .i64 0] u fun e w' => e = .returned (.int .i64 0) ∧ Own w' w.heap.size (.slice (some ⟨g, 0, none⟩) 131072 131072) (mkX F1 F2 2) ∧ Chg (fun k => some k = some g) u w') := fun u hu ho => hide (by
    have h := rwput_sub r1 w.heap.size g 131072 2048 1024 129024 (mkX F1 F2 1) 0 u (by rw [hl 1 (by omega)]; omega) (by unfold Rw.fits r1; decide) (by omega) (by omega) (by omega) (by unfold maxLen; omega) (by rw [hl 1 (by omega)]; omega) hu (by rw [hl 1 (by omega)]; exact ho)
    rw [hl 1 (by omega)] at h
    rw [show mkX F1 F2 2 = rwB r1 (mkX F1 F2 1) 2048 by conv => { lhs; rw [mkX] }]
    exact h)
  have HC2 : ∀ u, Own u w.heap.size (.slice (some ⟨g, 0, none⟩) 131072 131072) (mkX F1 F2 2) → Lies u (some ⟨ga, 0, none⟩) F1 → ∃ w', (Builtin.copy_ #[24, 63] 3 #[.slice (some ⟨g, 3072, none⟩) 1024 128000, .slice (some ⟨ga, 0, none⟩) 1024 ca]).run Tryd.prog u = .ok (.int .i64 1024) w' ∧ Own w' w.heap.size (.slice (some ⟨g, 0, none⟩) 131072 131072) (mkX F1 F2 3) ∧ Chg (fun k => some k = some g) u w' := fun u ho hf => by
    have hlF : F1.length = 1024 := h1
    obtain ⟨w', hr, ho', hg'⟩ := run_copy_part (P := Tryd.prog) (dT := 24) (sT := 63) (ty := 3) Tryd.underlying24 size5 u w.heap.size g 3072 131072 131072 1024 128000 1024 ca (some ⟨g, 3072, none⟩) (some ⟨ga, 0, none⟩) F1 (mkX F1 F2 2) ho (hl 2 (by omega)).symm hf (fun _ => rfl) (by rw [hlF]; rfl) (by rw [hlF, hl 2 (by omega)]; omega)
    rw [hlF] at hr
    refine ⟨w', hr, ?_, Chg.of_grown hg'⟩
    rw [show mkX F1 F2 3 = over (mkX F1 F2 2) 3072 F1 by conv => { lhs; rw [mkX] }]
    exact ho'
  have HC3 : ∀ u, Own u w.heap.size (.slice (some ⟨g, 0, none⟩) 131072 131072) (mkX F1 F2 3) → Lies u (some ⟨gc, 0, none⟩) F2 → ∃ w', (Builtin.copy_ #[24, 63] 3 #[.slice (some ⟨g, 4096, none⟩) 1024 126976, .slice (some ⟨gc, 0, none⟩) 1024 cc]).run Tryd.prog u = .ok (.int .i64 1024) w' ∧ Own w' w.heap.size (.slice (some ⟨g, 0, none⟩) 131072 131072) (mkX F1 F2 4) ∧ Chg (fun k => some k = some g) u w' := fun u ho hf => by
    have hlF : F2.length = 1024 := h2
    obtain ⟨w', hr, ho', hg'⟩ := run_copy_part (P := Tryd.prog) (dT := 24) (sT := 63) (ty := 3) Tryd.underlying24 size5 u w.heap.size g 4096 131072 131072 1024 126976 1024 cc (some ⟨g, 4096, none⟩) (some ⟨gc, 0, none⟩) F2 (mkX F1 F2 3) ho (hl 3 (by omega)).symm hf (fun _ => rfl) (by rw [hlF]; rfl) (by rw [hlF, hl 3 (by omega)]; omega)
    rw [hlF] at hr
    refine ⟨w', hr, ?_, Chg.of_grown hg'⟩
    rw [show mkX F1 F2 4 = over (mkX F1 F2 3) 4096 F2 by conv => { lhs; rw [mkX] }]
    exact ho'
  have HP4 : ∀ u, Own u w.heap.size (.slice (some ⟨g, 0, none⟩) 131072 131072) (mkX F1 F2 4) → Hid (Calls Tryd.prog 70 #[.slice (some ⟨g, 5248, none⟩) 896 125824, .int .i64 7] u fun e w' => e = .returned (.tuple #[]) ∧ Own w' w.heap.size (.slice (some ⟨g, 0, none⟩) 131072 131072) (mkX F1 F2 5) ∧ Chg (fun k => some k = some g) u w') := fun u ho => hide (by
    have h := putRoot_ok w.heap.size g 131072 5248 896 125824 (mkX F1 F2 4) 7 u (by rw [hl 4 (by omega)]; omega) (by rw [hl 4 (by omega)]; omega) (by omega) (by omega) (by rw [hl 4 (by omega)]; exact ho)
    rw [hl 4 (by omega)] at h
    rw [show mkX F1 F2 5 = rootB (mkX F1 F2 4) 5248 7 5 by conv => { lhs; rw [mkX] }]
    exact h.mono fun e w' ⟨a, b, c⟩ => ⟨a, b, Chg.of_grown c⟩)
  have HP5 : ∀ u, w.heap.size ≤ u.heap.size → Own u w.heap.size (.slice (some ⟨g, 0, none⟩) 131072 131072) (mkX F1 F2 5) → Hid (Calls Tryd.prog 71 #[.slice (some ⟨g, 7168, none⟩) 1024 123904] u fun e w' => e = .returned (.tuple #[]) ∧ Own w' w.heap.size (.slice (some ⟨g, 0, none⟩) 131072 131072) (mkX F1 F2 6) ∧ Chg (fun k => some k = some g) u w') := fun u hu ho => hide (by
    have h := putDots_ok w.heap.size g 131072 7168 123904 (mkX F1 F2 5) u (by rw [hl 5 (by omega)]; omega) (by rw [hl 5 (by omega)]; omega) (by omega) hu (by rw [hl 5 (by omega)]; exact ho)
    rw [hl 5 (by omega)] at h
    rw [show mkX F1 F2 6 = dotB (dotB (mkX F1 F2 5) 7168 12 [46]) 7180 1012 [46, 46] by conv => { lhs; rw [mkX] }]
    exact h)
  have HBk : ∀ (n : Nat) u, KpB u R gr cr gb cb gn cn ga ca gc cc H g F1 F2 → n < 128 → Hid (Calls Tryd.prog 69 #[.int .i64 (n : Int), .pointer (some ⟨H, 0, none⟩)] u fun e w' => e = .returned (.slice (some ⟨g, n * 1024, none⟩) 1024 (131072 - n * 1024)) ∧ w' = u) := fun n u hk hn => hide (block_ok H g 131072 131072 n u hk.box (by omega) (by omega) (by omega))
  have HB1k : ∀ u, KpB u R gr cr gb cb gn cn ga ca gc cc H g F1 F2 → Hid (Calls Tryd.prog 69 #[.int .i64 1, .pointer (some ⟨H, 0, none⟩)] u fun e w' => e = .returned (.slice (some ⟨g, 1024, none⟩) 1024 130048) ∧ w' = u) := fun u hk => HBk 1 u hk (by omega)
  have HB2k : ∀ u, KpB u R gr cr gb cb gn cn ga ca gc cc H g F1 F2 → Hid (Calls Tryd.prog 69 #[.int .i64 2, .pointer (some ⟨H, 0, none⟩)] u fun e w' => e = .returned (.slice (some ⟨g, 2048, none⟩) 1024 129024) ∧ w' = u) := fun u hk => HBk 2 u hk (by omega)
  have HB3k : ∀ u, KpB u R gr cr gb cb gn cn ga ca gc cc H g F1 F2 → Hid (Calls Tryd.prog 69 #[.int .i64 3, .pointer (some ⟨H, 0, none⟩)] u fun e w' => e = .returned (.slice (some ⟨g, 3072, none⟩) 1024 128000) ∧ w' = u) := fun u hk => HBk 3 u hk (by omega)
  have HB4k : ∀ u, KpB u R gr cr gb cb gn cn ga ca gc cc H g F1 F2 → Hid (Calls Tryd.prog 69 #[.int .i64 4, .pointer (some ⟨H, 0, none⟩)] u fun e w' => e = .returned (.slice (some ⟨g, 4096, none⟩) 1024 126976) ∧ w' = u) := fun u hk => HBk 4 u hk (by omega)
  have HB5k : ∀ u, KpB u R gr cr gb cb gn cn ga ca gc cc H g F1 F2 → Hid (Calls Tryd.prog 69 #[.int .i64 5, .pointer (some ⟨H, 0, none⟩)] u fun e w' => e = .returned (.slice (some ⟨g, 5120, none⟩) 1024 125952) ∧ w' = u) := fun u hk => HBk 5 u hk (by omega)
  have HB7k : ∀ u, KpB u R gr cr gb cb gn cn ga ca gc cc H g F1 F2 → Hid (Calls Tryd.prog 69 #[.int .i64 7, .pointer (some ⟨H, 0, none⟩)] u fun e w' => e = .returned (.slice (some ⟨g, 7168, none⟩) 1024 123904) ∧ w' = u) := fun u hk => HBk 7 u hk (by omega)
  have HG := fun u => hide (s1_group u)
  have HT := fun u => hide (s1_tab u)
  have HGw := hide (show w.heap.size ≤ g from by omega)
  have HHe := hide hH
  have HW2 := hide hw2
  obtain ⟨O0, hO0⟩ : ∃ O0, O0 = mkX F1 F2 0 := ⟨_, rfl⟩
  obtain ⟨O1, hO1⟩ : ∃ O1, O1 = mkX F1 F2 1 := ⟨_, rfl⟩
  obtain ⟨O2, hO2⟩ : ∃ O2, O2 = mkX F1 F2 2 := ⟨_, rfl⟩
  obtain ⟨O3, hO3⟩ : ∃ O3, O3 = mkX F1 F2 3 := ⟨_, rfl⟩
  obtain ⟨O4, hO4⟩ : ∃ O4, O4 = mkX F1 F2 4 := ⟨_, rfl⟩
  obtain ⟨O5, hO5⟩ : ∃ O5, O5 = mkX F1 F2 5 := ⟨_, rfl⟩
  obtain ⟨O6, hO6⟩ : ∃ O6, O6 = mkX F1 F2 6 := ⟨_, rfl⟩
  rw [← hO0] at HO2 HP0
  rw [← hO1] at HP0 HP1
  rw [← hO2] at HP1 HC2
  rw [← hO3] at HC2 HC3
  rw [← hO4] at HC3 HP4
  rw [← hO5] at HP4 HP5
  rw [← hO6] at HP5 ⊢
  have HCc2 := hide HC2
  have HCc3 := hide HC3
  obtain ⟨d8, _⟩ := And.intro (cells_v1 HK2.out.blk).2.1 trivial
  rw [hw2] at d8
  clear hO0 hO1 hO2 hO3 hO4 hO5 hO6 hl hV hR hr hmb hlb hmn hln hb1 hb2 hb12 ho1 hs1 hw1 hw2 hH hmk hg h1 h2 HBk HC2 HC3 c0 c2 c3 c4 c5 c6 c7 c8 c9 c10 c11
  go_enter Tryd.func52, Tryd.ntmps52
  go_wp2_with fail
  rw [← HHe.out, ← HW2.out]
  clear c1 d8
  have HJx := fun (e : Nat) => e
  go_loopw [26] (fun i wr => ∃ j : Nat, i = .int .i64 (j : Int) ∧ ((j = 0 ∧ Own wr w.heap.size (.slice (some ⟨g, 0, none⟩) 131072 131072) O0) ∨ (j = 1 ∧ Own wr w.heap.size (.slice (some ⟨g, 0, none⟩) 131072 131072) O4)) ∧ KpB wr R gr cr gb cb gn cn ga ca gc cc H g F1 F2 ∧ Below w.heap.size w wr) (fun i _ => 1 - (intOf i).toNat)
  case atStart => exact ⟨0, rfl, Or.inl ⟨rfl, HO2.out⟩, HK2.out, HB2.out⟩
  case round =>
    obtain ⟨j, rfl, hj, hk, hb⟩ := hrel
    have HK3 := hide hk
    have HB3 := hide hb
    clear hk hb HJx
    rcases hj with ⟨rfl, ho⟩ | ⟨rfl, ho⟩
    · have HO3 := hide ho
      obtain ⟨r0, r1, r2, r3, r4, r5⟩ := cells_r1 HK3.out.row
      obtain ⟨J, hJ⟩ : ∃ J, J = wr.heap.size := ⟨_, rfl⟩
      obtain ⟨w4, hw4⟩ : ∃ w4, w4 = wr.alloc (.cells #[.int .i64 3, .int .i64 4, .int .i64 5, .int .i64 120, .int .i64 6, .int .i64 1] 41) := ⟨_, rfl⟩
      have hb4 : Below wr.heap.size wr w4 := by rw [hw4]; exact (Below.refl _ _).alloc (Nat.le_refl _) _
      have HJ4 := hide (show Blk w4 J #[.int .i64 3, .int .i64 4, .int .i64 5, .int .i64 120, .int .i64 6, .int .i64 1] 41 by rw [hw4, hJ]; exact Blk.new _ _ _)
      have HK4 := hide (HK3.out.below hb4)
      have HO4 := hide (HO3.out.below hb4)
      have HB4 := hide (HB3.out.trans (hb4.mono HB3.out.size))
      have HW4 := hide hw4
      have HJe := hide hJ
      have HJg := hide (show J ≠ g by rw [hJ]; have := HO3.out; have := (World.ownsRow.lt this g rfl).2; omega)
      rw [hw4] at hb4
      obtain ⟨⟨f0, f1, f2, f3, f4, f5, f6, f7⟩, f8, f9, f10, f11⟩ := cells_v1 (HK3.out.below hb4).blk
      clear hb4 hw4 hJ ho
      go_wp2_with fail
      rw [← HJe.out, ← HW4.out]
      clear f0 f1 f2 f3 f4 f5 f6 f7 f8 f9 f10 f11 r0 r1 r2 r3 r4 r5
      refine (HG _).out.mono ?_
      rintro e9 w5 ⟨rfl, h5⟩
      have HJ5 := hide (HJ4.out.below h5)
      have HK5 := hide (HK4.out.below h5)
      have HO5 := hide (HO4.out.below h5)
      have HB5 := hide (HB4.out.trans (h5.mono HB4.out.size))
      clear h5
      go_wp2_with fail
      refine b_region (S := (fun u => KpB u R gr cr gb cb gn cn ga ca gc cc H g F1 F2)) (F := (fun _ => true)) (by kernel_rfl) ?_
      refine b_take 0 (some 40) (.pointer (some ⟨R, 0, none⟩)) rfl rfl (by kernel_rfl) (by kernel_rfl) (by kernel_rfl) (by kernel_rfl) (by kernel_rfl) (fun _ _ _ h => h) (by rfl) (HK5.out.below (Below.refl _ _).drew) ?_ ?_
      · intro u hSu
        have sU := hSu
        go_simp
      try simp only [Act.put, List.setIfInBounds_toArray, List.set_cons_zero, List.set_cons_succ]
      refine b_take 1 (some 41) (.pointer (some ⟨R, 0, none⟩)) rfl rfl (by kernel_rfl) (by kernel_rfl) (by kernel_rfl) (by kernel_rfl) (by kernel_rfl) (fun _ _ _ h => h) (by rfl) (HK5.out.below (Below.refl _ _).drew) ?_ ?_
      · intro u hSu
        have sU := hSu
        go_simp
      try simp only [Act.put, List.setIfInBounds_toArray, List.set_cons_zero, List.set_cons_succ]
      refine b_take 2 (some 42) (.pointer (some ⟨R, 0, none⟩)) rfl rfl (by kernel_rfl) (by kernel_rfl) (by kernel_rfl) (by kernel_rfl) (by kernel_rfl) (fun _ _ _ h => h) (by rfl) (HK5.out.below (Below.refl _ _).drew) ?_ ?_
      · intro u hSu
        have sU := hSu
        go_simp
      try simp only [Act.put, List.setIfInBounds_toArray, List.set_cons_zero, List.set_cons_succ]
      refine b_take 3 (some 43) (.agg #[.int .i64 16, .int .i64 128, .int .i64 120, .int .i64 6, .int .i64 128, .int .i64 16, .int .i64 11, .bool true]) rfl rfl (by kernel_rfl) (by kernel_rfl) (by kernel_rfl) (by kernel_rfl) (by kernel_rfl) (fun _ _ _ h => h) (by rfl) (HK5.out.below (Below.refl _ _).drew) ?_ ?_
      · intro u hSu
        have sU := hSu
        obtain ⟨⟨f0, f1, f2, f3, f4, f5, f6, f7⟩, f8, f9, f10, f11⟩ := cells_v1 sU.blk
        go_simp
      try simp only [Act.put, List.setIfInBounds_toArray, List.set_cons_zero, List.set_cons_succ]
      refine b_take 4 (some 44) (.func (.func 69) #[] #[.pointer (some ⟨H, 0, none⟩)]) rfl rfl (by kernel_rfl) (by kernel_rfl) (by kernel_rfl) (by kernel_rfl) (by kernel_rfl) (fun _ _ _ h => h) (by rfl) (HK5.out.below (Below.refl _ _).drew) ?_ ?_
      · intro u hSu
        have sU := hSu
        go_simp
      try simp only [Act.put, List.setIfInBounds_toArray, List.set_cons_zero, List.set_cons_succ]
      refine b_take 5 (some 45) (.int .i64 1) rfl rfl (by kernel_rfl) (by kernel_rfl) (by kernel_rfl) (by kernel_rfl) (by kernel_rfl) (fun _ _ _ h => h) (by rfl) (HK5.out.below (Below.refl _ _).drew) ?_ ?_
      · intro u hSu
        have sU := hSu
        go_simp
      try simp only [Act.put, List.setIfInBounds_toArray, List.set_cons_zero, List.set_cons_succ]
      refine b_ready (rs := [6]) (by kernel_rfl) (by simp) ?_
      refine AllReadyB.cons (i := 6) rfl (fun K hK => ?_) AllReadyB.nil
      go_simp
      refine (HB1k _ (HK5.out.below (Below.refl _ _).drew)).out.mono ?_
      rintro e9 y5 ⟨rfl, h5⟩
      rw [h5]
      clear h5
      go_simp
      refine hK.out _ _ (fun _ => (HK5.out.below (Below.refl _ _).drew)) ?_
      clear hK K
      try simp only [Act.put, List.setIfInBounds_toArray, List.set_cons_zero, List.set_cons_succ]
      refine b_ready (rs := [7]) (by kernel_rfl) (by simp) ?_
      refine AllReadyB.cons (i := 7) rfl (fun K hK => ?_) AllReadyB.nil
      go_simp
      refine (HP0 _ (HK5.out.below (Below.refl _ _).drew) HB5.out.drew.size (HO5.out.below (Below.refl _ _).drew)).out.mono ?_
      rintro e9 w6 ⟨rfl, ho6, hc6⟩
      have HK6 := hide ((HK5.out.below (Below.refl _ _).drew).chg hc6)
      have HO6 := hide ho6
      have HB6 := hide (Chg.below w.heap.size ((Chg.refl (fun k => some k = some g) w5).drew.trans hc6) HB5.out.size (fun i hi e => by have := Option.some.inj e; have := HGw.out; omega))
      have HJ6 := hide (HJ5.out.drew.chg hc6 (fun e => HJg.out (Option.some.inj e)))
      clear ho6 hc6
      go_simp
      refine hK.out _ _ (fun _ => HK6.out) ?_
      clear hK K
      try simp only [Act.put, List.setIfInBounds_toArray, List.set_cons_zero, List.set_cons_succ]
      refine b_done (by kernel_rfl) ?_ _
      have HB7 := hide (HB5.out.trans HB6.out)
      have c8 := (cells_v1 HK6.out.blk).2.1
      go_wp2_with fail
      clear c8
      go_loopw [53] (fun i wr => ∃ j : Nat, i = .int .i64 (j : Int) ∧ ((j = 0 ∧ Own wr w.heap.size (.slice (some ⟨g, 0, none⟩) 131072 131072) O1) ∨ (j = 1 ∧ Own wr w.heap.size (.slice (some ⟨g, 0, none⟩) 131072 131072) O2)) ∧ KpB wr R gr cr gb cb gn cn ga ca gc cc H g F1 F2 ∧ Below w.heap.size w wr ∧ Blk wr J #[.int .i64 3, .int .i64 4, .int .i64 5, .int .i64 120, .int .i64 6, .int .i64 1] 41) (fun i _ => 1 - (intOf i).toNat)
      case atStart => exact ⟨0, rfl, Or.inl ⟨rfl, HO6.out⟩, HK6.out, HB7.out, HJ6.out⟩
      case round =>
        obtain ⟨j2, rfl, hj, hk, hb, hJw⟩ := hrel
        have HK8 := hide hk
        have HB8 := hide hb
        have HJ8 := hide hJw
        clear hk hb hJw
        rcases hj with ⟨rfl, ho⟩ | ⟨rfl, ho⟩
        · have HO8 := hide ho
          obtain ⟨r0, r1, r2, r3, r4, r5⟩ := cells_r1 HK8.out.row
          obtain ⟨J2, hJ2⟩ : ∃ J2, J2 = wr.heap.size := ⟨_, rfl⟩
          obtain ⟨x8, hx8⟩ : ∃ x8, x8 = wr.alloc (.cells #[.int .i64 3, .int .i64 4, .int .i64 5, .int .i64 120, .int .i64 6, .int .i64 1] 41) := ⟨_, rfl⟩
          have hb8 : Below wr.heap.size wr x8 := by rw [hx8]; exact (Below.refl _ _).alloc (Nat.le_refl _) _
          have HJx8 := hide (show Blk x8 J2 #[.int .i64 3, .int .i64 4, .int .i64 5, .int .i64 120, .int .i64 6, .int .i64 1] 41 by rw [hx8, hJ2]; exact Blk.new _ _ _)
          have HKx8 := hide (HK8.out.below hb8)
          have HOx8 := hide (HO8.out.below hb8)
          have HBx8 := hide (HB8.out.trans (hb8.mono HB8.out.size))
          have HJy8 := hide (HJ8.out.below hb8)
          have HWx8 := hide hx8
          have HJ2e := hide hJ2
          have HJ2g := hide (show J2 ≠ g by rw [hJ2]; have := HO8.out; have := (World.ownsRow.lt this g rfl).2; omega)
          clear hb8 hx8 hJ2 ho
          go_wp2_with fail
          rw [← HJ2e.out, ← HWx8.out]
          clear r0 r1 r2 r3 r4 r5
          refine b_region (S := (fun u => KpB u R gr cr gb cb gn cn ga ca gc cc H g F1 F2 ∧ Blk u J2 #[.int .i64 3, .int .i64 4, .int .i64 5, .int .i64 120, .int .i64 6, .int .i64 1] 41)) (F := (fun _ => true)) (by kernel_rfl) ?_
          refine b_take 0 (some 58) (.agg #[.int .i64 3, .int .i64 4, .int .i64 5, .int .i64 120, .int .i64 6, .int .i64 1]) rfl rfl (by kernel_rfl) (by kernel_rfl) (by kernel_rfl) (by kernel_rfl) (by kernel_rfl) (fun _ _ _ h => h) (by rfl) ⟨HKx8.out.below (Below.refl _ _).drew, HJx8.out.drew⟩ ?_ ?_
          · intro u hSu
            obtain ⟨sU, tU⟩ := hSu
            obtain ⟨q0, q1, q2, q3, q4, q5⟩ := rows_r1 tU
            go_simp
          try simp only [Act.put, List.setIfInBounds_toArray, List.set_cons_zero, List.set_cons_succ]
          refine b_take 1 (some 59) (.func (.func 69) #[] #[.pointer (some ⟨H, 0, none⟩)]) rfl rfl (by kernel_rfl) (by kernel_rfl) (by kernel_rfl) (by kernel_rfl) (by kernel_rfl) (fun _ _ _ h => h) (by rfl) ⟨HKx8.out.below (Below.refl _ _).drew, HJx8.out.drew⟩ ?_ ?_
          · intro u hSu
            obtain ⟨sU, tU⟩ := hSu
            go_simp
          try simp only [Act.put, List.setIfInBounds_toArray, List.set_cons_zero, List.set_cons_succ]
          refine b_take 2 (some 60) (.int .i64 1) rfl rfl (by kernel_rfl) (by kernel_rfl) (by kernel_rfl) (by kernel_rfl) (by kernel_rfl) (fun _ _ _ h => h) (by rfl) ⟨HKx8.out.below (Below.refl _ _).drew, HJx8.out.drew⟩ ?_ ?_
          · intro u hSu
            obtain ⟨sU, tU⟩ := hSu
            go_simp
          try simp only [Act.put, List.setIfInBounds_toArray, List.set_cons_zero, List.set_cons_succ]
          refine b_take 3 (some 61) (.int .i64 2) rfl rfl (by kernel_rfl) (by kernel_rfl) (by kernel_rfl) (by kernel_rfl) (by kernel_rfl) (fun _ _ _ h => h) (by rfl) ⟨HKx8.out.below (Below.refl _ _).drew, HJx8.out.drew⟩ ?_ ?_
          · intro u hSu
            obtain ⟨sU, tU⟩ := hSu
            have qw : IntKind.i64.wrap 2 = 2 := by decide
            go_simp
          try simp only [Act.put, List.setIfInBounds_toArray, List.set_cons_zero, List.set_cons_succ]
          refine b_take 5 (some 63) (.int .i64 0) rfl rfl (by kernel_rfl) (by kernel_rfl) (by kernel_rfl) (by kernel_rfl) (by kernel_rfl) (fun _ _ _ h => h) (by rfl) ⟨HKx8.out.below (Below.refl _ _).drew, HJx8.out.drew⟩ ?_ ?_
          · intro u hSu
            obtain ⟨sU, tU⟩ := hSu
            go_simp
          try simp only [Act.put, List.setIfInBounds_toArray, List.set_cons_zero, List.set_cons_succ]
          refine b_take 6 (some 64) (.int .i64 0) rfl rfl (by kernel_rfl) (by kernel_rfl) (by kernel_rfl) (by kernel_rfl) (by kernel_rfl) (fun _ _ _ h => h) (by rfl) ⟨HKx8.out.below (Below.refl _ _).drew, HJx8.out.drew⟩ ?_ ?_
          · intro u hSu
            obtain ⟨sU, tU⟩ := hSu
            have qw : IntKind.i64.wrap 0 = 0 := by decide
            go_simp
          try simp only [Act.put, List.setIfInBounds_toArray, List.set_cons_zero, List.set_cons_succ]
          refine b_ready (rs := [4]) (by kernel_rfl) (by simp) ?_
          refine AllReadyB.cons (i := 4) rfl (fun K hK => ?_) AllReadyB.nil
          go_simp
          refine (HB2k _ (HKx8.out.below (Below.refl _ _).drew)).out.mono ?_
          rintro e9 y5 ⟨rfl, h5⟩
          rw [h5]
          clear h5
          go_simp
          refine hK.out _ _ (fun _ => ⟨HKx8.out.below (Below.refl _ _).drew, HJx8.out.drew⟩) ?_
          clear hK K
          try simp only [Act.put, List.setIfInBounds_toArray, List.set_cons_zero, List.set_cons_succ]
          refine b_ready (rs := [7]) (by kernel_rfl) (by simp) ?_
          refine AllReadyB.cons (i := 7) rfl (fun K hK => ?_) AllReadyB.nil
          go_simp
          refine (HP1 _ HBx8.out.drew.size (HOx8.out.below (Below.refl _ _).drew)).out.mono ?_
          rintro e9 w9 ⟨rfl, ho6, hc6⟩
          have HK9 := hide ((HKx8.out.below (Below.refl _ _).drew).chg hc6)
          have HO9 := hide ho6
          have HB9 := hide (HBx8.out.trans (Chg.below w.heap.size ((Chg.refl (fun k => some k = some g) x8).drew.trans hc6) HBx8.out.size (fun i hi e => by have := Option.some.inj e; have := HGw.out; omega)))
          have HJ9 := hide (HJy8.out.drew.chg hc6 (fun e => HJg.out (Option.some.inj e)))
          have HJz9 := hide (HJx8.out.drew.chg hc6 (fun e => HJ2g.out (Option.some.inj e)))
          clear ho6 hc6
          go_simp
          refine hK.out _ _ (fun _ => ⟨HK9.out, HJz9.out⟩) ?_
          clear hK K
          try simp only [Act.put, List.setIfInBounds_toArray, List.set_cons_zero, List.set_cons_succ]
          refine b_done (by kernel_rfl) ?_ _
          go_wp2_with fail
          go_roundw
          case rel => exact ⟨1, by go_num, Or.inr ⟨rfl, HO9.out⟩, HK9.out, HB9.out, HJ9.out⟩
          case measure => simp [intOf]
        · have HO8 := hide ho
          clear ho
          go_wp2_with fail
          refine b_region (S := (fun u => KpB u R gr cr gb cb gn cn ga ca gc cc H g F1 F2 ∧ Blk u J #[.int .i64 3, .int .i64 4, .int .i64 5, .int .i64 120, .int .i64 6, .int .i64 1] 41)) (F := (fun _ => true)) (by kernel_rfl) ?_
          refine b_take 0 (some 67) (.func (.func 69) #[] #[.pointer (some ⟨H, 0, none⟩)]) rfl rfl (by kernel_rfl) (by kernel_rfl) (by kernel_rfl) (by kernel_rfl) (by kernel_rfl) (fun _ _ _ h => h) (by rfl) ⟨HK8.out.below (Below.refl _ _).drew, HJ8.out.drew⟩ ?_ ?_
          · intro u hSu
            obtain ⟨sU, tU⟩ := hSu
            go_simp
          try simp only [Act.put, List.setIfInBounds_toArray, List.set_cons_zero, List.set_cons_succ]
          refine b_take 1 (some 68) (.pointer (some ⟨J, 0, none⟩)) rfl rfl (by kernel_rfl) (by kernel_rfl) (by kernel_rfl) (by kernel_rfl) (by kernel_rfl) (fun _ _ _ h => h) (by rfl) ⟨HK8.out.below (Below.refl _ _).drew, HJ8.out.drew⟩ ?_ ?_
          · intro u hSu
            obtain ⟨sU, tU⟩ := hSu
            go_simp
          try simp only [Act.put, List.setIfInBounds_toArray, List.set_cons_zero, List.set_cons_succ]
          refine b_take 2 (some 69) (.int .i64 3) rfl rfl (by kernel_rfl) (by kernel_rfl) (by kernel_rfl) (by kernel_rfl) (by kernel_rfl) (fun _ _ _ h => h) (by rfl) ⟨HK8.out.below (Below.refl _ _).drew, HJ8.out.drew⟩ ?_ ?_
          · intro u hSu
            obtain ⟨sU, tU⟩ := hSu
            obtain ⟨q0, q1, q2, q3, q4, q5⟩ := rows_r1 tU
            go_simp
          try simp only [Act.put, List.setIfInBounds_toArray, List.set_cons_zero, List.set_cons_succ]
          refine b_take 4 (some 71) (.pointer (some ⟨R, 0, none⟩)) rfl rfl (by kernel_rfl) (by kernel_rfl) (by kernel_rfl) (by kernel_rfl) (by kernel_rfl) (fun _ _ _ h => h) (by rfl) ⟨HK8.out.below (Below.refl _ _).drew, HJ8.out.drew⟩ ?_ ?_
          · intro u hSu
            obtain ⟨sU, tU⟩ := hSu
            go_simp
          try simp only [Act.put, List.setIfInBounds_toArray, List.set_cons_zero, List.set_cons_succ]
          refine b_take 5 (some 72) (.pointer (some ⟨R, 0, none⟩)) rfl rfl (by kernel_rfl) (by kernel_rfl) (by kernel_rfl) (by kernel_rfl) (by kernel_rfl) (fun _ _ _ h => h) (by rfl) ⟨HK8.out.below (Below.refl _ _).drew, HJ8.out.drew⟩ ?_ ?_
          · intro u hSu
            obtain ⟨sU, tU⟩ := hSu
            go_simp
          try simp only [Act.put, List.setIfInBounds_toArray, List.set_cons_zero, List.set_cons_succ]
          refine b_take 6 (some 73) (.pointer (some ⟨R, 9, none⟩)) rfl rfl (by kernel_rfl) (by kernel_rfl) (by kernel_rfl) (by kernel_rfl) (by kernel_rfl) (fun _ _ _ h => h) (by rfl) ⟨HK8.out.below (Below.refl _ _).drew, HJ8.out.drew⟩ ?_ ?_
          · intro u hSu
            obtain ⟨sU, tU⟩ := hSu
            go_simp
          try simp only [Act.put, List.setIfInBounds_toArray, List.set_cons_zero, List.set_cons_succ]
          refine b_take 7 (some 74) (.slice (some ⟨gb, 0, none⟩) 1 cb) rfl rfl (by kernel_rfl) (by kernel_rfl) (by kernel_rfl) (by kernel_rfl) (by kernel_rfl) (fun _ _ _ h => h) (by rfl) ⟨HK8.out.below (Below.refl _ _).drew, HJ8.out.drew⟩ ?_ ?_
          · intro u hSu
            obtain ⟨sU, tU⟩ := hSu
            obtain ⟨⟨f0, f1, f2, f3, f4, f5, f6, f7⟩, f8, f9, f10, f11⟩ := cells_v1 sU.blk
            go_simp
          try simp only [Act.put, List.setIfInBounds_toArray, List.set_cons_zero, List.set_cons_succ]
          refine b_take 8 (some 75) (.int .i64 0) rfl rfl (by kernel_rfl) (by kernel_rfl) (by kernel_rfl) (by kernel_rfl) (by kernel_rfl) (fun _ _ _ h => h) (by rfl) ⟨HK8.out.below (Below.refl _ _).drew, HJ8.out.drew⟩ ?_ ?_
          · intro u hSu
            obtain ⟨sU, tU⟩ := hSu
            go_simp
          try simp only [Act.put, List.setIfInBounds_toArray, List.set_cons_zero, List.set_cons_succ]
          refine b_take 9 (some 76) (.pointer (some ⟨gb, 0, none⟩)) rfl rfl (by kernel_rfl) (by kernel_rfl) (by kernel_rfl) (by kernel_rfl) (by kernel_rfl) (fun _ _ _ h => h) (by rfl) ⟨HK8.out.below (Below.refl _ _).drew, HJ8.out.drew⟩ ?_ ?_
          · intro u hSu
            obtain ⟨sU, tU⟩ := hSu
            go_simp
          try simp only [Act.put, List.setIfInBounds_toArray, List.set_cons_zero, List.set_cons_succ]
          refine b_take 10 (some 77) (.slice (some ⟨ga, 0, none⟩) 1024 ca) rfl rfl (by kernel_rfl) (by kernel_rfl) (by kernel_rfl) (by kernel_rfl) (by kernel_rfl) (fun _ _ _ h => h) (by rfl) ⟨HK8.out.below (Below.refl _ _).drew, HJ8.out.drew⟩ ?_ ?_
          · intro u hSu
            obtain ⟨sU, tU⟩ := hSu
            have q0 := sU.mb 0 _ rfl
            go_simp
          try simp only [Act.put, List.setIfInBounds_toArray, List.set_cons_zero, List.set_cons_succ]
          refine b_ready (rs := [3]) (by kernel_rfl) (by simp) ?_
          refine AllReadyB.cons (i := 3) rfl (fun K hK => ?_) AllReadyB.nil
          go_simp
          refine (HB3k _ (HK8.out.below (Below.refl _ _).drew)).out.mono ?_
          rintro e9 y5 ⟨rfl, h5⟩
          rw [h5]
          clear h5
          go_simp
          refine hK.out _ _ (fun _ => ⟨HK8.out.below (Below.refl _ _).drew, HJ8.out.drew⟩) ?_
          clear hK K
          try simp only [Act.put, List.setIfInBounds_toArray, List.set_cons_zero, List.set_cons_succ]
          obtain ⟨w9, hr6, ho6, hc6⟩ := HCc2.out _ (HO8.out.below (Below.refl _ _).drew) (HK8.out.lb.below (Below.refl _ _).drew)
          have HK9 := hide ((HK8.out.below (Below.refl _ _).drew).chg hc6)
          have HO9 := hide ho6
          have HB9 := hide (HB8.out.trans (Chg.below w.heap.size ((Chg.refl (fun k => some k = some g) _).drew.trans hc6) HB8.out.size (fun i hi e => by have := Option.some.inj e; have := HGw.out; omega)))
          have HJ9 := hide (HJ8.out.drew.chg hc6 (fun e => HJg.out (Option.some.inj e)))
          refine b_val 11 (some 78) (.int .i64 1024) w9 (by kernel_rfl) rfl rfl rfl (exec_copyE (s := .tmp 70) (x := .tmp 77) (tD := 24) (tS := 63) (v := .slice (some ⟨g, 3072, none⟩) 1024 128000) (q := .slice (some ⟨ga, 0, none⟩) 1024 ca) rfl (by rfl) (by rfl) hr6) (fun _ => ⟨HK9.out, HJ9.out⟩) ?_
          try simp only [Act.put, List.setIfInBounds_toArray, List.set_cons_zero, List.set_cons_succ]
          clear hr6 ho6 hc6
          refine b_done (by kernel_rfl) ?_ _
          go_wp2_with fail
          have HK10 := HK9
          have HO10 := HO9
          have HB10 := HB9
          have HJ10 := HJ9
          refine b_region (S := (fun u => KpB u R gr cr gb cb gn cn ga ca gc cc H g F1 F2 ∧ Blk u J #[.int .i64 3, .int .i64 4, .int .i64 5, .int .i64 120, .int .i64 6, .int .i64 1] 41)) (F := (fun _ => true)) (by kernel_rfl) ?_
          refine b_take 0 (some 79) (.func (.func 69) #[] #[.pointer (some ⟨H, 0, none⟩)]) rfl rfl (by kernel_rfl) (by kernel_rfl) (by kernel_rfl) (by kernel_rfl) (by kernel_rfl) (fun _ _ _ h => h) (by rfl) ⟨HK10.out.below (Below.refl _ _).drew, HJ10.out.drew⟩ ?_ ?_
          · intro u hSu
            obtain ⟨sU, tU⟩ := hSu
            go_simp
          try simp only [Act.put, List.setIfInBounds_toArray, List.set_cons_zero, List.set_cons_succ]
          refine b_take 1 (some 80) (.pointer (some ⟨J, 1, none⟩)) rfl rfl (by kernel_rfl) (by kernel_rfl) (by kernel_rfl) (by kernel_rfl) (by kernel_rfl) (fun _ _ _ h => h) (by rfl) ⟨HK10.out.below (Below.refl _ _).drew, HJ10.out.drew⟩ ?_ ?_
          · intro u hSu
            obtain ⟨sU, tU⟩ := hSu
            go_simp
          try simp only [Act.put, List.setIfInBounds_toArray, List.set_cons_zero, List.set_cons_succ]
          refine b_take 2 (some 81) (.int .i64 4) rfl rfl (by kernel_rfl) (by kernel_rfl) (by kernel_rfl) (by kernel_rfl) (by kernel_rfl) (fun _ _ _ h => h) (by rfl) ⟨HK10.out.below (Below.refl _ _).drew, HJ10.out.drew⟩ ?_ ?_
          · intro u hSu
            obtain ⟨sU, tU⟩ := hSu
            obtain ⟨q0, q1, q2, q3, q4, q5⟩ := rows_r1 tU
            go_simp
          try simp only [Act.put, List.setIfInBounds_toArray, List.set_cons_zero, List.set_cons_succ]
          refine b_take 4 (some 83) (.pointer (some ⟨R, 0, none⟩)) rfl rfl (by kernel_rfl) (by kernel_rfl) (by kernel_rfl) (by kernel_rfl) (by kernel_rfl) (fun _ _ _ h => h) (by rfl) ⟨HK10.out.below (Below.refl _ _).drew, HJ10.out.drew⟩ ?_ ?_
          · intro u hSu
            obtain ⟨sU, tU⟩ := hSu
            go_simp
          try simp only [Act.put, List.setIfInBounds_toArray, List.set_cons_zero, List.set_cons_succ]
          refine b_take 5 (some 84) (.pointer (some ⟨R, 0, none⟩)) rfl rfl (by kernel_rfl) (by kernel_rfl) (by kernel_rfl) (by kernel_rfl) (by kernel_rfl) (fun _ _ _ h => h) (by rfl) ⟨HK10.out.below (Below.refl _ _).drew, HJ10.out.drew⟩ ?_ ?_
          · intro u hSu
            obtain ⟨sU, tU⟩ := hSu
            go_simp
          try simp only [Act.put, List.setIfInBounds_toArray, List.set_cons_zero, List.set_cons_succ]
          refine b_take 6 (some 85) (.pointer (some ⟨R, 10, none⟩)) rfl rfl (by kernel_rfl) (by kernel_rfl) (by kernel_rfl) (by kernel_rfl) (by kernel_rfl) (fun _ _ _ h => h) (by rfl) ⟨HK10.out.below (Below.refl _ _).drew, HJ10.out.drew⟩ ?_ ?_
          · intro u hSu
            obtain ⟨sU, tU⟩ := hSu
            go_simp
          try simp only [Act.put, List.setIfInBounds_toArray, List.set_cons_zero, List.set_cons_succ]
          refine b_take 7 (some 86) (.slice (some ⟨gn, 0, none⟩) 1 cn) rfl rfl (by kernel_rfl) (by kernel_rfl) (by kernel_rfl) (by kernel_rfl) (by kernel_rfl) (fun _ _ _ h => h) (by rfl) ⟨HK10.out.below (Below.refl _ _).drew, HJ10.out.drew⟩ ?_ ?_
          · intro u hSu
            obtain ⟨sU, tU⟩ := hSu
            obtain ⟨⟨f0, f1, f2, f3, f4, f5, f6, f7⟩, f8, f9, f10, f11⟩ := cells_v1 sU.blk
            go_simp
          try simp only [Act.put, List.setIfInBounds_toArray, List.set_cons_zero, List.set_cons_succ]
          refine b_take 8 (some 87) (.int .i64 0) rfl rfl (by kernel_rfl) (by kernel_rfl) (by kernel_rfl) (by kernel_rfl) (by kernel_rfl) (fun _ _ _ h => h) (by rfl) ⟨HK10.out.below (Below.refl _ _).drew, HJ10.out.drew⟩ ?_ ?_
          · intro u hSu
            obtain ⟨sU, tU⟩ := hSu
            go_simp
          try simp only [Act.put, List.setIfInBounds_toArray, List.set_cons_zero, List.set_cons_succ]
          refine b_take 9 (some 88) (.pointer (some ⟨gn, 0, none⟩)) rfl rfl (by kernel_rfl) (by kernel_rfl) (by kernel_rfl) (by kernel_rfl) (by kernel_rfl) (fun _ _ _ h => h) (by rfl) ⟨HK10.out.below (Below.refl _ _).drew, HJ10.out.drew⟩ ?_ ?_
          · intro u hSu
            obtain ⟨sU, tU⟩ := hSu
            go_simp
          try simp only [Act.put, List.setIfInBounds_toArray, List.set_cons_zero, List.set_cons_succ]
          refine b_take 10 (some 89) (.slice (some ⟨gc, 0, none⟩) 1024 cc) rfl rfl (by kernel_rfl) (by kernel_rfl) (by kernel_rfl) (by kernel_rfl) (by kernel_rfl) (fun _ _ _ h => h) (by rfl) ⟨HK10.out.below (Below.refl _ _).drew, HJ10.out.drew⟩ ?_ ?_
          · intro u hSu
            obtain ⟨sU, tU⟩ := hSu
            have q0 := sU.mn 0 _ rfl
            go_simp
          try simp only [Act.put, List.setIfInBounds_toArray, List.set_cons_zero, List.set_cons_succ]
          refine b_ready (rs := [3]) (by kernel_rfl) (by simp) ?_
          refine AllReadyB.cons (i := 3) rfl (fun K hK => ?_) AllReadyB.nil
          go_simp
          refine (HB4k _ (HK10.out.below (Below.refl _ _).drew)).out.mono ?_
          rintro e9 y5 ⟨rfl, h5⟩
          rw [h5]
          clear h5
          go_simp
          refine hK.out _ _ (fun _ => ⟨HK10.out.below (Below.refl _ _).drew, HJ10.out.drew⟩) ?_
          clear hK K
          try simp only [Act.put, List.setIfInBounds_toArray, List.set_cons_zero, List.set_cons_succ]
          obtain ⟨w11, hr6, ho6, hc6⟩ := HCc3.out _ (HO10.out.below (Below.refl _ _).drew) (HK10.out.ln.below (Below.refl _ _).drew)
          have HK11 := hide ((HK10.out.below (Below.refl _ _).drew).chg hc6)
          have HO11 := hide ho6
          have HB11 := hide (HB10.out.trans (Chg.below w.heap.size ((Chg.refl (fun k => some k = some g) _).drew.trans hc6) HB10.out.size (fun i hi e => by have := Option.some.inj e; have := HGw.out; omega)))
          have HJ11 := hide (HJ10.out.drew.chg hc6 (fun e => HJg.out (Option.some.inj e)))
          refine b_val 11 (some 90) (.int .i64 1024) w11 (by kernel_rfl) rfl rfl rfl (exec_copyE (s := .tmp 82) (x := .tmp 89) (tD := 24) (tS := 63) (v := .slice (some ⟨g, 4096, none⟩) 1024 126976) (q := .slice (some ⟨gc, 0, none⟩) 1024 cc) rfl (by rfl) (by rfl) hr6) (fun _ => ⟨HK11.out, HJ11.out⟩) ?_
          try simp only [Act.put, List.setIfInBounds_toArray, List.set_cons_zero, List.set_cons_succ]
          clear hr6 ho6 hc6
          refine b_done (by kernel_rfl) ?_ _
          go_wp2_with fail
          go_roundw
          case rel => exact ⟨1, by go_num, Or.inr ⟨rfl, HO11.out⟩, HK11.out, HB11.out⟩
          case measure => simp [intOf]
    · have HO3 := hide ho
      obtain ⟨r0, r1, r2, r3, r4, r5⟩ := cells_r1 HK3.out.row
      obtain ⟨⟨f0, f1, f2, f3, f4, f5, f6, f7⟩, f8, f9, f10, f11⟩ := cells_v1 HK3.out.blk
      clear ho
      go_wp2_with fail
      clear f0 f1 f2 f3 f4 f5 f6 f7 f8 f9 f10 f11 r0 r1 r2 r3 r4 r5
      refine (HT _).out.mono ?_
      rintro e9 w4 ⟨rfl, h4⟩
      have HK4 := hide (HK3.out.below h4)
      have HO4 := hide (HO3.out.below h4)
      have HB4 := hide (HB3.out.trans (h4.mono HB3.out.size))
      clear h4
      go_wp2_with fail
      refine (HB5k _ HK4.out).out.mono ?_
      rintro e9 y5 ⟨rfl, h5⟩
      rw [h5]
      clear h5
      go_wp2_with fail
      refine (HP4 _ HO4.out).out.mono ?_
      rintro e9 w5 ⟨rfl, ho5, hc5⟩
      have HK5 := hide (HK4.out.chg hc5)
      have HO5 := hide ho5
      have HB5 := hide (HB4.out.trans (Chg.below w.heap.size hc5 HB4.out.size (fun i hi e => by have := Option.some.inj e; have := HGw.out; omega)))
      clear ho5 hc5
      go_wp2_with fail
      refine (HB7k _ HK5.out).out.mono ?_
      rintro e9 y5 ⟨rfl, h5⟩
      rw [h5]
      clear h5
      go_wp2_with fail
      refine (HP5 _ HB5.out.size HO5.out).out.mono ?_
      rintro e9 w6 ⟨rfl, ho6, hc6⟩
      have HK6 := hide (HK5.out.chg hc6)
      have HO6 := hide ho6
      have HB6 := hide (HB5.out.trans (Chg.below w.heap.size hc6 HB5.out.size (fun i hi e => by have := Option.some.inj e; have := HGw.out; omega)))
      have q0 := HK6.out.box
      clear ho6 hc6
      go_wp2_with fail
      go_ret
      exact ⟨⟨g, rfl, HO6.out⟩, HB6.out⟩
end Go.Proofs.YtjmajjfknmjifaaDoor.Oct
