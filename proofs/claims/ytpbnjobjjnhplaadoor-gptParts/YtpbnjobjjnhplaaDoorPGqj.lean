/- The law's laid() is true. -/
import Derived.Test.YtpbnjobjjnhplaaDoorPGqi
namespace Go.Proofs.YtpbnjobjjnhplaaDoor.Oct
open Go.RowKit

theorem byts_overG {l m : List Int} {p : Nat} (hl : Byts l) (hm : Byts m) (hp : p + m.length ≤ l.length) : Byts (over l p m) := by
  have ht : (l.take p).length = p := by rw [List.length_take]; omega
  unfold over
  exact (hl.take p).append (hm.append (hl.drop _))

theorem byts_padG {l : List Int} (h : Byts l) : Byts (padG l) := h.append (Byts.zeros _)

theorem byts_headG (h : Hd) (hb : Byts h.id) : Byts (headL h) := by
  unfold headL headP
  simp only [List.flatten_cons, List.flatten_nil]
  refine Byts.append (byts_mag.append ((Byts.bytesOf _ _).append ((Byts.bytesOf _ _).append ((Byts.bytesOf _ _).append ((Byts.zeros _).append ((Byts.bytesOf _ _).append ((Byts.bytesOf _ _).append ((Byts.bytesOf _ _).append ((Byts.bytesOf _ _).append (hb.append ((Byts.bytesOf _ _).append ((Byts.bytesOf _ _).append ((Byts.bytesOf _ _).append ((Byts.bytesOf _ _).append ?_)))))))))))))) (Byts.zeros _)
  intro k
  simp

/-- A laid disk: as long as before, bytes. -/
theorem laidG_ok (d : List Int) (t : Tb) (hid : t.id.length = 16) (hbi : Byts t.id) (hok : ∀ x ∈ t.L, x.ok) (hbL : Byts (bytL t.L)) (hd : (d.length : Int) = 512 * t.sec) (hb : Byts d) (h : t.chk = 0) : (laidG d t).length = d.length ∧ Byts (laidG d t) := by
  obtain ⟨hs, hn, hp, _⟩ := chk_low t h
  have hbl := bytL_len t.L hok
  have hpl := padG_len (bytL t.L)
  rw [hbl] at hpl
  have hr : rowsG t.L.length = (((128 * t.L.length + 511) / 512 : Nat) : Int) := by unfold rowsG; omega
  unfold Tb.placed at hp
  rw [hr] at hp
  have l1 := headL_len t.head1 hid
  have l2 := headL_len t.head2 hid
  have p1 : 512 * t.at_.toNat + (padG (bytL t.L)).length ≤ d.length := by omega
  have k1 := over_length p1
  have p2 : 512 + (headL t.head1).length ≤ (over d (512 * t.at_.toNat) (padG (bytL t.L))).length := by omega
  have k2 := over_length p2
  have p3 : 512 * t.beh.toNat + (padG (bytL t.L)).length ≤ (over (over d (512 * t.at_.toNat) (padG (bytL t.L))) 512 (headL t.head1)).length := by omega
  have k3 := over_length p3
  have p4 : 512 * t.sec.toNat - 512 + (headL t.head2).length ≤ (over (over (over d (512 * t.at_.toNat) (padG (bytL t.L))) 512 (headL t.head1)) (512 * t.beh.toNat) (padG (bytL t.L))).length := by omega
  have k4 := over_length p4
  unfold laidG
  refine ⟨by omega, ?_⟩
  exact byts_overG (byts_overG (byts_overG (byts_overG hb (byts_padG hbL) p1) (byts_headG _ hbi) p2) (byts_padG hbL) p3) (byts_headG _ hbi) p4

theorem eql_x0 (u : World) : (binOp .eql 59 (.agg #[.int .i64 5120, .int .i64 10752]) (.agg #[.int .i64 5120, .int .i64 10752])).run Tryd.prog u = .ok (.bool true) u := by
  rw [run_eql_struct]
  kernel_rfl
theorem guard_x0 (w : World) (op : BinOp) (p q : Operand) (xs ys : Array Value) : (eqGuard op 59 p q (.agg xs) (.agg ys)).run Tryd.prog w = .ok () w := run_eqGuard_agg w op _ _ _ _ _ (by kernel_rfl)

theorem load_x2 {u : World} {g o : Nat} {x y : Value} (h0 : u.cell? ⟨g, o, none⟩ = some x) (h1 : u.cell? ⟨g, o + 1, none⟩ = some y) : (Instr.loadAt 59 (.pointer (some ⟨g, o, none⟩))).run Tryd.prog u = .ok (.agg #[x, y]) u := by
  have hl := run_loadVar_part (P := Tryd.prog) u g o 59 [x, y] _ (fun j v hv => by
    match j, hv with
    | 0, hv => simpa using h0.trans hv
    | 1, hv => simpa using h1.trans hv) Tryd.underlying59 rfl (by kernel_rfl)
  simp [Instr.loadAt, Instr.sureAddr, hl]

/-- An operation behind a guard that holds. -/
theorem wpList_execW {P : Program} {ops : Array Oper} {rest : List Oper} {o : Oper} {a : Act} {w w' : World} {Q : Exit → Act → World → Prop} {v : Value} (hw : Region.wanted o (yielded ops a.tmps) = true) (hr : (execOp a.eval o).run P w = .ok (.value v) w')
    (h : wpList P ops Q rest (a.put o.dst v) w') : wpList P ops Q (o :: rest) a w := by
  refine wpList_step fun K hK => ?_
  rw [if_pos hw]
  unfold Oper.wp
  rw [hr]
  exact hK _ _ h

/-- The disk of the law. -/
def disk0 : List Int := laidG (List.replicate 32768 0) tab0

theorem disk0_ok : disk0.length = 32768 ∧ Byts disk0 ∧ errG disk0 = 0 ∧ parG disk0 = tab0 := by
  have hl : ((List.replicate 32768 (0 : Int)).length : Int) = 512 * tab0.sec := by rw [List.length_replicate]; rfl
  have h1 := laidG_ok (List.replicate 32768 0) tab0 rfl (Byts.zeros 16) tab0_ok tab0_byts hl (Byts.zeros _) tab0_chk
  have h2 := par_laid (List.replicate 32768 0) tab0 rfl tab0_ok hl tab0_chk
  exact ⟨by have := h1.1; rw [List.length_replicate] at this; exact this, h1.2, h2.1, h2.2⟩

theorem parts0 : prtG tab0.L tab0.L.length = [(5120, 10752, 0, 1)] := by decide +kernel

set_option maxHeartbeats 8000000 in
set_option maxRecDepth 100000 in
theorem laid_ok (hSS : SortSays) (w : World) (hV : VarG w) :
    Calls Tryd.prog 8 #[] w fun e w' => e = .returned (.bool true) ∧ Below w.heap.size w w' := by
  obtain ⟨hdl, hdb, hde, hdp⟩ := disk0_ok
  have HZr := fun u => hide (show Calls Tryd.prog 23 #[.int .i64 32768] u fun e w' => ∃ v, e = .returned v ∧ Own w' u.heap.size v (List.replicate 32768 0) ∧ Below u.heap.size u w' by
    have z := Zeros_any 32768 u (by omega)
    rw [show ((32768 : Nat) : Int) = 32768 from rfl] at z
    exact z)
  have HTb := fun u => hide (table_ok u)
  have HOf := fun u g (hu : LiesEn u (some ⟨g, 0, none⟩) tab0.L) => hide (show Calls Tryd.prog 11 #[.agg (tab0.cells (.slice (some ⟨g, 0, none⟩) 4 4)).toArray] u fun e w' => (∃ vi b c, e = .returned (.agg (tab0.rc vi (.slice b 4 c))) ∧ SlG w' vi tab0.id ∧ LiesD w' b tab0.L) ∧ Below u.heap.size u w' from of_any tab0 (some ⟨g, 0, none⟩) 4 _ rfl rfl tab0_ok (by decide) u hu)
  have HLd := fun u vi b c a0 c0 (h1 : Sl u a0 c0 (List.replicate 32768 0)) (h2 : SlG u vi tab0.id) (h3 : LiesD u b tab0.L) => hide (show Calls Tryd.prog 22 #[.slice a0 32768 c0, .agg (tab0.rc vi (.slice b 4 c))] u fun q w' => (∃ v, q = .returned v ∧ Own w' u.heap.size v disk0) ∧ Below u.heap.size u w' by
    have h := laid_any tab0 (List.replicate 32768 0) vi b c a0 c0 rfl (Byts.zeros 16) tab0_ok tab0_byts tab0_chk (by rw [List.length_replicate]; rfl) (by rw [List.length_replicate]; omega) u h1 h2 h3
    rw [List.length_replicate] at h
    exact h)
  have HPr := fun u b c (h1 : 32768 ≤ c) (hu : Lies u (some ⟨b, 0, none⟩) disk0) (hv : VarG u) => hide (show Calls Tryd.prog 13 #[.iface 41 (.slice (some ⟨b, 0, none⟩) 32768 c)] u fun e w' => (∃ a c, e = .returned (.tuple #[.agg (tab0.cells (.slice a 4 c)).toArray, .int .i64 0]) ∧ LiesEn w' a tab0.L) ∧ Below u.heap.size u w' by
    have h := Parse_ok hSS b 0 c disk0 u (by rw [hdl]) (by rw [hdl]; omega) (by rw [hdl]; omega) (by rw [hdl]; exact h1) hdb hu hv
    unfold ParsedG at h
    rw [hdl, hde, hdp] at h
    exact h)
  have HPa := fun u a c (hu : LiesEn u a tab0.L) => hide (show Calls Tryd.prog 17 #[.agg (tab0.cells (.slice a 4 c)).toArray] u fun e w' => (∃ v, e = .returned v ∧ OwnP 61 w' u.heap.size v [(5120, 10752, 0, 1)]) ∧ Below u.heap.size u w' by
    have h := Parts_any tab0 a c _ rfl rfl tab0_ok (near_all tab0 (by decide) (by decide) (by decide) (by decide +kernel)) (by decide) u hu
    rw [parts0] at h
    exact h)
  have HDl := hide hdl
  have HDn := hide (show disk0 ≠ [] by intro h; rw [h] at hdl; cases hdl)
  have HV := hide hV
  clear hdl hdb hde hdp hSS hV
  go_enter Tryd.func8, Tryd.ntmps8
  go_upto_region 2 with (first | (go_at_call 23; refine (HZr _).out.mono ?_; rintro e w1 ⟨v1, rfl, ho, hb⟩; have HB1 := hide hb; obtain ⟨a1, c1, rfl, hs1⟩ := own_sl ho; rw [List.length_replicate]; have HS1 := hide hs1; clear ho hb hs1) | (go_at_call 24; refine (HTb _).out.mono ?_; rintro e w2 ⟨⟨g2, rfl, hl2⟩, hb⟩; have HB2 := hide (HB1.out.trans (hb.mono HB1.out.size)); have HS2 := hide (HS1.out.below hb); have HL2 := hide hl2; clear hb hl2) | (go_at_call 11; refine (HOf _ _ HL2.out).out.mono ?_; rintro e w3 ⟨⟨vi, b3, c3, rfl, hvi, hld⟩, hb⟩; have HB3 := hide (HB2.out.trans (hb.mono HB2.out.size)); have HS3 := hide (HS2.out.below hb); have HVi := hide hvi; have HL3 := hide hld; clear hb hvi hld) | (go_at_call 22; refine (HLd _ _ _ _ _ _ HS3.out HVi.out HL3.out).out.mono ?_; rintro e w4 ⟨⟨v4, rfl, ho⟩, hb⟩; have HB4 := hide (HB3.out.trans (hb.mono HB3.out.size)); obtain ⟨g4, c4, rfl, hl4, hc4, hm4⟩ := own_at ho HDn.out; rw [HDl.out] at hc4 ⊢; have HL4 := hide hl4; have HC4 := hide hc4; clear ho hb hl4 hc4 hm4))
  have HV4 := hide (HV.out.below HB4.out)
  go_upto_region 3 with (first | (go_at_call 13; refine (HPr _ _ _ HC4.out HL4.out HV4.out).out.mono ?_; rintro e w5 ⟨⟨a5, c5, rfl, hl5⟩, hb⟩; have HB5 := hide (HB4.out.trans (hb.mono HB4.out.size)); have HL5 := hide hl5; obtain ⟨T, hT⟩ : ∃ T, T = (tab0.cells (.slice a5 4 c5)).toArray := ⟨_, rfl⟩; have HTs := hide (show T.size = 22 by rw [hT]; exact tb_size rfl); have HTo := hide (show T.all (·.oneCell') = true by rw [hT]; exact tb_oneG _ _ _ _); have HPb := fun u hu => hide (show Calls Tryd.prog 17 #[.agg T] u fun e w' => (∃ v, e = .returned v ∧ OwnP 61 w' u.heap.size v [(5120, 10752, 0, 1)]) ∧ Below u.heap.size u w' by rw [hT]; exact (HPa u a5 c5 hu).out); rw [← hT]; clear hb hl5 hT) | (refine wpList_isop (.store 25 (.tmp 2) (.tmp 12)) rfl ?_; refine wpList_store_row rfl 25 (.tmp 2) (.tmp 12) rfl w5.heap.size T rfl rfl 25 _ (Blk.new _ _ _) (by rw [HTs.out]; kernel_rfl) (by rw [HTs.out]; kernel_rfl) HTo.out ?_))
  obtain ⟨X, hX⟩ : ∃ X, X = w5.heap.size := ⟨_, rfl⟩
  have hbn := alloc_tab (u := w5) (C := T)
  obtain ⟨w6, hw6⟩ : ∃ x, x = (w5.alloc (.cells z22 25)).setRow w5.heap.size T := ⟨_, rfl⟩
  rw [← hw6] at hbn ⊢
  have HB6 := hide (HB5.out.trans (hbn.2.mono HB5.out.size))
  have HL6 := hide (HL5.out.below hbn.2)
  have hbn1 := hbn.1
  rw [← hX] at hbn1 ⊢
  have HX6 := hide hbn1
  clear hbn hbn1 hw6 hX
  have hq := eql_x0
  have hg := guard_x0
  go_wp2_with (first | (refine wpList_isop (.load 25 (.tmp 2)) rfl ?_; first | refine wpList_execW (by kernel_rfl) (exec_ld rfl rfl (loadT HX6.out HTs.out)) ?_ | refine wpList_execW (by kernel_rfl) (exec_ld rfl rfl (loadT HX7.out HTs.out)) ?_) | (go_at_call 17; refine (HPb _ HL6.out).out.mono ?_; rintro e w7 ⟨⟨v7, rfl, ho⟩, hb⟩; have HB7 := hide (HB6.out.trans (hb.mono HB6.out.size)); have HX7 := hide (HX6.out.below hb); have HL7 := hide (HL6.out.below hb); obtain ⟨a7, c7, rfl, _⟩ := OwnP.form ho; clear ho hb) | (go_at_call 17; refine (HPb _ HL7.out).out.mono ?_; rintro e w8 ⟨⟨v8, rfl, ho⟩, hb⟩; have HB8 := hide (HB7.out.trans (hb.mono HB7.out.size)); obtain ⟨a8, c8, rfl, hli8, _⟩ := OwnP.form ho; rcases hli8 with hn8 | ⟨g8, o8, rfl, _, hc8⟩; (· cases hn8); have hc80 := hc8 0 (by decide); obtain ⟨p0, p1, p2, p3⟩ := hc80; rw [Nat.zero_mul, Nat.add_zero] at p0 p1; clear ho hb hc8) | (refine wpList_isop (.load 59 (.tmp 26)) rfl ?_; refine wpList_execW (by kernel_rfl) (exec_ld rfl rfl (load_x2 p0 p1)) ?_))
  go_ret
  exact ⟨rfl, HB8.out⟩
end Go.Proofs.YtpbnjobjjnhplaaDoor.Oct
