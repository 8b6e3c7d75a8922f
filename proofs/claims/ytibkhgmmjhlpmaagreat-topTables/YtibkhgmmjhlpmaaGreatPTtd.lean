/- TopTables, for every input: clusters that are given out, each put into an entry of a table, within changes: behind the commit, cut off anywhere, and a crash that keeps anything, each entry's cluster has the count 1, no two entries have one cluster, and all others are free; or all are free, if the changes were cut off (no condition). -/
import Derived.Test.YtibkhgmmjhlpmaaGreatPTtc
import Derived.BigQuiet
namespace Go.Proofs.YtibkhgmmjhlpmaaGreat.Oct
open Go.RowKit Go.Deep Go.WideShapes Go.ChangeShapes Go.ChangeAt Go.Sort

theorem make_t (w : World) : ∃ wb Z, (Instr.makeSlice 29 (.int .i64 16896) (.int .i64 16896)).run Tryz.prog w = .ok (.slice (some ⟨w.heap.size, 0, none⟩) 16896 16896) wb ∧ Own wb w.heap.size (.slice (some ⟨w.heap.size, 0, none⟩) 16896 16896) Z ∧ Z.length = 16896 ∧ Cts Z 0 ∧ Below w.heap.size w wb := by
  have h1 := run_make_bytes w 16896 (by omega)
  have h2 := Own.made w 16896 (by unfold maxLen; omega)
  have hb : Below w.heap.size w (w.alloc (.cells (madeCells #[.int .u8 0] 16896) 5)) := (Below.refl _ _).alloc (Nat.le_refl _) _
  obtain ⟨Z, hZ⟩ : ∃ Z, Z = List.replicate 16896 (0 : Int) := ⟨_, rfl⟩
  rw [← hZ] at h2
  refine ⟨_, Z, h1, h2, by rw [hZ]; exact List.length_replicate, fun x => ?_, hb⟩
  rw [if_neg (by omega), hZ, List.getD_eq_getElem?_getD, List.getElem?_replicate]
  split <;> rfl

theorem mod_pickT (x : Int) (b : Nat) (hb : 0 < b) : ∃ n : Nat, n < b ∧ (IntKind.u64.wrap x).tmod (b : Int) = (n : Int) := by
  have h0 : 0 ≤ IntKind.u64.wrap x := by rw [IntKind.wrap_u64]; omega
  have e : (IntKind.u64.wrap x).tmod b = (IntKind.u64.wrap x) % b := Int.tmod_eq_emod_of_nonneg h0
  rw [e]
  generalize IntKind.u64.wrap x = y at *
  have h1 := Int.emod_nonneg y (show (b : Int) ≠ 0 by omega)
  have h2 := Int.emod_lt_of_pos y (show (0 : Int) < b by omega)
  exact ⟨(y % b).toNat, by omega, by omega⟩

theorem pick64 (w : World) (x : Int) : Calls Tryz.prog 9 #[.int .i64 x, .int .i64 64] w fun e w' => ∃ t : Nat, t < 64 ∧ e = .returned (.int .i64 t) ∧ w' = w := by
  obtain ⟨t, ht, he⟩ := mod_pickT x 64 (by omega)
  have e2 : (IntKind.u64.wrap x).tmod 64 = (t : Int) := he
  clear he
  go_enter Tryz.func9, Tryz.ntmps9
  go_wp2_with fail
  go_ret
  exact ⟨t, ht, rfl, rfl⟩

theorem pick40 (w : World) (x : Int) : Calls Tryz.prog 9 #[.int .i64 x, .int .i64 40] w fun e w' => ∃ t : Nat, t < 40 ∧ e = .returned (.int .i64 t) ∧ w' = w := by
  obtain ⟨t, ht, he⟩ := mod_pickT x 40 (by omega)
  have e2 : (IntKind.u64.wrap x).tmod 40 = (t : Int) := he
  clear he
  go_enter Tryz.func9, Tryz.ntmps9
  go_wp2_with fail
  go_ret
  exact ⟨t, ht, rfl, rfl⟩

theorem info_iT : (Tryz.prog.info? 2).map (fun i => (i.zero, i.size, i.bytes)) = some (some (.int .i64 0), 1, 8) := by kernel_rfl

theorem new1T (w : World) (t : TypeId) (x : Value) : ∀ (j : Nat) (u : Value), [x][j]? = some u → (w.alloc (.cells #[x] t)).cell? ((⟨w.heap.size, 0, none⟩ : Addr).add j) = some u := by
  intro j u hj
  match j, hj with
  | 0, hj =>
    have h : (w.alloc (.cells #[x] t)).heap[w.heap.size]? = some (.cells #[x] t) := heap_alloc_new w _
    simp at hj
    subst hj
    rw [Go.WideShapes.add_plain]
    simp only [World.cell?, h]
    rfl

set_option maxRecDepth 100000 in
set_option maxHeartbeats 16000000 in
theorem tables_walk (a0 : Option Addr) (c0 : Nat) (L : List Int) (x1 : Int) (a2 : Option Addr) (c2 : Nat) (kp : List Bool) (w : World) (hL : LiesI w a0 L) (hLn : L.length ≤ maxLen) (hK : LiesB w a2 kp) (hkl : kp.length ≤ maxLen) :
    Calls Tryz.prog 3 #[.slice a0 L.length c0, .int .i64 x1, .slice a2 kp.length c2] w fun e w' => e = .returned (.bool true) ∧ Below w.heap.size w w' := by
  have HCk : ∀ u, Hid (Calls Tryz.prog 4 #[.agg #[.int .i64 9, .int .i64 32768, .int .i64 120, .int .i64 29, .bool false]] u fun e w' => e = .returned (.int .i64 0) ∧ Below u.heap.size u w') := fun u => hide (by have := check_any 9 32768 120 29 false u; rw [good120] at this; exact this)
  have HFi : ∀ u, Hid (Calls Tryz.prog 5 #[.agg #[.int .i64 9, .int .i64 32768, .int .i64 120, .int .i64 29, .bool false]] u fun e w' => e = .returned (.int .i64 33) ∧ Below u.heap.size u w') := fun u => hide (first9 120 (by omega) (by omega) u)
  have HRa : ∀ u, Hid (Calls Tryz.prog 6 #[.agg #[.int .i64 9, .int .i64 32768, .int .i64 120, .int .i64 29, .bool false]] u fun e w' => ∃ z, e = .returned (.agg #[.int .i64 15360, .int .i64 z]) ∧ Below u.heap.size u w') := fun u => hide (refsAt9 120 u)
  have HX0 : Hid (Bx8 (w.alloc (.cells #[.int .i64 9, .int .i64 32768, .int .i64 120, .int .i64 29, .bool false] 25)) w.heap.size 120) := hide (heap_new9 w _)
  have HB0 := hide ((Below.refl w.heap.size w).alloc (Nat.le_refl _) (.cells #[.int .i64 9, .int .i64 32768, .int .i64 120, .int .i64 29, .bool false] 25))
  have HL := hide hL
  have HK := hide hK
  unfold maxLen at hLn hkl
  clear hL hK
  go_enter Tryz.func3, Tryz.ntmps3
  go_wp2_with fail
  refine ((HCk _).out).mono ?_
  rintro e9 w1 ⟨rfl, hb1⟩
  have HX1 := hide (HX0.out.below hb1)
  have HB1 := hide (HB0.out.trans (hb1.mono HB0.out.size))
  obtain ⟨x0, x1', x2, x3, x4⟩ : (fun u : World => u.cell? ⟨w.heap.size, 0, none⟩ = some (.int .i64 9) ∧ u.cell? ⟨w.heap.size, 1, none⟩ = some (.int .i64 32768) ∧ u.cell? ⟨w.heap.size, 2, none⟩ = some (.int .i64 120) ∧ u.cell? ⟨w.heap.size, 3, none⟩ = some (.int .i64 29) ∧ u.cell? ⟨w.heap.size, 4, none⟩ = some (.bool false)) w1 := HX1.out.cell
  clear hb1 HX0 HB0
  go_wp2_with fail
  refine ((HFi _).out).mono ?_
  rintro e9 w2 ⟨rfl, hb2⟩
  have HX2 := hide (HX1.out.below hb2)
  have HB2 := hide (HB1.out.trans (hb2.mono HB1.out.size))
  clear hb2 HX1 HB1 x0 x1' x2 x3 x4
  obtain ⟨x0, x1', x2, x3, x4⟩ : (fun u : World => u.cell? ⟨w.heap.size, 0, none⟩ = some (.int .i64 9) ∧ u.cell? ⟨w.heap.size, 1, none⟩ = some (.int .i64 32768) ∧ u.cell? ⟨w.heap.size, 2, none⟩ = some (.int .i64 120) ∧ u.cell? ⟨w.heap.size, 3, none⟩ = some (.int .i64 29) ∧ u.cell? ⟨w.heap.size, 4, none⟩ = some (.bool false)) w2 := HX2.out.cell
  by_cases h60 : 60 < L.length
  · go_wp2_with fail
    refine ((HFi _).out).mono ?_
    rintro e9 w3 ⟨rfl, hb3⟩
    have HB3 := hide (HB2.out.trans (hb3.mono HB2.out.size))
    clear hb3
    go_wp2_with fail
    go_ret
    exact ⟨rfl, HB3.out⟩
  by_cases h200 : 200 < kp.length
  · go_wp2_with fail
    refine ((HFi _).out).mono ?_
    rintro e9 w3 ⟨rfl, hb3⟩
    have HB3 := hide (HB2.out.trans (hb3.mono HB2.out.size))
    clear hb3
    go_wp2_with fail
    go_ret
    exact ⟨rfl, HB3.out⟩
  go_wp2_with fail
  refine ((HFi _).out).mono ?_
  rintro e9 w3 ⟨rfl, hb3⟩
  have HX3 := hide (HX2.out.below hb3)
  have HB3 := hide (HB2.out.trans (hb3.mono HB2.out.size))
  obtain ⟨wm, Z, hmk, hZo, hZl, hZc, hbm⟩ := make_t w3
  have HXm := hide (HX3.out.below hbm)
  have HBm := hide (HB3.out.trans (hbm.mono HB3.out.size))
  have HZo := hide hZo
  have HZl := hide hZl
  have HZc := hide hZc
  have hgw : w.heap.size < w3.heap.size := HX3.out.lt
  obtain ⟨g, hg⟩ : ∃ g, g = w3.heap.size := ⟨_, rfl⟩
  rw [← hg] at HZo hmk hgw
  clear hg
  have hB3s := HB3.out.size
  clear hb3 HX2 HB2 HX3 x0 x1' x2 x3 x4 hZo hZl hZc hbm
  go_wp2_with fail
  have hfl : ∀ z u, (Instr.field 31 (.agg #[.int .i64 15360, .int .i64 z]) 0).run Tryz.prog u = .ok (.int .i64 15360) u := fun _ _ => by kernel_rfl
  go_loopw [9] (fun i wr => ∃ (k : Nat) (l : List Int), k ≤ 33 ∧ i = .int .i64 (k : Int) ∧ Own wr g (.slice (some ⟨g, 0, none⟩) 16896 16896) l ∧ l.length = 16896 ∧ Cts l k ∧ Bx8 wr w.heap.size 120 ∧ Below w.heap.size w wr) (fun i _ => 33 - (intOf i).toNat)
  case atStart => exact ⟨0, Z, by omega, rfl, HZo.out, HZl.out, HZc.out, HXm.out, HBm.out⟩
  case round =>
    obtain ⟨k, l, hk, rfl, ho, hLl, hLc, hx, hbel⟩ := hrel
    have HOw := hide ho
    have HLl := hide hLl
    have HLc := hide hLc
    have HXr := hide hx
    have HBl := hide hbel
    obtain ⟨x0, x1', x2, x3, x4⟩ : (fun u : World => u.cell? ⟨w.heap.size, 0, none⟩ = some (.int .i64 9) ∧ u.cell? ⟨w.heap.size, 1, none⟩ = some (.int .i64 32768) ∧ u.cell? ⟨w.heap.size, 2, none⟩ = some (.int .i64 120) ∧ u.cell? ⟨w.heap.size, 3, none⟩ = some (.int .i64 29) ∧ u.cell? ⟨w.heap.size, 4, none⟩ = some (.bool false)) wr := hx.cell
    clear ho hLl hLc hx hbel hmk
    go_wp2_with fail
    refine ((HFi _).out).mono ?_
    rintro e9 w4 ⟨rfl, hb4⟩
    have HO4 := hide (HOw.out.below hb4)
    have HX4 := hide (HXr.out.below hb4)
    have HB4 := hide (HBl.out.trans (hb4.mono HBl.out.size))
    clear hb4 x0 x1' x2 x3 x4
    obtain ⟨x0, x1', x2, x3, x4⟩ : (fun u : World => u.cell? ⟨w.heap.size, 0, none⟩ = some (.int .i64 9) ∧ u.cell? ⟨w.heap.size, 1, none⟩ = some (.int .i64 32768) ∧ u.cell? ⟨w.heap.size, 2, none⟩ = some (.int .i64 120) ∧ u.cell? ⟨w.heap.size, 3, none⟩ = some (.int .i64 29) ∧ u.cell? ⟨w.heap.size, 4, none⟩ = some (.bool false)) w4 := HX4.out.cell
    by_cases hlt : k < 33
    · go_wp2_with fail
      refine ((HRa _).out).mono ?_
      rintro e9 w5 ⟨z, rfl, hb5⟩
      have HO5 := hide (HO4.out.below hb5)
      have HX5 := hide (HX4.out.below hb5)
      have HB5 := hide (HB4.out.trans (hb5.mono HB4.out.size))
      clear hb5 x0 x1' x2 x3 x4
      have cc := HO5.out.cell HLl.out.symm (15360 + 2 * k) (by omega)
      have ff := HO5.out.free HLl.out.symm (15360 + 2 * k)
      generalize l.getD (15360 + 2 * k) 0 = old at cc
      have htn : (15360 + 2 * (k : Int)).toNat = 15360 + 2 * k := by omega
      go_wp2_with fail
      have hs := HO5.out.set HLl.out.symm (15360 + 2 * k) 1
      exact ⟨⟨k + 1, l.set (15360 + 2 * k) 1, by omega, by go_num, hs.1, by rw [List.length_set]; exact HLl.out, HLc.out.more (by rw [HLl.out]; omega), HX5.out.grown hs.2 (by omega), HB5.out.grown hs.2 HB5.out.size (fun q hq => by simp at hq; omega)⟩, by simp [intOf]; omega⟩
    · obtain rfl : k = 33 := by omega
      have hbas : Bas l := ⟨HLl.out, fun i => HLc.out i⟩
      have hl : Lies w4 (some ⟨g, 0, none⟩) l := by
        obtain ⟨a, c, e, hl, _⟩ := HO4.out.form
        simp at e
        obtain ⟨rfl, -, -⟩ := e
        exact hl
      have HN := hide (new_fl w4 (some ⟨g, 0, none⟩) 16896 l hl (by rw [HLl.out]; omega))
      rw [HLl.out] at HN
      have HBas := hide hbas
      clear hl x0 x1' x2 x3 x4 hbas
      go_wp2_with fail
      refine HN.out.mono ?_
      rintro e9 w5 ⟨F, f0, rfl, hf5, _, hb5⟩
      have HF5 := hide hf5
      have HB5 := hide hb5
      have HX5 := hide (HX4.out.below hb5)
      obtain ⟨x0, x1', x2, x3, x4⟩ : (fun u : World => u.cell? ⟨w.heap.size, 0, none⟩ = some (.int .i64 9) ∧ u.cell? ⟨w.heap.size, 1, none⟩ = some (.int .i64 32768) ∧ u.cell? ⟨w.heap.size, 2, none⟩ = some (.int .i64 120) ∧ u.cell? ⟨w.heap.size, 3, none⟩ = some (.int .i64 29) ∧ u.cell? ⟨w.heap.size, 4, none⟩ = some (.bool false)) w5 := HX5.out.cell
      have HOp := hide (opened_any w5 F _ f0 _ _ l hf5 (by omega) (by omega) (b := l) (D := []) (nu' := 0) ⟨rfl, by omega, by rw [HLl.out]; omega, by rw [HLl.out]; omega, by simp [lenD], fun r hr => (by cases hr), HBas.out.says.1, fun r hr => (by cases hr), HBas.out.says.2.1⟩ (Or.inl ⟨rfl, fun _ _ => rfl, HBas.out.says.2.1, HBas.out.says.1⟩))
      clear hf5 hb5 HN
      go_wp2_with fail
      refine HOp.out.mono ?_
      rintro e9 w6 ⟨T, A1, A2, J, X, f6, S, rfl, hst, hrf, hta, hfin, ⟨hby, hsg⟩, hop, hx, hxl, hlo, hne, hxa, hc6⟩
      obtain ⟨hRst, hSl, hGv, hSt⟩ := HBas.out.start hfin hsg hby
      have hs45 := HB5.out.size
      have HH6 : Hid (Hld w4 w6 T J F A1 A2 X f6 S (.map none) (.map none) (fun _ => Z5) (fun _ => Z5) (.slice none 0 0) [] 40000) := hide
        ⟨hst, by omega, hrf, hta, fun r hr => (by rcases hr with h | h <;> cases h), fun i hi => (hx i hi).elim (fun e => e.1) (fun e => by omega), hxl, ⟨by omega, by omega, by omega, by omega⟩, hne, hxa, World.ownsRow_nil _ _ _ _, fun g hg => (by simp [Value.ownBlock] at hg), HB5.out.trans (hc6.below _ hs45 (fun i hi e => by omega))⟩
      have HRst := hide hRst
      have HGv := hide hGv
      have HSt := hide hSt
      have HSl := hide hSl
      obtain ⟨i1, hi1, hz0, hz1, hz2⟩ := info_parts info_iT
      clear hst hrf hta hfin hby hsg hop hx hxl hlo hne hxa hc6 hRst hGv hSt hSl HOp HF5 HX5 x0 x1' x2 x3 x4
      go_wp2_with fail
      go_loopw [16, 17] (fun vu vi wr => ∃ (i : Nat) (U : List Nat) (f : Fs) (vb vm : Value) (B M : Int → List Int) (E : List E3), i ≤ L.length ∧ vi = .int .i64 (i : Int) ∧ Hld w4 wr T J F A1 A2 X f S vb vm B M vu U (40000 + 3 * i) ∧ Gvn S B M E U ∧ U.length ≤ i) (fun _ i _ => L.length - (intOf i).toNat)
      case atStart => exact ⟨0, [], _, _, _, _, _, _, by omega, rfl, HH6.out, HGv.out, by simp⟩
      case round =>
        obtain ⟨i, U, f, vb, vm, B, M, E, hi, rfl, hH, hG, hUi⟩ := hrel
        have HH := hide hH
        have HG := hide hG
        clear hH hG HH6 HGv
        by_cases hlt2 : i < L.length
        · rcases HL.out with h0 | ⟨pb, poff, rfl, hpb, hpc⟩
          · rw [h0] at hlt2; simp at hlt2
          have hbw : Below w.heap.size w wr := HB4.out.trans (HH.out.bel.mono HB4.out.size)
          have p0 := (hbw.cell (p := ⟨pb, poff + i, none⟩) hpb).trans (hpc i hlt2)
          clear hpc hbw
          generalize L.getD i 0 = px at *
          go_wp2_with fail
          refine (pick64 _ px).mono ?_
          rintro e9 w9a ⟨q, hq, rfl, h9a⟩
          rw [h9a]
          clear h9a
          obtain ⟨ex, ey, ez, hE⟩ : ∃ ex ey ez, E.getD q z3 = (ex, ey, ez) := ⟨_, _, _, rfl⟩
          have HNt : Hid (ex = 2 ↔ q ∈ U) := hide (by have := HG.out.use.not q hq; rw [hE] at this; exact this)
          have HGe := hide (HH.out.get HG.out HSl.out (by omega) q hq ex ey ez hE)
          clear hE
          go_wp2_with fail
          refine HGe.out.mono ?_
          rintro e9 w7 ⟨rfl, f7, hH7⟩
          have hb78 : Below w7.heap.size w7 (w7.alloc (.cells #[.int .i64 ex, .int .i64 ey, .bool ez] 43)) := (Below.refl _ _).alloc (Nat.le_refl _) _
          have HH8 := hide (hH7.below hb78)
          clear hH7 hb78 HGe
          by_cases he2 : ex = 2
          · subst he2
            go_wp2_with fail
            exact ⟨⟨i + 1, U, f7, vb, vm, B, M, E, by omega, by go_num, HH8.out.more (by omega), HG.out, by omega⟩, by simp [intOf]; omega⟩
          · have hqn : q ∉ U := fun e => he2 (HNt.out.2 e)
            have HAl := hide (HH8.out.alloc HG.out HSl.out (by omega) (by omega))
            go_wp2_with fail
            refine HAl.out.mono ?_
            rintro e9 w9 ⟨rfl, f9, vb9, vm9, B9, M9, hH9, hse⟩
            have HSe := hide (Hld.set hH9 HG.out (by omega) hse q hq hqn)
            clear hH9 hse HAl HH8
            go_wp2_with fail
            refine HSe.out.mono ?_
            rintro e9 w10 ⟨rfl, vb10, vm10, B10, M10, hH10, hG10⟩
            have HHa := hide (hH10.below ((Below.refl w10.heap.size w10).alloc (Nat.le_refl _) (.cells #[.int .i64 (q : Int)] 2)))
            have HG10 := hide hG10
            clear hH10 hG10 HSe
            go_wp2_with (at_builtin; refine wpList_append_own_at _ rfl (.tmp 125) (.tmp 127) 22 rfl w4.heap.size 2 i1 (.int .i64 0) 1 8 Tryz.underlying22 hi1 hz0 hz1 hz2 rfl (by decide) u16 U.length (U.map (fun i : Nat => Value.int .i64 (i : Int))) rfl HHa.out.row ⟨w10.heap.size, 0, none⟩ 1 1 [.int .i64 (q : Int)] rfl rfl (by exact new1T w10 _ _) (by simp [Value.oneCell']) (by unfold maxLen; omega) (by omega) HHa.out.bel.size ?_; intro v9 w11 ho9 hg9 _ hw9; have HH11 := hide (HHa.out.push ho9 hg9 hw9); clear ho9 hg9 hw9)
            exact ⟨⟨i + 1, U ++ [q], f9, vb10, vm10, B10, M10, E.set q (2, 33 + (U.length : Int), true), by omega, by go_num, HH11.out.more (by omega), HG10.out, by simp; omega⟩, by simp [intOf]; omega⟩
        · obtain rfl : i = L.length := by omega
          obtain ⟨au, cu, rfl⟩ : ∃ au cu, u16 = .slice au U.length cu := by
            rcases HH.out.row.2 with ⟨e, hn⟩ | ⟨gg, cap, cur, e, _⟩
            · exact ⟨none, 0, by rw [e, hn]⟩
            · exact ⟨_, _, e⟩
          go_wp2_with fail
          refine (pick40 _ x1).mono ?_
          rintro e9 w9a ⟨t, ht, rfl, h9a⟩
          rw [h9a]
          clear h9a
          have HSp := hide (HH.out.stop HSl.out (by omega) (1 + t) (by omega) (by omega))
          rw [show ((1 + t : Nat) : Int) = 1 + (t : Int) by omega] at HSp
          go_wp2_with fail
          refine HSp.out.mono ?_
          rintro e9 w7 ⟨rfl, f7, nu7, hq7, hc7⟩
          have HCo := hide (commit_t w7 T J F X f7 _ vb vm hq7 HRst.out (HG.out.ahm HSl.out hq7.ov.ml HH.out.st.two HH.out.st.neg))
          have HC7 := hide hc7
          clear hq7 hc7 HSp
          go_wp2_with fail
          refine HCo.out.mono ?_
          rintro e9 w8 ⟨X8, f8, A8, k8, n8, hf8, hn8, hc8, hcase⟩
          have hb48 : Below w4.heap.size w4 w8 := by
            have h1 : Chg (fun i => X i ∨ i = J ∨ i = T) wr w8 := (HC7.out.mono (fun i _ e => Or.inl e)).trans hc8
            refine HH.out.bel.trans (h1.below _ HH.out.bel.size (fun i hi e => ?_))
            rcases e with e | e | e
            · have := HH.out.xlo i e; omega
            · have := HH.out.lo; omega
            · have := HH.out.lo; omega
          obtain ⟨c8, rfl, hcs⟩ : ∃ c8 : Int, e9 = .returned (.int .i64 c8) ∧ ((c8 = 0 ∧ Way A8 (lisU S B M) (lisU S B M)) ∨ (c8 = 5 ∧ Way A8 S (lisU S B M))) := by
            rcases hcase with ⟨rfl, h9⟩ | ⟨rfl, h9⟩
            · exact ⟨0, rfl, Or.inl ⟨rfl, h9⟩⟩
            · exact ⟨5, rfl, Or.inr ⟨rfl, h9⟩⟩
          have hbw8 : Below w.heap.size w w8 := HB4.out.trans (hb48.mono HB4.out.size)
          have HX8 := hide (HX4.out.below hb48)
          have HBw8 := hide hbw8
          obtain ⟨m1, hm1, hway⟩ : ∃ m1, ((m1 = S ∧ c8 = 5) ∨ m1 = lisU S B M) ∧ Way A8 m1 (lisU S B M) := by
            rcases hcs with ⟨e, h9⟩ | ⟨e, h9⟩
            · exact ⟨_, Or.inr rfl, h9⟩
            · exact ⟨_, Or.inl ⟨rfl, e⟩, h9⟩
          obtain ⟨b', nu', D, hgiv, hst8, hbl, hpl, hlow, hhi⟩ := hway
          have HCr := hide (crash_fl w8 X8 F f8 A8 k8 n8 hf8 hn8 a2 c2 kp (HK.out.below hbw8))
          have hcr : crashD A8 kp = leftD A8.T A8.D kp A8.D.length := rfl
          rw [← hcr] at HCr
          have hstk := hst8 kp
          obtain ⟨s1, s2, s3, _, _⟩ := hstk.says hgiv
          generalize crashD A8 kp = R at *
          have HEnd : Hid (∀ S', Fin b' 512 15360 D S' → S'.length = 16896 ∧ ∃ E' U', CntF (fun x => S'.getD x 0) U'.length ∧ EntF (fun x => S'.getD x 0) E' ∧ EntU E' U' ∧ (U' = U ∨ (U' = [] ∧ c8 = 5))) := hide (fun S' hf => by
            have hew := fin_end hf hbl hpl hlow hhi
            exact ⟨hew.1, end_says HBas.out HSt.out HG.out hm1 hew⟩)
          have HGs := hide (And.intro hgiv hstk)
          have HRl : Hid (R.length ≤ 4194304) := hide s2
          have hUl : U.length ≤ 60 := by omega
          clear hf8 hn8 hc8 hcase hb48 hbw8 hcs hm1 hgiv hst8 hbl hpl hlow hhi hcr hstk s1 s2 s3 HCo HC7 HH HG HRst HSl HSt HBas
          go_wp2_with fail
          obtain ⟨dn, hdn⟩ : ∃ dn, dn = (c8 == 0) := ⟨_, rfl⟩
          rw [← hdn]
          have HDn : Hid (c8 = 5 → dn = false) := hide (fun e => by rw [hdn, e]; rfl)
          clear hdn
          refine HCr.out.mono ?_
          rintro e9 w2c ⟨v2, rfl, ho2, hb2⟩
          obtain ⟨aR, cR, rfl, hlR, _⟩ := ho2.form
          have HNw := hide (new_fl w2c aR cR R hlR HRl.out)
          have HX9 := hide (HX8.out.below hb2)
          have HB9 := hide (HBw8.out.trans (hb2.mono HBw8.out.size))
          clear ho2 hb2 hlR HCr HX8 HBw8
          go_wp2_with fail
          refine HNw.out.mono ?_
          rintro e9 w3c ⟨G, f3, rfl, hf3, _, hb3⟩
          have HXa := hide (HX9.out.below hb3)
          have HBa := hide (HB9.out.trans (hb3.mono HB9.out.size))
          obtain ⟨x0, x1', x2, x3, x4⟩ : (fun u : World => u.cell? ⟨w.heap.size, 0, none⟩ = some (.int .i64 9) ∧ u.cell? ⟨w.heap.size, 1, none⟩ = some (.int .i64 32768) ∧ u.cell? ⟨w.heap.size, 2, none⟩ = some (.int .i64 120) ∧ u.cell? ⟨w.heap.size, 3, none⟩ = some (.int .i64 29) ∧ u.cell? ⟨w.heap.size, 4, none⟩ = some (.bool false)) w3c := HXa.out.cell
          have HOp2 := hide (opened_any w3c G _ f3 _ _ R hf3 (by omega) (by omega) HGs.out.1 HGs.out.2)
          have hs23 := hb3.size
          have HB3c := hide hb3
          have hPl := HX9.out.lt
          clear hf3 hb3 HNw
          go_wp2_with fail
          refine HOp2.out.mono ?_
          rintro e9 w4c ⟨T', A1', A2', J', X', f', S', rfl, hst, hrf, hta, hfin, ⟨hby, _⟩, hop, hx, hxl, hlo, hne, hxa, hc4⟩
          obtain ⟨hSl', E', U', hcf, hef, heu, hUU⟩ := HEnd.out S' hfin
          have hz : ∀ x y, valT (fun _ => Z5) (fun _ => Z5) x y = y := fun x y => by
            unfold valT
            exact if_pos (z5_getQ _)
          have hsee : ∀ x, seeT S' (fun _ => Z5) (fun _ => Z5) x = S'.getD x 0 := fun x => hz x _
          have hby2 : ∀ x, 0 ≤ seeT S' (fun _ => Z5) (fun _ => Z5) x ∧ seeT S' (fun _ => Z5) (fun _ => Z5) x < 256 := fun x => by rw [hsee x]; exact hby x
          have hb9c : Below w2c.heap.size w2c w4c := HB3c.out.trans (hc4.below _ hs23 (fun i hi e => by omega))
          have HXb := hide (HX9.out.below hb9c)
          have HBb := hide (HB9.out.trans (hb9c.mono HB9.out.size))
          have hGx := hst.fil.xF
          have hGl : w.heap.size < G := by
            have := hx G hGx
            omega
          have hG4 := hxl G hGx
          have HAl := hide (rfs_all w4c A1' T' J' G X' f' S' _ _ _ _ _ _ hst (by omega) (by omega) hxl hby2 120 hrf hxa.1 (by omega) (by omega))
          have HTa := hide hta
          have HXA := hide hxa
          have HEf := hide hef
          have HCf := hide hcf
          have HEu := hide heu
          have HUU := hide hUU
          have HSee := hide hsee
          have HBy2 := hide hby2
          have HXl' := hide hxl
          have HSl' := hide hSl'
          have hop' := hop
          clear hst hrf hta hfin hby hx hxl hlo hne hxa hc4 hcf hef heu hUU hz hsee hby2 hb9c HOp2 HX9 HB9 HXa HBa x0 x1' x2 x3 x4 HB3c HGs HEnd HRl hSl' hop
          go_wp2_with fail
          refine HAl.out.mono ?_
          rintro e9 w5c ⟨v5, f5, Lc, rfl, ho5, hL5, hLc, hst5, hop5, hc5⟩
          have HTl := hide (tab_all w5c A2' T' J' G X' f5 S' _ _ _ _ _ _ hst5 (by rw [HSl'.out]; omega) (by omega) (fun i hi => Nat.lt_of_lt_of_le (HXl'.out i hi) hc5.size) HBy2.out 32 ((hc5.block A2' HTa.out.lt (fun e => HXA.out.2 (e ▸ hGx))).trans HTa.out) HXA.out.2 (by omega) E' (EntF.ents (by rw [show seeT S' (fun _ => Z5) (fun _ => Z5) = fun x => S'.getD x 0 from funext HSee.out]; exact HEf.out)))
          have hs45 := hc5.size
          have HC5 := hide hc5
          have HO5 := hide ho5
          have HLc : Hid (∀ j, j < 120 → Lc.getD j 0 = if j < 33 + U'.length then 1 else 0) := hide (fun j hj => by
            rw [hLc j hj]
            unfold cntR
            rw [HSee.out, HSee.out]
            exact HCf.out j hj)
          have HL5 := hide hL5
          clear ho5 hL5 hLc hst5 hop5 hc5 HAl
          go_wp2_with fail
          refine HTl.out.mono ?_
          rintro e9 w6c ⟨v6, rfl, ho6, hc6⟩
          obtain ⟨gL, cL, rfl⟩ : ∃ gL cL, v5 = .slice (some ⟨gL, 0, none⟩) 120 cL := by
            rcases HO5.out.2 with ⟨_, hn⟩ | ⟨gg, cap, cur, e, _⟩
            · have := HL5.out; omega
            · rw [HL5.out] at e; exact ⟨_, _, e⟩
          obtain ⟨gE, cE, rfl⟩ : ∃ gE cE, v6 = .slice (some ⟨gE, 0, none⟩) 64 cE := by
            rcases ho6.2 with ⟨_, hn⟩ | ⟨gg, cap, cur, e, _⟩
            · have := HEf.out.len; omega
            · rw [HEf.out.len] at e; exact ⟨_, _, e⟩
          have hgL := World.ownsRow.lt HO5.out gL rfl
          have hgE := World.ownsRow.lt ho6 gE rfl
          have HcL : Hid (∀ j, j < 120 → w6c.cell? ⟨gL, j, none⟩ = some (.int .i64 (if j < 33 + U'.length then 1 else 0))) := hide (fun j hj => by
            have h1 := HO5.out.cell HL5.out.symm j hj
            rw [HLc.out j hj] at h1
            exact hc6.cell h1 (fun e => by omega))
          have HcE : Hid (∀ i, i < 64 → w6c.cell? ⟨gE, i * 3, none⟩ = some (.int .i64 (E'.getD i z3).1) ∧ w6c.cell? ⟨gE, i * 3 + 1, none⟩ = some (.int .i64 (E'.getD i z3).2.1)) := hide (fun i hi => by
            obtain ⟨h1, h2, _⟩ := OwnN.cells ho6 i (by rw [HEf.out.len]; exact hi)
            exact ⟨h1, h2⟩)
          have hbc : Below w.heap.size w w6c := HBb.out.trans (((HC5.out.trans hc6)).below _ HBb.out.size (fun i hi e => by omega))
          have HX6 : Hid (Bx8 w6c w.heap.size 120) := hide ((((HC5.out.trans hc6)).block _ HXb.out.lt (fun e => by omega)).trans HXb.out)
          have HBc := hide hbc
          have hgL2 : gL < w6c.heap.size := Nat.lt_of_lt_of_le hgL.2 hc6.size
          have hUle : U'.length ≤ 64 := by
            have := cU_all U' HEu.out.nd HEu.out.lt
            have := cU_le U' 64
            omega
          have hgE2 := hgE.2
          clear ho6 hc6 hbc HTl HC5 HO5 HLc HL5 HXb HBb HTa HXA HSee HBy2 HXl' hgL hgE HCf
          go_wp2_with fail
          go_loopw [26, 27] (fun vk vi wr => ∃ i : Nat, i ≤ 64 ∧ vi = .int .i64 (i : Int) ∧ vk = .int .i64 ((cU U' i : Nat) : Int) ∧ Below w6c.heap.size w6c wr) (fun _ i _ => 64 - (intOf i).toNat)
          case atStart => exact ⟨0, by omega, rfl, rfl, Below.refl _ _⟩
          case round =>
            obtain ⟨i, hi, rfl, rfl, hbr⟩ := hrel
            have hcl := cU_le U' i
            by_cases hlt : i < 64
            · obtain ⟨q0, q1⟩ := HcE.out i hlt
              have r0 := (hbr.cell (p := ⟨gE, i * 3, none⟩) hgE2).trans q0
              have r1 := (hbr.cell (p := ⟨gE, i * 3 + 1, none⟩) hgE2).trans q1
              have HSt : Hid (cU U' (i + 1) = cU U' i + (if i ∈ U' then 1 else 0)) := hide rfl
              have HNt := hide (HEu.out.not i hlt)
              have HBr := hide hbr
              clear q0 q1 hbr
              by_cases hm : i ∈ U'
              · obtain ⟨j, hj, _, hEi⟩ := HEu.out.at_ i hm
                rw [if_pos hm] at HSt
                rw [hEi] at r0 r1
                have r2 := (HBr.out.cell (p := ⟨gL, 33 + j, none⟩) hgL2).trans (HcL.out (33 + j) (by omega))
                rw [if_pos (by omega)] at r2
                have HXr := hide (HX6.out.below HBr.out)
                have HX := hide HXr.out.drew
                have HB : Hid (Below wr.heap.size wr wr.drew) := hide (Below.refl _ _).drew
                obtain ⟨x0, x1', x2, x3, x4⟩ : (fun u : World => u.cell? ⟨w.heap.size, 0, none⟩ = some (.int .i64 9) ∧ u.cell? ⟨w.heap.size, 1, none⟩ = some (.int .i64 32768) ∧ u.cell? ⟨w.heap.size, 2, none⟩ = some (.int .i64 120) ∧ u.cell? ⟨w.heap.size, 3, none⟩ = some (.int .i64 29) ∧ u.cell? ⟨w.heap.size, 4, none⟩ = some (.bool false)) wr.drew := HX.out.cell
                have HEi := hide hEi
                have htn : (33 + (j : Int)).toNat = 33 + j := by omega
                have hj0 : ¬ ((33 : Int) + (j : Int) < 0) := by omega
                have hj1 : (33 : Int) + (j : Int) < 120 := by omega
                have d1 : wr.drew.cell? ⟨gE, i * 3 + 1, none⟩ = some (.int .i64 (33 + (j : Int))) := r1
                have d2 : wr.drew.cell? ⟨gL, 33 + j, none⟩ = some (.int .i64 1) := r2
                have hgE3 : gE < wr.heap.size := Nat.lt_of_lt_of_le hgE2 HBr.out.size
                have hgL3 : gL < wr.heap.size := Nat.lt_of_lt_of_le hgL2 HBr.out.size
                clear hEi
                go_wp2_with fail
                go_region_held3 (fun u => u.cell? ⟨gE, i * 3 + 1, none⟩ = some (.int .i64 (33 + (j : Int))) ∧ u.cell? ⟨gL, 33 + j, none⟩ = some (.int .i64 1) ∧ u.cell? ⟨w.heap.size, 0, none⟩ = some (.int .i64 9) ∧ u.cell? ⟨w.heap.size, 1, none⟩ = some (.int .i64 32768) ∧ u.cell? ⟨w.heap.size, 2, none⟩ = some (.int .i64 120) ∧ u.cell? ⟨w.heap.size, 3, none⟩ = some (.int .i64 29) ∧ u.cell? ⟨w.heap.size, 4, none⟩ = some (.bool false)) (first | go_keep | exact HC7.out) (first
                  | (go_at_call 5; refine ((HFi _).out).mono ?_; rintro e9 w7c ⟨rfl, hb7⟩; have HB7 : Hid (Below w6c.heap.size w6c w7c) := hide (HBr.out.trans (Below.mono (show Below wr.heap.size wr w7c from ⟨hb7.os, hb7.tape, hb7.output, hb7.size, hb7.block⟩) HBr.out.size)); have HX7 := hide (HX.out.below hb7); have HC7 := hide (And.intro ((hb7.cell (p := ⟨gE, i * 3 + 1, none⟩) hgE3).trans d1) (And.intro ((hb7.cell (p := ⟨gL, 33 + j, none⟩) hgL3).trans d2) HX7.out.cell)); clear hb7))
                clear x0 x1' x2 x3 x4 r0 r1 r2 d1 d2
                go_wp2_with fail
                go_loopw [28] (fun vj wr => ∃ jj : Nat, jj ≤ i ∧ vj = .int .i64 (jj : Int) ∧ Below w6c.heap.size w6c wr) (fun jj _ => i - (intOf jj).toNat)
                case atStart => exact ⟨0, by omega, rfl, HB7.out⟩
                case round =>
                  obtain ⟨jj, hjj, rfl, hbj⟩ := hrel
                  by_cases hlt3 : jj < i
                  · obtain ⟨q0, q1⟩ := HcE.out jj (by omega)
                    obtain ⟨_, q2⟩ := HcE.out i hlt
                    have r0 := (hbj.cell (p := ⟨gE, jj * 3, none⟩) hgE2).trans q0
                    have r1 := (hbj.cell (p := ⟨gE, jj * 3 + 1, none⟩) hgE2).trans q1
                    have r2 := (hbj.cell (p := ⟨gE, i * 3 + 1, none⟩) hgE2).trans q2
                    have HBj := hide hbj
                    have HNj := hide (HEu.out.not jj (by omega))
                    rw [HEi.out] at r2
                    clear q0 q1 q2 hbj
                    by_cases hm2 : jj ∈ U'
                    · have HOt : Hid (¬ (E'.getD jj z3).2.1 = 33 + (j : Int)) := hide (fun e => by
                        have := HEu.out.other (i := jj) (j := i) hm2 hm (by rw [HEi.out]; exact e)
                        omega)
                      have e1 := HNj.out.2 hm2
                      rw [e1] at r0
                      generalize (E'.getD jj z3).2.1 = cj at *
                      have hcj : ¬ cj = 33 + (j : Int) := HOt.out
                      have hcjb : (cj == 33 + (j : Int)) = false := by simp [hcj]
                      clear e1
                      go_wp2_with fail
                      go_quiet (fail)
                      go_wp2_with fail
                      exact ⟨⟨jj + 1, by omega, by go_num, ⟨HBj.out.os, HBj.out.tape, HBj.out.output, HBj.out.size, HBj.out.block⟩⟩, by simp [intOf]; omega⟩
                    · have hk3 : ¬ (E'.getD jj z3).1 = 2 := fun e => hm2 (HNj.out.1 e)
                      generalize (E'.getD jj z3).1 = kj at *
                      have hkb : (kj == 2) = false := by simp [hk3]
                      go_wp2_with fail
                      go_quiet (fail)
                      go_wp2_with fail
                      exact ⟨⟨jj + 1, by omega, by go_num, ⟨HBj.out.os, HBj.out.tape, HBj.out.output, HBj.out.size, HBj.out.block⟩⟩, by simp [intOf]; omega⟩
                  · obtain rfl : jj = i := by omega
                    go_wp2_with fail
                    exact ⟨⟨jj + 1, by omega, by go_num, by rw [HSt.out]; go_num, hbj⟩, by simp [intOf]; omega⟩
              · rw [if_neg hm, Nat.add_zero] at HSt
                have hk2 : ¬ (E'.getD i z3).1 = 2 := fun e => hm (HNt.out.1 e)
                generalize (E'.getD i z3).1 = kx at *
                go_wp2_with fail
                exact ⟨⟨i + 1, by omega, by go_num, by rw [HSt.out]; rfl, HBr.out⟩, by simp [intOf]; omega⟩
            · obtain rfl : i = 64 := by omega
              have hcall := cU_all U' HEu.out.nd HEu.out.lt
              have HBr := hide hbr
              have HBe : Hid (Below w.heap.size w wr) := hide (HBc.out.trans (hbr.mono HBc.out.size))
              rw [hcall]
              obtain ⟨m, hm⟩ : ∃ m, m = U'.length := ⟨_, rfl⟩
              rw [← hm] at HcL hUle ⊢
              have HUf : Hid (m = U.length ∨ (m = 0 ∧ dn = false)) := hide (by
                rcases HUU.out with e | ⟨e, e2⟩
                · left; rw [hm, e]
                · right; exact ⟨by rw [hm, e]; rfl, HDn.out e2⟩)
              obtain ⟨w9, hw9⟩ : ∃ w9, w9 = wr := ⟨_, rfl⟩
              subst hw9
              clear hm hcall hcl hbr
              go_wp2_with fail
              go_loopw [29, 30] (fun vf vn wr => ∃ n : Nat, n ≤ 120 ∧ vn = .int .i64 (n : Int) ∧ vf = .int .i64 ((n - min n (33 + m) : Nat) : Int) ∧ wr = w9) (fun _ n _ => 120 - (intOf n).toNat)
              case atStart => exact ⟨0, by omega, rfl, rfl, rfl⟩
              case round =>
                obtain ⟨n, hn, rfl, rfl, hwr⟩ := hrel
                have hwr2 := hwr.symm
                clear hwr
                subst hwr2
                by_cases hlt4 : n < 120
                · have r0 := (HBr.out.cell (p := ⟨gL, n, none⟩) hgL2).trans (HcL.out n hlt4)
                  obtain ⟨fr, hfr⟩ : ∃ fr : Nat, fr = n - min n (33 + m) := ⟨_, rfl⟩
                  have hfb : fr ≤ 120 := by omega
                  rw [← hfr]
                  by_cases hc : n < 33 + m
                  · rw [if_pos hc] at r0
                    have HFr : Hid (n + 1 - min (n + 1) (33 + m) = fr) := hide (by omega)
                    clear hfr
                    go_wp2_with fail
                    exact ⟨⟨n + 1, by omega, by go_num, by rw [HFr.out], trivial⟩, by simp [intOf]; omega⟩
                  · rw [if_neg hc] at r0
                    have HFr : Hid (n + 1 - min (n + 1) (33 + m) = fr + 1) := hide (by omega)
                    clear hfr
                    go_wp2_with fail
                    exact ⟨⟨n + 1, by omega, by go_num, by rw [HFr.out]; go_num, trivial⟩, by simp [intOf]; omega⟩
                · obtain rfl : n = 120 := by omega
                  have hfe : (120 - min 120 (33 + m) : Nat) = 87 - m := by omega
                  rw [hfe]
                  obtain ⟨fr, hfr⟩ : ∃ fr : Nat, fr = 87 - m := ⟨_, rfl⟩
                  rw [← hfr]
                  have hfi : (fr : Int) = 87 - (m : Int) := by omega
                  rcases HUf.out with e | ⟨e, e2⟩
                  · have hmu : (m : Int) = (U.length : Int) := by omega
                    go_wp2_with fail
                    all_goals (go_ret; exact ⟨rfl, HBe.out⟩)
                  · subst e
                    subst e2
                    go_wp2_with fail
                    all_goals (go_ret; exact ⟨rfl, HBe.out⟩)
end Go.Proofs.YtibkhgmmjhlpmaaGreat.Oct
