/- For every cluster, all places and all entries the statement MapsTables answers true and changes nothing that was there: an entry that is set is read, and no other one is changed; what may not be isn't set. No condition (the statement itself lets go more than 50 places). -/
import Derived.Test.YtghdngmmlnffkaaRows
import Derived.Test.YtghdngmmlnffkaaTbv
import Derived.Test.YtghdngmmlnffkaaMpn
import Derived.Test.YtghdngmmlnffkaaTak
namespace Go.Proofs.Ytghdngmmlnffkaa.Oct
open Go.RowKit Go.Deep Go.ChangeShapes Go.WideShapes Go.ChangeAt

theorem zero_ents (S : List Int) (hS : ∀ x, S.getD x 0 = 0) (c : Nat) : Ents S (fun _ => Z5) (fun _ => Z5) c (List.replicate 64 z3) := by
  have hz : ∀ i, (List.replicate 64 z3).getD i z3 = z3 := fun i => by
    rw [List.getD_eq_getElem?_getD, List.getElem?_replicate]
    split <;> rfl
  have h5 : ∀ i, Z5.getD i 0 = 0 := fun i => by
    unfold Z5
    rw [List.getD_eq_getElem?_getD, List.getElem?_replicate]
    split <;> rfl
  refine ⟨by simp, fun i _ => by rw [hz]; decide, fun i _ b _ => ?_⟩
  unfold seeT valT
  rw [hz, h5, if_pos rfl, hS]
  have : enN z3 = 0 := by decide
  rw [this]
  simp

theorem zero_see (S : List Int) (hS : ∀ x, S.getD x 0 = 0) (x : Nat) : 0 ≤ seeT S (fun _ => Z5) (fun _ => Z5) x ∧ seeT S (fun _ => Z5) (fun _ => Z5) x < 256 := by
  have h5 : ∀ i, Z5.getD i 0 = 0 := fun i => by
    unfold Z5
    rw [List.getD_eq_getElem?_getD, List.getElem?_replicate]
    split <;> rfl
  unfold seeT valT
  rw [h5, if_pos rfl, hS]
  omega

theorem OwnR.mono {w : World} {B B' : Nat} {v : Value} {L : List E3} (h : OwnR w B v L) (hb : B' ≤ B) : OwnR w B' v L := by
  refine ⟨h.1, ?_⟩
  rcases h.2 with h1 | ⟨g, cap, cur, h1, hg, hr⟩
  · exact Or.inl h1
  · exact Or.inr ⟨g, cap, cur, h1, Nat.le_trans hb hg, hr⟩

theorem TInv.rows {w0 w : World} {T J F A Rm : Nat} {X : Nat → Prop} {S : List Int} {c : Nat} {Et Em : List E3} {k : Nat} (h : TInv w0 w T J F A Rm X S c Et Em k) {i : Nat} (hi : i < 64) {x y : Int} {z : Bool} (he : Em.getD i z3 = (x, y, z)) {B : Nat} {t : TypeId} (h' : StE w B #[.int .i64 x, .int .i64 y, .bool z] t) :
    w.cell? ⟨Rm, i * 3, none⟩ = some (.int .i64 x) ∧ w.cell? ⟨Rm, i * 3 + 1, none⟩ = some (.int .i64 y) ∧ w.cell? ⟨Rm, i * 3 + 2, none⟩ = some (.bool z) ∧ w.cell? ⟨B, 0, none⟩ = some (.int .i64 x) ∧ w.cell? ⟨B, 1, none⟩ = some (.int .i64 y) ∧ w.cell? ⟨B, 2, none⟩ = some (.bool z) := by
  obtain ⟨f, vb, vm, B9, M, h1, h2, h3, h4, h5, h6, h7, h8, h9⟩ := h
  have := h4.cells i (by rw [h5]; exact hi)
  rw [he] at this
  exact ⟨this.1, this.2.1, this.2.2, h'.box.1, h'.box.2.1, h'.box.2.2⟩

theorem TInv.froz {w0 w : World} {T J F A Rm : Nat} {X : Nat → Prop} {S : List Int} {c : Nat} {Et Em : List E3} {k : Nat} (h : TInv w0 w T J F A Rm X S c Et Em k) (j : Nat) : w.frozen? ⟨Rm, j, none⟩ = false := by
  obtain ⟨f, vb, vm, B9, M, h1, h2, h3, h4, h5, h6, h7, h8, h9⟩ := h
  exact h4.frozen h5.symm j

theorem TInv.cells {w0 w : World} {T J F A Rm : Nat} {X : Nat → Prop} {S : List Int} {c : Nat} {Et Em : List E3} {k : Nat} (h : TInv w0 w T J F A Rm X S c Et Em k) (i : Nat) (hi : i < 64) : ∃ (x y : Int) (z : Bool), w.cell? ⟨Rm, i * 3, none⟩ = some (.int .i64 x) ∧ w.cell? ⟨Rm, i * 3 + 1, none⟩ = some (.int .i64 y) ∧ w.cell? ⟨Rm, i * 3 + 2, none⟩ = some (.bool z) := by
  obtain ⟨f, vb, vm, B9, M, h1, h2, h3, h4, h5, h6, h7, h8, h9⟩ := h
  exact ⟨_, _, _, h4.cells i (by rw [h5]; exact hi)⟩

theorem TInv.len {w0 w : World} {T J F A Rm : Nat} {X : Nat → Prop} {S : List Int} {c : Nat} {Et Em : List E3} {k : Nat} (h : TInv w0 w T J F A Rm X S c Et Em k) : Em.length = 64 := by
  obtain ⟨f, vb, vm, B9, M, h1, h2, h3, h4, h5, h6, h7, h8, h9⟩ := h
  exact h5

theorem two_rows {u : World} {b off B Rm k : Nat} {R : List E3} {x y : Int} {z : Bool} (h : LiesN u (some ⟨b, off, none⟩) R) (h' : OwnR u B (.slice (some ⟨Rm, 0, none⟩) 64 64) R) (hl : R.length = 64) (hk : k < 64) (he : R.getD k z3 = (x, y, z)) :
    u.cell? ⟨b, off + k * 3, none⟩ = some (.int .i64 x) ∧ u.cell? ⟨b, off + k * 3 + 1, none⟩ = some (.int .i64 y) ∧ u.cell? ⟨b, off + k * 3 + 2, none⟩ = some (.bool z) ∧ u.cell? ⟨Rm, k * 3, none⟩ = some (.int .i64 x) ∧ u.cell? ⟨Rm, k * 3 + 1, none⟩ = some (.int .i64 y) ∧ u.cell? ⟨Rm, k * 3 + 2, none⟩ = some (.bool z) := by
  have hr := h'.cells k (by omega)
  rw [he] at hr
  rcases h with rfl | ⟨b2, off2, e, _, hc⟩
  · simp at hl
  · simp only [Option.some.injEq, Addr.mk.injEq, and_true] at e
    obtain ⟨rfl, rfl⟩ := e
    have := hc k (by omega)
    rw [he] at this
    exact ⟨this.1, this.2.1, this.2.2, hr.1, hr.2.1, hr.2.2⟩

set_option maxRecDepth 100000 in
set_option maxHeartbeats 16000000 in
theorem mtables_walk (c : Int) (a1 : Option Addr) (cap1 : Nat) (P : List Int) (a2 : Option Addr) (cap2 : Nat) (L : List E3) (w : World) (hP : LiesI w a1 P) (hPm : P.length ≤ maxLen) (hL : LiesN w a2 L) (hLm : L.length ≤ maxLen) :
    Calls Try.prog 3 #[.int .i64 c, .slice a1 P.length cap1, .slice a2 L.length cap2] w fun e w' => e = .returned (.bool true) ∧ Below w.heap.size w w' := by
  have HC := fun u => hide (coded_any u)
  have HBg := fun u => hide (begun9_any u)
  unfold maxLen at hPm hLm
  obtain ⟨np, hnp⟩ : ∃ np, np = P.length := ⟨_, rfl⟩
  obtain ⟨nl, hnl⟩ : ∃ nl, nl = L.length := ⟨_, rfl⟩
  have HNp := hide hnp
  have HNl := hide hnl
  have HP := hide hP
  have HL := hide hL
  rw [← hnp] at hPm ⊢
  rw [← hnl] at hLm ⊢
  clear hP hL hnp hnl
  go_enter Try.func3, Try.ntmps3
  go_wp2_with fail
  refine ((HBg _).out).mono ?_
  rintro e9 w1 ⟨T, J, F, S, rfl, hSl, hS0, hbg⟩
  have HG := hide hbg
  have HB1 := hide hbg.below
  have HSz : Hid (∀ x, S.getD x 0 = 0) := hide (fun x => by
    rw [hS0, List.getD_eq_getElem?_getD, List.getElem?_replicate]
    split <;> rfl)
  have HSl : Hid (S.length ≤ 4194304) := hide (by rw [hSl]; omega)
  clear hbg hSl hS0
  go_wp2_with fail
  refine ((HC _).out).mono ?_
  rintro e9 w2 ⟨rfl, hb2⟩
  have HB2 := hide (HB1.out.trans (hb2.mono HB1.out.size))
  have HB12 := hide hb2
  clear hb2
  by_cases h50 : 50 < np
  · have hd : decide ((50 : Int) < np) = true := by simp; omega
    go_wp2_with fail
    refine ((HC _).out).mono ?_
    rintro e9 w3 ⟨rfl, hb3⟩
    have HB3 := hide (HB2.out.trans (hb3.mono HB2.out.size))
    clear hb3
    go_wp2_with fail
    go_ret
    exact ⟨rfl, HB3.out⟩
  have hd : decide ((50 : Int) < np) = false := by simp; omega
  by_cases hnl : nl < np
  · have hd2 : decide ((nl : Int) < np) = true := by simp; omega
    go_wp2_with fail
    refine ((HC _).out).mono ?_
    rintro e9 w3 ⟨rfl, hb3⟩
    have HB3 := hide (HB2.out.trans (hb3.mono HB2.out.size))
    clear hb3
    go_wp2_with fail
    go_ret
    exact ⟨rfl, HB3.out⟩
  have hd2 : decide ((nl : Int) < np) = false := by simp; omega
  go_wp2_with fail
  refine (head9 _).mono ?_
  rintro e9 w3 ⟨rfl, hb3⟩
  have HB3 := hide (HB2.out.trans (hb3.mono HB2.out.size))
  have HB13 := hide (HB12.out.trans (hb3.mono HB12.out.size))
  clear hb3
  go_wp2_with fail
  by_cases hc : 1 ≤ c ∧ c < 60
  rotate_left
  · refine (at_no T c hc _).mono ?_
    rintro e9 w4 ⟨rfl, hb4⟩
    have HB4 := hide (HB3.out.trans (hb4.mono HB3.out.size))
    clear hb4
    by_cases h1 : c < 1
    · clear hc
      go_wp2_with fail
      go_ret
      exact ⟨rfl, HB4.out⟩
    · have h2 : 60 ≤ c := by omega
      clear hc
      go_wp2_with fail
      go_ret
      exact ⟨rfl, HB4.out⟩
  obtain ⟨cn, rfl⟩ := Int.eq_ofNat_of_zero_le (show 0 ≤ c by omega)
  refine (at_ok T cn hc _).mono ?_
  rintro e9 w4 ⟨A, rfl, hA3, hTab, hb4⟩
  have HB4 := hide (HB3.out.trans (hb4.mono HB3.out.size))
  have HB14 := hide (HB13.out.trans (hb4.mono HB13.out.size))
  have HW := hide (tab_where w4 A T cn hTab)
  have h1 : ¬ (cn : Int) < 1 := by omega
  have h2 : ¬ 60 ≤ (cn : Int) := by omega
  have hmk := run_make_refs w4 64 (by omega)
  have hcast : ((64 : Nat) : Int) = 64 := rfl
  rw [hcast] at hmk
  have hcc : ((cn : Int) != (cn : Int)) = false := by simp
  have HTb := hide hTab
  have HA3 := hide hA3
  clear hb4 hTab hA3 hcast hc
  go_wp2_with fail
  refine HW.out.mono ?_
  rintro e9 w5 ⟨rfl, h5⟩
  rw [h5]
  clear h5 w5
  have hrl64 : (List.replicate 64 z3).length = 64 := List.length_replicate
  have hbm : Below w4.heap.size w4 (w4.alloc (.cells (madeCells #[.int .i64 0, .int .i64 0, .bool false] (64 * 3)) 41)) := (Below.refl _ _).alloc (Nat.le_refl _) _
  have hb1m := HB14.out.trans (hbm.mono HB14.out.size)
  have hTl := HG.out.tx.lt
  have hs14 := HB13.out.size
  have hA3 := HA3.out
  have hAl := HTb.out.lt
  have hsz : (w4.alloc (.cells (madeCells #[.int .i64 0, .int .i64 0, .bool false] (64 * 3)) 41)).heap.size = w4.heap.size + 1 := by simp
  have hjt := HG.out.jt
  have hwj := HG.out.wj
  have HPl : Hid (Plc w.heap.size T J F A w4.heap.size (fun k => w.heap.size ≤ k ∧ k < J)) := hide ⟨fun k h => h, hwj, by omega, by omega, by omega, by omega, by omega, by omega, by omega, by omega⟩
  have HIn : Hid (TInv w (w4.alloc (.cells (madeCells #[.int .i64 0, .int .i64 0, .bool false] (64 * 3)) 41)) T J F A w4.heap.size (fun k => w.heap.size ≤ k ∧ k < J) S cn (List.replicate 64 z3) (List.replicate 64 z3) 0) := hide (by
    obtain ⟨v1, v2, hf⟩ := HG.out.fil
    have hst : Tst w1 T J F (fun k => w.heap.size ≤ k ∧ k < J) ⟨v1, v2, .slice none 0 0, 0, 0, 0, 0, false⟩ S (.map none) (.map none) (fun _ => Z5) (fun _ => Z5) 512 15360 := ⟨HG.out.tx, ⟨Or.inl ⟨rfl, fun _ => rfl⟩, Or.inl ⟨rfl, fun _ => rfl⟩, fun _ => Z5_len, fun _ => Z5_len⟩, Or.inl ⟨rfl, rfl⟩, HG.out.jr, hf, by omega, by omega, (fun r hr => (by rcases hr with h | h <;> cases h)), by omega, ⟨rfl, rfl⟩, by simp⟩
    refine ⟨_, _, _, _, _, hst.below hb1m, by simp, HTb.out.below hbm, (OwnR.made w4 64 (by unfold maxLen; omega)).mono HB4.out.size, hrl64, zero_ents S HSz.out cn, zero_see S HSz.out, fun r hr => (by rcases hr with h | h <;> cases h), HB4.out.trans (hbm.mono HB4.out.size)⟩)
  have hJR : J ≠ w4.heap.size := by omega
  clear hbm hb1m hsz hrl64
  go_wp2_with fail
  generalize w4.alloc (.cells (madeCells #[.int .i64 0, .int .i64 0, .bool false] (64 * 3)) 41) = w5 at *
  have hcb : 1 ≤ cn ∧ cn < 60 := by omega
  have HLc : Hid (∀ k, k < nl → ∃ b off, a2 = some ⟨b, off, none⟩ ∧ ∀ u, Below w.heap.size w u → u.cell? ⟨b, off + k * 3, none⟩ = some (.int .i64 (L.getD k z3).1) ∧ u.cell? ⟨b, off + k * 3 + 1, none⟩ = some (.int .i64 (L.getD k z3).2.1) ∧ u.cell? ⟨b, off + k * 3 + 2, none⟩ = some (.bool (L.getD k z3).2.2)) := hide (fun k hk => by
    rcases HL.out with h | ⟨b, off, rfl, hb, hcc⟩
    · exfalso
      have := HNl.out
      rw [h] at this
      simp at this
      omega
    · refine ⟨b, off, rfl, fun u hu => ?_⟩
      have h3 := hcc k (by rw [← HNl.out]; exact hk)
      exact ⟨(hu.cell (p := ⟨b, off + k * 3, none⟩) hb).trans h3.1, (hu.cell (p := ⟨b, off + k * 3 + 1, none⟩) hb).trans h3.2.1, (hu.cell (p := ⟨b, off + k * 3 + 2, none⟩) hb).trans h3.2.2⟩)
  have HPc : Hid (∀ k, k < np → ∃ b off, a1 = some ⟨b, off, none⟩ ∧ ∀ u, Below w.heap.size w u → u.cell? ⟨b, off + k, none⟩ = some (.int .i64 (P.getD k 0))) := hide (fun k hk => by
    rcases HP.out with h | ⟨b, off, rfl, hb, hcc⟩
    · exfalso
      have := HNp.out
      rw [h] at this
      simp at this
      omega
    · exact ⟨b, off, rfl, fun u hu => (hu.cell (p := ⟨b, off + k, none⟩) hb).trans (hcc k (by rw [← HNp.out]; exact hk))⟩)
  go_loopw [12] (fun v wr => ∃ (k : Nat) (E : List E3), k ≤ np ∧ v = .int .i64 (k : Int) ∧ TInv w wr T J F A w4.heap.size (fun k => w.heap.size ≤ k ∧ k < J) S cn E E k) (fun v _ => np - (intOf v).toNat)
  case atStart => exact ⟨0, _, by omega, rfl, HIn.out⟩
  case round =>
    obtain ⟨k, E, hk, rfl, hin⟩ := hrel
    have HI := hide hin
    clear hin
    by_cases hlt : k < np
    · obtain ⟨pb, po, rfl, hpc⟩ := HPc.out k hlt
      obtain ⟨lb, lo, rfl, hlc⟩ := HLc.out k (by omega)
      have cP := hpc _ HI.out.below0
      obtain ⟨d0, d1, d2⟩ := hlc _ HI.out.below0
      obtain ⟨pv, hpv⟩ : ∃ pv, P.getD k 0 = pv := ⟨_, rfl⟩
      obtain ⟨e, he⟩ : ∃ e, L.getD k z3 = e := ⟨_, rfl⟩
      obtain ⟨x, y, z⟩ := e
      rw [hpv] at cP
      rw [he] at d0 d1 d2 hlc
      simp only at d0 d1 d2 hlc
      have HHl := hide hlc
      have HO := fun u => hide (ofE_any x y z u)
      have HRe := fun u => hide (refencode_any x y z u)
      clear hpc hlc hpv he
      go_wp2_with fail
      refine ((HO _).out).mono ?_
      rintro e9 w6 ⟨rfl, hb6⟩
      have HI6 := hide (HI.out.below hb6)
      clear hb6 d0 d1 d2 cP
      go_wp2_with fail
      refine ((HRe _).out).mono ?_
      rintro e9 w7 ⟨rfl, hb7⟩
      have HI7 := hide (HI6.out.below hb7)
      obtain ⟨d0, d1, d2⟩ := HHl.out _ HI7.out.below0
      generalize refN x y z = rv at *
      obtain ⟨d, hd9⟩ : ∃ d, d = okE x y z := ⟨_, rfl⟩
      rw [← hd9]
      have HDd := hide hd9
      clear hb7 hd9 HRe
      go_wp2_with fail
      by_cases hin : 0 ≤ pv ∧ pv < 64
      rotate_left
      · refine (inv_set_no HI7.out pv hin x y z).mono ?_
        rintro e9 w8 ⟨rfl, hi8⟩
        have HI8 := hide hi8
        clear hi8
        have hdd : (decide (0 ≤ pv) && decide (pv < 64)) = false := by simp; omega
        by_cases hp0 : 0 ≤ pv
        · have hp64 : ¬ pv < 64 := by omega
          have hp64' : 64 ≤ pv := by omega
          clear hin hdd hp64
          go_wp2_with fail
          refine (inv_get_no HI8.out pv (by omega)).mono ?_
          rintro e9 w9 ⟨rfl, hi9⟩
          have HI9 := hide hi9
          clear hi9
          go_wp2_with fail
          have HIa := hide ((HI9.out.below ((Below.refl _ _).alloc (Nat.le_refl _) (.cells #[.int .i64 0, .int .i64 0, .bool false] 43))).more (show k ≤ k + 1 by omega))
          generalize w9.alloc (.cells #[.int .i64 0, .int .i64 0, .bool false] 43) = w10 at *
          go_quiet (fail)
          go_wp2_with fail
          refine ⟨⟨k + 1, E, by omega, by congr 1 <;> omega, ?_⟩, by simp [intOf]; omega⟩
          exact HIa.out.below (belowN (Below.refl _ _) _)
        · have hp0' : pv < 0 := by omega
          clear hin hdd hp0
          go_wp2_with fail
          refine (inv_get_no HI8.out pv (by omega)).mono ?_
          rintro e9 w9 ⟨rfl, hi9⟩
          have HI9 := hide hi9
          clear hi9
          go_wp2_with fail
          have HIa := hide ((HI9.out.below ((Below.refl _ _).alloc (Nat.le_refl _) (.cells #[.int .i64 0, .int .i64 0, .bool false] 43))).more (show k ≤ k + 1 by omega))
          generalize w9.alloc (.cells #[.int .i64 0, .int .i64 0, .bool false] 43) = w10 at *
          go_quiet (fail)
          go_wp2_with fail
          refine ⟨⟨k + 1, E, by omega, by congr 1 <;> omega, ?_⟩, by simp [intOf]; omega⟩
          exact HIa.out.below (belowN (Below.refl _ _) _)
      · obtain ⟨i, rfl⟩ := Int.eq_ofNat_of_zero_le hin.1
        have hi : i < 64 := by omega
        refine (inv_set HI7.out HPl.out hcb i hi x y z).mono ?_
        rintro e9 w8 (⟨hok, rfl, hi8⟩ | ⟨hok, rfl, hi8⟩)
        · obtain rfl : d = false := by rw [HDd.out, hok]
          have HI8 := hide hi8
          clear hi8 hok d0 d1 d2
          obtain ⟨e, he⟩ : ∃ e, E.getD i z3 = e := ⟨_, rfl⟩
          obtain ⟨x2, y2, z2⟩ := e
          have HE := hide he
          clear he hin
          go_wp2_with fail
          refine (inv_get HI8.out HPl.out HSl.out (by omega) hcb i hi x2 y2 z2 HE.out).mono ?_
          rintro e9 w9 ⟨rfl, hi9⟩
          have HI9 := hide hi9
          clear hi9
          go_wp2_with fail
          have HI := hide ((HI9.out.below ((Below.refl _ _).alloc (Nat.le_refl _) (.cells #[.int .i64 x2, .int .i64 y2, .bool z2] 43))).below (Below.refl _ _).drew)
          have HT := hide (StE.new w9 #[.int .i64 x2, .int .i64 y2, .bool z2] 43).drew
          generalize w9.alloc (.cells #[.int .i64 x2, .int .i64 y2, .bool z2] 43) = w10 at *
          have hqe := fun u => neq_W u x2 y2 z2 x2 y2 z2
          rw [show (x2 == x2 && y2 == y2 && z2 == z2) = true by simp] at hqe
          have hq : ∀ u, (binOp .neq 41 (.agg #[.int .i64 x2, .int .i64 y2, .bool z2]) (.agg #[.int .i64 x2, .int .i64 y2, .bool z2])).run Try.prog u = .ok (.bool false) u := hqe
          have hg := fun u op p q => guard_W u op p q #[.int .i64 x2, .int .i64 y2, .bool z2] #[.int .i64 x2, .int .i64 y2, .bool z2]
          clear hqe
          obtain ⟨s0, s1, s2, s3, s4, s5⟩ := HI.out.rows hi HE.out HT.out
          have HO2 := fun u => hide (ofE_any x2 y2 z2 u)
          go_region_held3 (fun u => u.cell? ⟨w4.heap.size, i * 3, none⟩ = some (.int .i64 x2) ∧ u.cell? ⟨w4.heap.size, i * 3 + 1, none⟩ = some (.int .i64 y2) ∧ u.cell? ⟨w4.heap.size, i * 3 + 2, none⟩ = some (.bool z2) ∧ u.cell? ⟨w9.heap.size, 0, none⟩ = some (.int .i64 x2) ∧ u.cell? ⟨w9.heap.size, 1, none⟩ = some (.int .i64 y2) ∧ u.cell? ⟨w9.heap.size, 2, none⟩ = some (.bool z2)) (first | go_keep | exact HI.out.rows hi HE.out HT.out) (first
            | (go_at_call 11; refine ((HO2 _).out).mono ?_; rintro e9 w16 ⟨rfl, hb16⟩; have HT := hide (HT.out.below hb16); have HI := hide (HI.out.below hb16); clear hb16))
          all_goals
            go_wp2_with fail
            exact ⟨⟨k + 1, E, by omega, by congr 1 <;> omega, HI.out⟩, by simp [intOf]; omega⟩
        · obtain rfl : d = true := by rw [HDd.out, hok]
          have HI8 := hide hi8
          clear hi8 hok hin d0 d1 d2
          obtain ⟨d0, d1, d2⟩ := HHl.out _ HI8.out.below0
          go_wp2_with fail
          refine ((HO _).out).mono ?_
          rintro e9 w8a ⟨rfl, hb8⟩
          have HI8a := hide (HI8.out.below hb8)
          clear hb8 d0 d1 d2
          have f0 := HI8a.out.froz (i * 3)
          have f1 := HI8a.out.froz (i * 3 + 1)
          have f2 := HI8a.out.froz (i * 3 + 2)
          obtain ⟨r0, r1, r2, c0, c1, c2⟩ := HI8a.out.cells i hi
          have HRw := hide (HI8a.out.row HPl.out i hi x y z hJR)
          have HE : Hid ((E.set i (x, y, z)).getD i z3 = (x, y, z)) := hide (by rw [getD_set3 E i i _ (by rw [HI8a.out.len]; exact hi), if_pos rfl])
          go_wp2_with fail
          clear f0 f1 f2 c0 c1 c2
          generalize (((w8a.setCell ⟨w4.heap.size, i * 3, none⟩ (.int .i64 x)).setCell ⟨w4.heap.size, i * 3 + 1, none⟩ (.int .i64 y)).setCell ⟨w4.heap.size, i * 3 + 2, none⟩ (.bool z)) = w8b at *
          refine (inv_get HRw.out HPl.out HSl.out (by omega) hcb i hi x y z HE.out).mono ?_
          rintro e9 w9 ⟨rfl, hi9⟩
          have HI9 := hide hi9
          clear hi9
          go_wp2_with fail
          have HI := hide ((HI9.out.below ((Below.refl _ _).alloc (Nat.le_refl _) (.cells #[.int .i64 x, .int .i64 y, .bool z] 43))).below (Below.refl _ _).drew)
          have HT := hide (StE.new w9 #[.int .i64 x, .int .i64 y, .bool z] 43).drew
          generalize w9.alloc (.cells #[.int .i64 x, .int .i64 y, .bool z] 43) = w10 at *
          have hqe := fun u => neq_W u x y z x y z
          rw [show (x == x && y == y && z == z) = true by simp] at hqe
          have hq : ∀ u, (binOp .neq 41 (.agg #[.int .i64 x, .int .i64 y, .bool z]) (.agg #[.int .i64 x, .int .i64 y, .bool z])).run Try.prog u = .ok (.bool false) u := hqe
          have hg := fun u op p q => guard_W u op p q #[.int .i64 x, .int .i64 y, .bool z] #[.int .i64 x, .int .i64 y, .bool z]
          clear hqe
          obtain ⟨s0, s1, s2, s3, s4, s5⟩ := HI.out.rows hi HE.out HT.out
          have HO2 := fun u => hide (ofE_any x y z u)
          go_region_held3 (fun u => u.cell? ⟨w4.heap.size, i * 3, none⟩ = some (.int .i64 x) ∧ u.cell? ⟨w4.heap.size, i * 3 + 1, none⟩ = some (.int .i64 y) ∧ u.cell? ⟨w4.heap.size, i * 3 + 2, none⟩ = some (.bool z) ∧ u.cell? ⟨w9.heap.size, 0, none⟩ = some (.int .i64 x) ∧ u.cell? ⟨w9.heap.size, 1, none⟩ = some (.int .i64 y) ∧ u.cell? ⟨w9.heap.size, 2, none⟩ = some (.bool z)) (first | go_keep | exact HI.out.rows hi HE.out HT.out) (first
            | (go_at_call 11; refine ((HO2 _).out).mono ?_; rintro e9 w16 ⟨rfl, hb16⟩; have HT := hide (HT.out.below hb16); have HI := hide (HI.out.below hb16); clear hb16))
          all_goals
            go_wp2_with fail
            exact ⟨⟨k + 1, E.set i (x, y, z), by omega, by congr 1 <;> omega, HI.out⟩, by simp [intOf]; omega⟩
    · obtain rfl : k = np := by omega
      have HAl := hide (inv_all HI.out HPl.out HSl.out (by omega) hcb)
      go_wp2_with fail
      refine HAl.out.mono ?_
      rintro e9 w8 ⟨v, rfl, hoN, hEl, hoR, hb8⟩
      obtain ⟨av, cv, rfl, hlv, hv6⟩ := hoN.form
      rw [hEl]
      have HLv := hide hlv
      have HoR := hide hoR
      have HEl := hide hEl
      have HB8 := hide hb8
      clear hv6 hlv hoN hoR hEl hb8
      go_wp2_with fail
      go_loopw [21] (fun i wr => ∃ (k2 : Nat), k2 ≤ 64 ∧ i = .int .i64 (k2 : Int) ∧ Below w8.heap.size w8 wr) (fun i _ => 64 - (intOf i).toNat)
      case atStart => exact ⟨0, by omega, rfl, Below.refl _ _⟩
      case round =>
        obtain ⟨k2, hk2, rfl, hbel2⟩ := hrel
        have HB := hide hbel2
        clear hbel2
        by_cases hlt2 : k2 < 64
        · obtain ⟨e, he⟩ : ∃ e, E.getD k2 z3 = e := ⟨_, rfl⟩
          obtain ⟨x, y, z⟩ := e
          have HE := hide he
          clear he
          rcases HLv.out with hR0 | ⟨b, off, rfl, hbl, hc⟩
          · exfalso
            have := HEl.out
            rw [hR0] at this
            simp at this
          clear hbl hc
          have HO := fun u => hide (ofE_any x y z u)
          have hqe := fun u => neq_W u x y z x y z
          rw [show (x == x && y == y && z == z) = true by simp] at hqe
          have hq : ∀ u, (binOp .neq 41 (.agg #[.int .i64 x, .int .i64 y, .bool z]) (.agg #[.int .i64 x, .int .i64 y, .bool z])).run Try.prog u = .ok (.bool false) u := hqe
          have hg := fun u op p q => guard_W u op p q #[.int .i64 x, .int .i64 y, .bool z] #[.int .i64 x, .int .i64 y, .bool z]
          clear hqe
          go_wp2_with fail
          have HB := hide HB.out.drew
          have HL2 := hide (HLv.out.below HB.out)
          have HR2 := hide (HoR.out.below HB.out)
          obtain ⟨s0, s1, s2, s3, s4, s5⟩ := two_rows HL2.out HR2.out HEl.out hlt2 HE.out
          go_region_held3 (fun u => u.cell? ⟨b, off + k2 * 3, none⟩ = some (.int .i64 x) ∧ u.cell? ⟨b, off + k2 * 3 + 1, none⟩ = some (.int .i64 y) ∧ u.cell? ⟨b, off + k2 * 3 + 2, none⟩ = some (.bool z) ∧ u.cell? ⟨w4.heap.size, k2 * 3, none⟩ = some (.int .i64 x) ∧ u.cell? ⟨w4.heap.size, k2 * 3 + 1, none⟩ = some (.int .i64 y) ∧ u.cell? ⟨w4.heap.size, k2 * 3 + 2, none⟩ = some (.bool z)) (first | go_keep | exact two_rows HL2.out HR2.out HEl.out hlt2 HE.out) (first
            | (go_at_call 11; refine ((HO _).out).mono ?_; rintro e9 w16 ⟨rfl, hb16⟩; have HB := hide (HB.out.trans (hb16.mono HB.out.size)); have HL2 := hide (HL2.out.below hb16); have HR2 := hide (HR2.out.below hb16); clear hb16))
          all_goals
            go_wp2_with fail
            exact ⟨⟨k2 + 1, by omega, by congr 1 <;> omega, HB.out⟩, by simp [intOf]; omega⟩
        · obtain rfl : k2 = 64 := by omega
          go_wp2_with fail
          go_ret
          exact ⟨rfl, HB8.out.trans (HB.out.mono HB8.out.size)⟩

set_option maxRecDepth 100000 in
theorem mapsTables_lifted (os : Os) (started : os.Started) (H : Type) (enc : TypeId × Value → H) :
    ReturnsInHanded {} Try.checked os 3 .any (Rows.mapsTablesSpec.pre6 enc Try.prog Try.f3 Rows.mapsTablesRow.domain false) (Rows.mapsTablesSpec.post enc Try.prog Try.f3 false true false false) := by
  refine returnsInHanded_of_change (C := Try.checked) own started (by kernel_rfl) Try.func3
    (ChangeSpec.witness6 (enc := enc) (C := Try.checked) false ⟨#[], #[.int .i64 0, .slice none 0 0, .slice none 0 0], []⟩ 8 (by kernel_rfl) (by kernel_rfl) (by kernel_rfl) (by kernel_rfl)) ?_
  intro W base args ds gs before hval0 hW _ _
  have hval : ∀ (j : Nat) t v, Try.f3.params[j]? = some t → args[j]? = some v → Value.okWide Try.prog W .any base t v := hval0
  have hW' := hW
  obtain ⟨p, q, hA0, hV, rfl, hfz, hnd⟩ := hW
  have hA : DataW.TrodAll enc Try.prog W 0 (fun _ => true) true Try.f3.params.toList args.toList ds p := hA0
  rw [Try.params3] at hA hval
  obtain ⟨v0, vs0, d0, ds0, p0, q0, hargs0, rfl, rfl, h0, r0⟩ := trodAll_cons hA
  obtain ⟨v1, vs1, d1, ds1, p1, q1, hargs1, rfl, rfl, h1, r1⟩ := trodAll_cons r0
  obtain ⟨v2, vs2, d2, ds2, p2, q2, hargs2, rfl, rfl, h2, r2⟩ := trodAll_cons r1
  obtain ⟨rfl, rfl, rfl⟩ := trodAll_nil r2
  subst hargs2
  subst hargs1
  obtain rfl : args = #[v0, v1, v2] := by cases args; simp_all
  obtain ⟨rfl, rfl⟩ := trodVars_none hV
  simp only [List.append_nil] at hW'
  have hlt1 : ∀ x ∈ p1, x.block < W.heap.size := fun x hx => by simpa using hW'.lt x (by simp [hx])
  have hlt2 : ∀ x ∈ p2, x.block < W.heap.size := fun x hx => by simpa using hW'.lt x (by simp [hx])
  obtain ⟨x0, rfl, rfl, rfl, w0⟩ := open_int Try.underlying2 (hval 0 2 v0 rfl rfl) h0
  obtain ⟨a1, cap1, l1, rfl, hn1, hl1⟩ := open_i64s (hval 1 22 v1 rfl rfl) h1
  obtain ⟨a2, cap2, l2, rfl, hn2, hl2⟩ := open_ents (hval 2 23 v2 rfl rfl) h2
  clear hA0
  refine (mtables_walk x0 a1 cap1 l1 a2 cap2 l2 W hl1 hn1 hl2 hn2).mono fun e W' ⟨he, hb⟩ => ?_
  subst he
  refine ⟨_, rfl, _, _, _, [], ([] ++ (p1 ++ (p2 ++ []))), [], hW', ?_, ?_, rfl, hb.frame _, fun h => by cases h⟩
  · exact trodAll_cons_mk (shut_bool Try.underlying4 _) trodAll_mk0
  · exact trodAll_cons_mk (shut_int Try.underlying2 w0) (trodAll_cons_mk (Below.trod laidOut (by kernel_rfl) (of_decide_eq_true (by kernel_rfl)) h1 hb hlt1) (trodAll_cons_mk (Below.trod laidOut (by kernel_rfl) (of_decide_eq_true (by kernel_rfl)) h2 hb hlt2) (trodAll_mk0)))

theorem mapsTables_holds : Rows.MapsTablesSaid :=
  OpenClaim.holds_of_wide 3 Try.f3 rfl rfl rfl rfl rfl rfl rfl ⟨rfl, rfl, rfl, rfl, rfl⟩ rfl rfl rfl rfl rfl (by kernel_rfl) Try.func3 (by kernel_rfl)
    (of_decide_eq_true (by kernel_rfl)) (by unfold Func.isWrapper; first | (rw [if_pos (by decide +kernel)]; kernel_rfl) | (rw [if_neg (by decide +kernel)]; exact ⟨rfl, rfl⟩))
    (fun os started H enc _ => mapsTables_lifted os started H enc)
end Go.Proofs.Ytghdngmmlnffkaa.Oct
