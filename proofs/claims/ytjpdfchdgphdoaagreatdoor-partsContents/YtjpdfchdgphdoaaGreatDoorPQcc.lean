/- A path's bytes, by the document. -/
import Derived.Test.YtjpdfchdgphdoaaGreatDoorPQcb
namespace Go.Proofs.YtjpdfchdgphdoaaGreatDoor.Oct
open Go.RowKit

theorem run_append_zero0 {P : Program} {t tn ty : TypeId} {kn : IntKind} (ht : P.underlying t = some (.slice 5)) (htn : P.underlying tn = some (.int kn)) (h5 : (P.info? 5).map (fun i => (i.zero, i.size, i.bytes)) = some (some (.int .u8 0), 1, 1))
    (w : World) (B : Nat) (v : Value) (l : List Int) (hown : Own w B v l) (kq : IntKind) :
    (Builtin.append_ #[t, tn] ty #[v, .int kq 0]).run P w = .ok v w := by
  obtain ⟨i, hi, hz0, hz1, hz2⟩ := info_parts h5
  have h0 : IntKind.i64.wrap 0 = 0 := by decide
  rcases hown.2 with ⟨rfl, _⟩ | ⟨g, cap, cur, rfl, _, _, hnc, _⟩
  · simp [asInt, asIntOf, h0, Builtin.append_, run_underlying ht, run_underlying htn, sizeOf, typeInfo, hi, hz0, Builtin.lenOf, Builtin.firstCells, Builtin.zeroCells, zeroValue, Value.cells]
  · simp [asInt, asIntOf, h0, Builtin.append_, run_underlying ht, run_underlying htn, sizeOf, typeInfo, hi, hz0, Builtin.lenOf, Builtin.firstCells, Builtin.zeroCells, zeroValue, Value.cells, hnc, storeCells]

theorem wpList_append_zero0 {P : Program} {w : World} {ops : Array Oper} {rest : List Oper} {o : Oper} {a : Act} {Q : Exit → Act → World → Prop} (hgd : o.guard = none) (s x : Operand) (t tn : TypeId) {kn : IntKind}
    (ho : o.op = .call { callee := .builtin .append, args := #[s, x], argTypes := #[t, tn] }) (ht : P.underlying t = some (.slice 5)) (htn : P.underlying tn = some (.int kn)) (h5 : (P.info? 5).map (fun i => (i.zero, i.size, i.bytes)) = some (some (.int .u8 0), 1, 1))
    (B : Nat) (v : Value) (l : List Int) (hs : a.eval s = v) (hown : Own w B v l) (kq : IntKind) (hx : a.eval x = .int kq 0)
    (h : wpList P ops Q rest (a.put o.dst v) w) : wpList P ops Q (o :: rest) a w := by
  have hrun := run_append_zero0 (ty := o.type) ht htn h5 w B v l hown kq
  refine wpList_plain hgd fun K hK => ?_
  unfold Oper.wp
  simp [execOp, ho, resolve, invoke, builtin, hs, hx, hrun, Result.andThen]
  exact hK _ _ h

/-- The document's answer. -/
def EndR (r : Except Int (List Int)) (e : Ending) (w' : World) : Prop :=
  (∃ q v, r = .ok q ∧ e = .returned (.tuple #[v, .int .i64 0]) ∧ Fresh w' v q) ∨ (∃ c, r = .error c ∧ ¬ c = 0 ∧ e = .returned (.tuple #[.slice none 0 0, .int .i64 c]))

set_option maxHeartbeats 16000000 in
set_option maxRecDepth 100000 in
theorem rcontent_any (ad : Option Addr) (cap : Nat) (d : List Int) (s : ByteArray) (k z : Int) (a : Option Addr) (n c : Nat) (R : List (Int × Int)) (w : World) (hd : d.length ≤ 1000000) (hs : Sl w ad cap d) (hn : n = R.length) (hR : LiesE w a R) (hN : NearC R) (hl20 : R.length ≤ 20) :
    Calls Tryz.prog 10 #[.slice ad d.length cap, .agg #[.string s, .int .i64 k, .int .i64 z, .slice a n c]] w fun e w' => EndR (contR d z R) e w' ∧ Below w.heap.size w w' := by
  obtain ⟨w1, hw1⟩ : ∃ w1, w1 = w.alloc (.cells #[.string s, .int .i64 k, .int .i64 z, .slice a n c] 42) := ⟨_, rfl⟩
  have hb1 : Below w.heap.size w w1 := by rw [hw1]; exact (Below.refl _ _).alloc (Nat.le_refl _) _
  have hk1 : Blk w1 w.heap.size #[.string s, .int .i64 k, .int .i64 z, .slice a n c] 42 := by rw [hw1]; exact Blk.new _ _ _
  have c2 : (w.alloc (.cells #[.string s, .int .i64 k, .int .i64 z, .slice a n c] 42)).cell? ⟨w.heap.size, 2, none⟩ = some (.int .i64 z) := by rw [← hw1]; exact hk1.cell 2 _ rfl
  have HW1 := hide hw1
  have HB1 := hide hb1
  have HK1 := hide hk1
  have HR := hide (hR.below hb1)
  have HN := hide hN
  have HL := hide (show n ≤ R.length ∧ R.length ≤ n ∧ n ≤ 20 by omega)
  have HLd := hide (hs.lies.below hb1)
  have HSd := hide (And.intro hs.le hs.none)
  obtain ⟨D, hD⟩ : ∃ D, D = d.length := ⟨_, rfl⟩
  rw [← hD]
  have HD := hide (show D ≤ d.length ∧ d.length ≤ D ∧ D ≤ 1000000 by omega)
  clear hw1 hb1 hk1 hR hN hn hl20 hs hd hD
  by_cases hz0 : z < 0
  · have HT : Hid (contR d z R = .error 4) := hide (by unfold contR; rw [if_pos (Or.inl hz0)])
    go_enter Tryz.func10, Tryz.ntmps10
    go_wp2_with fail
    rw [← HW1.out]
    go_ret2
    exact ⟨Or.inr ⟨4, HT.out, by decide, rfl⟩, HB1.out⟩
  by_cases hz1 : 16777216 < z
  · have HT : Hid (contR d z R = .error 4) := hide (by unfold contR; rw [if_pos (Or.inr hz1)])
    go_enter Tryz.func10, Tryz.ntmps10
    go_wp2_with fail
    rw [← HW1.out]
    go_ret2
    exact ⟨Or.inr ⟨4, HT.out, by decide, rfl⟩, HB1.out⟩
  have HT : Hid (contR d z R = refF d z R []) := hide (by unfold contR; rw [if_neg (by omega)])
  go_enter Tryz.func10, Tryz.ntmps10
  go_wp2_with fail
  rw [← HW1.out]
  clear c2
  go_loopw [6, 7] (fun v i wr => ∃ (j : Nat) (out : List Int), j ≤ n ∧ i = .int .i64 (j : Int) ∧ Own wr w1.heap.size v out ∧ refF d z R [] = refF d z (R.drop j) out ∧ out.length ≤ 105000 * j ∧ (out.length : Int) ≤ z ∧ Below w1.heap.size w1 wr) (fun _ i _ => n - (intOf i).toNat)
  case atStart => exact ⟨0, [], by omega, rfl, World.ownsRow_nil _ _ _ _, rfl, by simp, by simp; omega, Below.refl _ _⟩
  case round =>
    obtain ⟨j, out, hj, rfl, ho, hrd, hol, hoz, hbr⟩ := hrel
    have hk := HK1.out.below hbr
    have y2 : wr.cell? ⟨w.heap.size, 2, none⟩ = some (.int .i64 z) := hk.cell 2 _ rfl
    have y3 : wr.cell? ⟨w.heap.size, 3, none⟩ = some (.slice a n c) := hk.cell 3 _ rfl
    obtain ⟨av, cv, rfl, _⟩ := ho.form
    have HO := hide ho
    have HRd := hide hrd
    have HBr := hide hbr
    obtain ⟨m, hm⟩ : ∃ m, m = out.length := ⟨_, rfl⟩
    rw [← hm] at hol hoz HO ⊢
    have HM := hide (show m ≤ out.length ∧ out.length ≤ m by omega)
    have HOl := hide (And.intro hol hoz)
    clear ho hrd hbr hol hm
    by_cases hlt : j < n
    · have hjR : j < R.length := by have := HL.out; omega
      rcases HR.out.below HBr.out with hE | ⟨b, off, rfl, hblt, hc⟩
      · rw [hE] at hjR; simp at hjR
      obtain ⟨q0, q1⟩ := hc j hjR
      have hnr := near_get HN.out j hjR
      have HDf : Hid (refF d z (R.drop j) out = if (R.getD j (0, 0)).2 < (R.getD j (0, 0)).1 ∨ z - out.length < (R.getD j (0, 0)).2 - (R.getD j (0, 0)).1 then .error 4 else match pieceF d (R.getD j (0, 0)).1 (R.getD j (0, 0)).2 with
        | .error c => .error c
        | .ok q => refF d z (R.drop (j + 1)) (out ++ q)) := hide (by rw [drop_consE R j hjR]; rfl)
      clear hc hjR
      generalize R.getD j (0, 0) = p at *
      obtain ⟨x, y⟩ := p
      dsimp only at q0 q1 HDf hnr
      have HNr := hide hnr
      obtain ⟨w4, hw4⟩ : ∃ w4, w4 = wr.alloc (.cells #[.int .i64 x, .int .i64 y] 24) := ⟨_, rfl⟩
      have hb4 : Below wr.heap.size wr w4 := by rw [hw4]; exact (Below.refl _ _).alloc (Nat.le_refl _) _
      have hx4 : Blk w4 wr.heap.size #[.int .i64 x, .int .i64 y] 24 := by rw [hw4]; exact Blk.new _ _ _
      have hk4 := hk.below hb4
      have x0 : (wr.alloc (.cells #[.int .i64 x, .int .i64 y] 24)).cell? ⟨wr.heap.size, 0, none⟩ = some (.int .i64 x) := by rw [← hw4]; exact hx4.cell 0 _ rfl
      have x1 : (wr.alloc (.cells #[.int .i64 x, .int .i64 y] 24)).cell? ⟨wr.heap.size, 1, none⟩ = some (.int .i64 y) := by rw [← hw4]; exact hx4.cell 1 _ rfl
      have z2 : (wr.alloc (.cells #[.int .i64 x, .int .i64 y] 24)).cell? ⟨w.heap.size, 2, none⟩ = some (.int .i64 z) := by rw [← hw4]; exact hk4.cell 2 _ rfl
      have HB4 := hide (HBr.out.trans (hb4.mono HBr.out.size))
      have HO4 : Hid (Own (wr.alloc (.cells #[.int .i64 x, .int .i64 y] 24)) w1.heap.size (.slice av m cv) out) := hide (by rw [← hw4]; exact HO.out.below hb4)
      have HW4 := hide hw4
      have HLd4 := hide (HLd.out.below (HBr.out.trans (hb4.mono HBr.out.size)))
      have hs4 : w1.heap.size ≤ (wr.alloc (.cells #[.int .i64 x, .int .i64 y] 24)).heap.size := by rw [← hw4]; exact HB4.out.size
      have hj0 : (0 : Int) ≤ (j : Int) := by omega
      have hj1 : (j : Int) < (n : Int) := by omega
      have hj3 : (n : Int) ≤ 20 := by have := HL.out; omega
      have hm1 : (m : Int) ≤ 16777216 := by omega
      have HLt := hide hlt
      clear hb4 hx4 hk4 hk hw4 hlt hoz
      by_cases hyx : y < x
      · have HT2 : Hid (contR d z R = .error 4) := hide (by rw [HT.out, HRd.out, HDf.out, if_pos (Or.inl hyx)])
        go_wp2_with fail
        rw [← HW4.out]
        go_ret2
        exact ⟨Or.inr ⟨4, HT2.out, by decide, rfl⟩, HB1.out.trans (HB4.out.mono HB1.out.size)⟩
      have hw3 : IntKind.i64.wrap (y - x) = y - x := by rw [IntKind.wrap_i64]; omega
      have hw5 : IntKind.i64.wrap (z - (m : Int)) = z - (m : Int) := by rw [IntKind.wrap_i64]; omega
      by_cases hbig : z - (m : Int) < y - x
      · have HT2 : Hid (contR d z R = .error 4) := hide (by have := HM.out; rw [HT.out, HRd.out, HDf.out, if_pos (Or.inr (by omega))])
        go_wp2_with fail
        rw [← HW4.out]
        go_ret2
        exact ⟨Or.inr ⟨4, HT2.out, by decide, rfl⟩, HB1.out.trans (HB4.out.mono HB1.out.size)⟩
      have HDg : Hid (refF d z (R.drop j) out = match pieceF d x y with
        | .error c => .error c
        | .ok q => refF d z (R.drop (j + 1)) (out ++ q)) := hide (by have := HM.out; rw [HDf.out, if_neg (by omega)])
      have HYx := hide (show x ≤ y ∧ y - x ≤ z - (m : Int) by omega)
      by_cases h0 : x < 0
      · obtain ⟨e, he⟩ : ∃ e : Nat, y - x = (e : Int) := ⟨(y - x).toNat, by omega⟩
        have HP : Hid (pieceF d x y = .ok (List.replicate e 0)) := hide (by unfold pieceF; rw [if_pos h0, he]; simp)
        have HRd2 : Hid (refF d z R [] = refF d z (R.drop (j + 1)) (out ++ List.replicate e 0)) := hide (by rw [HRd.out, HDg.out, HP.out])
        have hw6 : IntKind.i64.wrap (y - x) = (e : Int) := by rw [hw3, he]
        have HE := hide (show (e : Int) ≤ 105000 ∧ (m : Int) + (e : Int) ≤ z by have := HYx.out; omega)
        have hbig2 : ¬ z - (m : Int) < (e : Int) := by omega
        have hsum : out.length + e ≤ 140737488355328 := by have := HE.out; have := HM.out; omega
        by_cases he0 : e = 0
        · subst he0
          have hw7 : IntKind.i64.wrap (y - x) = 0 := by rw [hw6]; rfl
          have HRd3 : Hid (refF d z R [] = refF d z (R.drop (j + 1)) out) := hide (by rw [HRd2.out]; simp)
          have hyx2 : y - x = 0 := by omega
          have HYe := hide hyx2
          have hbig3 : ¬ z - (m : Int) < 0 := by omega
          clear hw6 hw3 he hbig2 hsum hyx2 hbig
          go_wp2_with (at_builtin; refine wpList_append_zero0 rfl (.tmp 50) (.tmp 55) 22 2 rfl Tryz.underlying22 Tryz.underlying2 info5 w1.heap.size _ out rfl (by exact HO4.out) .i64 rfl ?_)
          go_roundw
          case rel => exact ⟨j + 1, out, by have := HLt.out; omega, by go_num, HO4.out, HRd3.out, by have := HM.out; have := HOl.out; omega, by have := HE.out; have := HM.out; omega, by rw [← HW4.out]; exact HB4.out⟩
          case measure => have := HLt.out; simp [intOf]; omega
        · have he1 : 0 < e := by omega
          clear hw3 he he0 hbig
          go_wp2_with (at_builtin; refine wpList_append_zeros rfl (.tmp 50) (.tmp 55) 22 2 rfl Tryz.underlying22 Tryz.underlying2 info5 w1.heap.size _ out rfl (by exact HO4.out) e _ .i64 rfl rfl he1 hsum hs4 ?_; intro v6 w6 ho6 hg6 _; have HO6 := hide ho6; have HB6 := hide (HB4.out.trans (Chg.below w1.heap.size (Chg.of_grown (by rw [HW4.out]; exact hg6)) HB4.out.size (fun i hi e => by have h1 := HO4.out.base i e.symm; omega))); clear ho6 hg6)
          go_roundw
          case rel => exact ⟨j + 1, out ++ List.replicate e 0, by have := HLt.out; omega, by go_num, HO6.out, HRd2.out, by have := HE.out; have := HM.out; have := HOl.out; simp; omega, by have := HE.out; have := HM.out; simp; omega, HB6.out⟩
          case measure => have := HLt.out; simp [intOf]; omega
      · by_cases hyD : (D : Int) < y
        · have HP : Hid (pieceF d x y = .error 4) := hide (by have := HD.out; unfold pieceF; rw [if_neg h0, if_neg (by omega)])
          have HT2 : Hid (contR d z R = .error 4) := hide (by rw [HT.out, HRd.out, HDg.out, HP.out])
          go_wp2_with fail
          rw [← HW4.out]
          go_ret2
          exact ⟨Or.inr ⟨4, HT2.out, by decide, rfl⟩, HB1.out.trans (HB4.out.mono HB1.out.size)⟩
        have HP : Hid (pieceF d x y = .ok ((d.drop x.toNat).take (y - x).toNat)) := hide (by have := HD.out; unfold pieceF; rw [if_neg h0, if_pos (by omega)])
        obtain ⟨q, hq⟩ : ∃ q : Nat, x = (q : Int) := ⟨x.toNat, by omega⟩
        obtain ⟨e, he⟩ : ∃ e : Nat, y = (q : Int) + (e : Int) := ⟨(y - x).toNat, by omega⟩
        subst hq he
        have hq1 : (q : Int).toNat = q := by simp
        have hq2 : ((q : Int) + (e : Int) - (q : Int)).toNat = e := by omega
        rw [hq1, hq2] at HP
        have HRd2 : Hid (refF d z R [] = refF d z (R.drop (j + 1)) (out ++ (d.drop q).take e)) := hide (by rw [HRd.out, HDg.out, HP.out])
        have hlen : ((d.drop q).take e).length = e := by have := HD.out; simp; omega
        have HE := hide (show e ≤ 105000 ∧ (m : Int) + (e : Int) ≤ z ∧ ((d.drop q).take e).length ≤ e by have := HYx.out; have := HNr.out; omega)
        have hsum : out.length + ((d.drop q).take e).length ≤ 140737488355328 := by have := HE.out; have := HM.out; omega
        have hcap := HSd.out
        have hDd := HD.out
        have hqe : q + e ≤ cap := by omega
        have hw7 : IntKind.i64.wrap ((q : Int) + (e : Int) - (q : Int)) = (e : Int) := by rw [IntKind.wrap_i64]; omega
        have hbig3 : ¬ z - (m : Int) < (e : Int) := by omega
        have HLn := hide hlen
        have HLy := hide (show Lies (wr.alloc (.cells #[.int .i64 q, .int .i64 ((q : Int) + (e : Int))] 24)) ad d by rw [← HW4.out]; exact HLd4.out)
        clear hw3 hbig hq1 hq2 hlen
        by_cases he0 : e = 0
        · have HL0 : Hid ((d.drop q).take e = []) := hide (by rw [he0]; simp)
          have hqD : (q : Int) + (e : Int) ≤ (D : Int) := by omega
          cases ad with
          | none =>
            clear hcap hDd he0
            go_wp2_with (at_builtin; refine wpList_append_bytes rfl (.tmp 62) (.tmp 68) 22 rfl Tryz.underlying22 info5 w1.heap.size _ out rfl (by exact HO4.out) _ _ _ ((d.drop q).take e) rfl (by rw [HLn.out]; omega) (Or.inl HL0.out) hsum hs4 ?_; intro v6 w6 ho6 hg6; have HO6 := hide ho6; have HB6 := hide (HB4.out.trans (Chg.below w1.heap.size (Chg.of_grown (by rw [HW4.out]; exact hg6)) HB4.out.size (fun i hi e => by have h1 := HO4.out.base i e.symm; omega))); clear ho6 hg6)
            go_roundw
            case rel => exact ⟨j + 1, out ++ (d.drop q).take e, by have := HLt.out; omega, by go_num, HO6.out, HRd2.out, by have := HE.out; have := HM.out; have := HOl.out; rw [List.length_append]; omega, by have := HE.out; have := HM.out; rw [List.length_append]; omega, HB6.out⟩
            case measure => have := HLt.out; simp [intOf]; omega
          | some z4 =>
            clear hcap hDd he0
            by_cases hqc : q = cap
            · subst hqc
              go_wp2_with (at_builtin; refine wpList_append_bytes rfl (.tmp 62) (.tmp 68) 22 rfl Tryz.underlying22 info5 w1.heap.size _ out rfl (by exact HO4.out) _ _ _ ((d.drop q).take e) rfl (by rw [HLn.out]; omega) (Or.inl HL0.out) hsum hs4 ?_; intro v6 w6 ho6 hg6; have HO6 := hide ho6; have HB6 := hide (HB4.out.trans (Chg.below w1.heap.size (Chg.of_grown (by rw [HW4.out]; exact hg6)) HB4.out.size (fun i hi e => by have h1 := HO4.out.base i e.symm; omega))); clear ho6 hg6)
              go_roundw
              case rel => exact ⟨j + 1, out ++ (d.drop q).take e, by have := HLt.out; omega, by go_num, HO6.out, HRd2.out, by have := HE.out; have := HM.out; have := HOl.out; rw [List.length_append]; omega, by have := HE.out; have := HM.out; rw [List.length_append]; omega, HB6.out⟩
              case measure => have := HLt.out; simp [intOf]; omega
            · go_wp2_with (at_builtin; refine wpList_append_bytes rfl (.tmp 62) (.tmp 68) 22 rfl Tryz.underlying22 info5 w1.heap.size _ out rfl (by exact HO4.out) _ _ _ ((d.drop q).take e) rfl (by rw [HLn.out]; omega) (Or.inl HL0.out) hsum hs4 ?_; intro v6 w6 ho6 hg6; have HO6 := hide ho6; have HB6 := hide (HB4.out.trans (Chg.below w1.heap.size (Chg.of_grown (by rw [HW4.out]; exact hg6)) HB4.out.size (fun i hi e => by have h1 := HO4.out.base i e.symm; omega))); clear ho6 hg6)
              go_roundw
              case rel => exact ⟨j + 1, out ++ (d.drop q).take e, by have := HLt.out; omega, by go_num, HO6.out, HRd2.out, by have := HE.out; have := HM.out; have := HOl.out; rw [List.length_append]; omega, by have := HE.out; have := HM.out; rw [List.length_append]; omega, HB6.out⟩
              case measure => have := HLt.out; simp [intOf]; omega
        · rcases HLy.out with hdn | ⟨b2, off2, hz4, _, hc2⟩
          · exfalso
            rw [hdn] at hDd
            simp at hDd
            omega
          subst hz4
          have hqc : ¬ q = cap := by omega
          have HLp := hide ((Lies.mk (w := (wr.alloc (.cells #[.int .i64 q, .int .i64 ((q : Int) + (e : Int))] 24))) (b := b2) (off := off2) (l := d) hc2).of_part q e)
          have hqD : (q : Int) + (e : Int) ≤ (D : Int) := by omega
          clear hc2 hcap hDd he0
          go_wp2_with (at_builtin; refine wpList_append_bytes rfl (.tmp 62) (.tmp 68) 22 rfl Tryz.underlying22 info5 w1.heap.size _ out rfl (by exact HO4.out) _ _ _ ((d.drop q).take e) rfl (by rw [HLn.out]; omega) (by exact HLp.out) hsum hs4 ?_; intro v6 w6 ho6 hg6; have HO6 := hide ho6; have HB6 := hide (HB4.out.trans (Chg.below w1.heap.size (Chg.of_grown (by rw [HW4.out]; exact hg6)) HB4.out.size (fun i hi e => by have h1 := HO4.out.base i e.symm; omega))); clear ho6 hg6)
          go_roundw
          case rel => exact ⟨j + 1, out ++ (d.drop q).take e, by have := HLt.out; omega, by go_num, HO6.out, HRd2.out, by have := HE.out; have := HM.out; have := HOl.out; rw [List.length_append]; omega, by have := HE.out; have := HM.out; rw [List.length_append]; omega, HB6.out⟩
          case measure => have := HLt.out; simp [intOf]; omega
    · obtain rfl : j = n := by omega
      have HRo : Hid (refF d z R [] = if (out.length : Int) = z then .ok out else .error 23) := hide (by rw [HRd.out, List.drop_of_length_le (by have := HL.out; omega)]; rfl)
      by_cases hmz : (m : Int) = z
      · have HT2 : Hid (contR d z R = .ok out) := hide (by have := HM.out; rw [HT.out, HRo.out, if_pos (by omega)])
        have HMz := hide hmz
        have hmz2 : (m : Int) = z := hmz
        subst hmz2
        clear hmz
        go_wp2_with fail
        go_ret2
        obtain ⟨a9, c9, he, hl9, _, hc9, _⟩ := HO.out.form
        exact ⟨Or.inl ⟨out, _, HT2.out, rfl, ⟨a9, c9, he, hl9, hc9⟩⟩, HB1.out.trans (HBr.out.mono HB1.out.size)⟩
      · have HT2 : Hid (contR d z R = .error 23) := hide (by have := HM.out; rw [HT.out, HRo.out, if_neg (by omega)])
        go_wp2_with fail
        go_ret2
        exact ⟨Or.inr ⟨23, HT2.out, by decide, rfl⟩, HB1.out.trans (HBr.out.mono HB1.out.size)⟩
end Go.Proofs.YtjpdfchdgphdoaaGreatDoor.Oct
