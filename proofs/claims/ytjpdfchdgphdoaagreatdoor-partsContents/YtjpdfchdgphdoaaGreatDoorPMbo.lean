/- Has no byte two owners? -/
import Derived.Test.YtjpdfchdgphdoaaGreatDoorPMbn
import Derived.Test.YtjpdfchdgphdoaaGreatDoorPApr
import Derived.Lib.SliceRun
namespace Go.Proofs.YtjpdfchdgphdoaaGreatDoor.Oct
open Go.RowKit

theorem liesX_cells {w : World} {x : Addr} {M : List (Int × Int)} (h : LiesE w (some x) M) : ∀ j u, (M.flatMap encE)[j]? = some u → w.cell? (x.add j) = some u := by
  intro j u hj
  have hjl : j < M.length * 2 := by
    rw [← flatE_len]
    exact (List.getElem?_eq_some_iff.1 hj).1
  rcases h with h | ⟨b, off, e, _, hc⟩
  · subst h; simp at hjl
  · cases e
    have hk : j / 2 < M.length := by omega
    obtain ⟨c0, c1⟩ := hc (j / 2) hk
    have hf := flatE_get M (j / 2) (j % 2) hk (by omega)
    rw [show j / 2 * 2 + j % 2 = j by omega, hj] at hf
    rw [Go.WideShapes.add_plain]
    have hm : j % 2 = 0 ∨ j % 2 = 1 := by omega
    rcases hm with hm | hm
    · rw [hm] at hf
      simp [encE] at hf
      rw [show off + j = off + j / 2 * 2 by omega, c0, hf]
      simp
    · rw [hm] at hf
      simp [encE] at hf
      rw [show off + j = off + j / 2 * 2 + 1 by omega, c1, hf]
      simp

theorem run_append_X {t ty : TypeId} (ht : Tryz.prog.underlying t = some (.slice 24)) (w : World) (B : Nat) (v : Value) (O M : List (Int × Int)) (hown : OwnE w B v O) (ad : Option Addr) (c : Nat) (hl : LiesE w ad M) (hlen : O.length + M.length ≤ 10000000) (hB : B ≤ w.heap.size) :
    ∃ v' w', (Builtin.append_ #[t, t] ty #[v, .slice ad M.length c]).run Tryz.prog w = .ok v' w' ∧ OwnE w' B v' (O ++ M) ∧ w.grownBy w' v.ownBlock := by
  obtain ⟨i, hi, hz0, hz1, hz2⟩ := info_parts infoX
  cases ad with
  | none =>
    have hm : M = [] := by
      rcases hl with h | ⟨b, off, h, _⟩
      · exact h
      · cases h
    subst hm
    refine ⟨v, w, ?_, by simpa using hown, World.grownBy.refl _ _⟩
    rcases hown.2 with ⟨rfl, _⟩ | ⟨g, cap, cur, rfl, _, _, hnc, _⟩
    · simp [Builtin.append_, run_underlying ht, sizeOf, typeInfo, hi, Builtin.lenOf, Builtin.firstCells]
    · simp [Builtin.append_, run_underlying ht, sizeOf, typeInfo, hi, Builtin.lenOf, Builtin.firstCells, hnc, storeCells]
  | some x =>
    obtain ⟨v', w', hrun, ho, hg, _⟩ := run_append_own (P := Tryz.prog) w B t ty 24 i (.agg #[.int .i64 0, .int .i64 0]) 2 16 ht hi hz0 hz1 hz2 rfl (by decide) v O.length (O.flatMap encE) hown x M.length c (M.flatMap encE) (flatE_len M)
      (liesX_cells hl) (by
        intro u hu
        obtain ⟨p, _, hp⟩ := List.mem_flatMap.1 hu
        simp [encE] at hp
        rcases hp with rfl | rfl <;> rfl) (by unfold maxLen; omega) (by omega) hB
    refine ⟨v', w', hrun, ?_, hg⟩
    unfold OwnE
    rw [List.flatMap_append, List.length_append]
    exact ho

theorem wpList_append_X {w : World} {ops : Array Oper} {rest : List Oper} {o : Oper} {a : Act} {Q : Exit → Act → World → Prop} (hgd : o.guard = none) (s x : Operand) (t : TypeId)
    (ho : o.op = .call { callee := .builtin .append, args := #[s, x], argTypes := #[t, t] }) (ht : Tryz.prog.underlying t = some (.slice 24)) (B : Nat) (v : Value) (O : List (Int × Int)) (hs : a.eval s = v) (hown : OwnE w B v O)
    (ad : Option Addr) (n c : Nat) (M : List (Int × Int)) (hx : a.eval x = .slice ad n c) (hn : n = M.length) (hl : LiesE w ad M) (hlen : O.length + M.length ≤ 10000000) (hB : B ≤ w.heap.size)
    (h : ∀ v' w', OwnE w' B v' (O ++ M) → w.grownBy w' v.ownBlock → wpList Tryz.prog ops Q rest (a.put o.dst v') w') : wpList Tryz.prog ops Q (o :: rest) a w := by
  subst hn
  obtain ⟨v', w', hrun, ho', hg⟩ := run_append_X (ty := o.type) ht w B v O M hown ad c hl hlen hB
  refine wpList_plain hgd fun K hK => ?_
  unfold Oper.wp
  simp [execOp, ho, resolve, invoke, builtin, hs, hx, hrun, Result.andThen]
  exact hK _ _ (h v' w' ho' hg)

theorem OwnE.empty (w : World) : OwnE (w.alloc (.cells #[] 24)) w.heap.size (.slice (some ⟨w.heap.size, 0, none⟩) 0 0) [] := by
  have := World.ownsRow_lit (base := w.heap.size) (e := 24) (size := 2) w #[] 0 (Nat.le_refl _) (by simp) rfl
  unfold OwnE
  simpa using this

theorem OwnE.one (w : World) (x y : Int) : OwnE (w.alloc (.cells #[.int .i64 x, .int .i64 y] 24)) w.heap.size (.slice (some ⟨w.heap.size, 0, none⟩) 1 1) [(x, y)] := by
  have := World.ownsRow_lit (base := w.heap.size) (e := 24) (size := 2) w #[.int .i64 x, .int .i64 y] 1 (Nat.le_refl _) (by unfold maxLen; omega) rfl
  unfold OwnE
  simpa [encE] using this

set_option maxHeartbeats 1000000 in
set_option maxRecDepth 100000 in
theorem cloneX_any (w : World) (a : Option Addr) (cap : Nat) (L : List (Int × Int)) (hl : LiesE w a L) (hlen : L.length ≤ 1000000) :
    Calls Tryz.prog 26 #[.slice a L.length cap] w fun e w' => ∃ v, e = .returned v ∧ OwnE w' w.heap.size v L ∧ Below w.heap.size w w' := by
  cases a with
  | none =>
    have h0 : L = [] := by
      rcases hl with h | ⟨b, off, h, _⟩
      · exact h
      · cases h
    subst h0
    clear hlen hl
    have hq := fun u : World => Lib.run_eql_slice_nil u 40 24 none 0 cap 0 0 Tryz.underlying40
    go_enter Tryz.func26, Tryz.ntmps26
    go_wp2
    go_ret
    exact ⟨_, rfl, OwnE.nil _ _, Below.refl _ _⟩
  | some x =>
    have HL := hide hl
    have HN := hide hlen
    clear hl hlen
    have hq := fun u : World => Lib.run_eql_slice_nil u 40 24 (some x) L.length cap 0 0 Tryz.underlying40
    go_enter Tryz.func26, Tryz.ntmps26
    go_wp2_with (refine wpList_append_X (by rfl) _ _ 40 (by rfl) Tryz.underlying40 w.heap.size _ [] (by rfl) (OwnE.empty w) _ _ _ L (by rfl) rfl (HL.out.below ((Below.refl _ _).alloc (Nat.le_refl _) _)) (by have := HN.out; simp; omega) (by simp) ?_; intro v9 w9 ho9 hg9)
    go_ret
    refine ⟨_, rfl, by simpa using ho9, ?_⟩
    have := ((Below.refl w.heap.size w).alloc (Nat.le_refl _) (.cells #[] 24)).grown hg9 (by simp) (fun k hk => by simp [Value.ownBlock] at hk; omega)
    exact this

def exP (p : M4) : Int × Int := (p.1, p.2.1)
def outK (st : MS) (k : Nat) : List (Int × Int) := (st.i1, st.i2) :: ((st.P.take k).filter (fun p => decide (p.2.2.2 < 4))).map exP
def allK (st : MS) (k : Nat) : List (Int × Int) := st.H ++ (st.P.take k).map exP

theorem takeP (L : List M4) (k : Nat) (hk : k < L.length) : L.take (k + 1) = L.take k ++ [L.getD k zm4] := by
  rw [List.take_succ_eq_append_getElem hk]
  simp [hk]

theorem LiesP.at_ {w : World} {b off : Nat} {L : List M4} (h : LiesP w (some ⟨b, off, none⟩) L) (k : Nat) (hk : k < L.length) :
    w.cell? ⟨b, off + k * 4, none⟩ = some (.int .i64 (L.getD k zm4).1) ∧ w.cell? ⟨b, off + k * 4 + 1, none⟩ = some (.int .i64 (L.getD k zm4).2.1) ∧ w.cell? ⟨b, off + k * 4 + 2, none⟩ = some (.int .i64 (L.getD k zm4).2.2.1) ∧ w.cell? ⟨b, off + k * 4 + 3, none⟩ = some (.int .i64 (L.getD k zm4).2.2.2) := by
  rcases h with h | ⟨b', off', e, _, hc⟩
  · rw [h] at hk; simp at hk
  · cases e
    exact hc k hk

set_option maxHeartbeats 8000000 in
set_option maxRecDepth 100000 in
theorem rapart_any (hS : SortSays) (w : World) (K : Nat → Prop) (R : Nat) (dv vP vH : Value) (st : MS) (h : Rdg w K R dv vP vH st) (hP : st.P.length ≤ 100000) (hH : st.H.length ≤ 100000) :
    Calls Tryz.prog 40 #[.pointer (some ⟨R, 0, none⟩)] w fun e w' => (∃ b, e = .returned (.bool b) ∧ (b = true ↔ (outerM st).Pairwise Off ∧ (allM st).Pairwise Off)) ∧ Below w.heap.size w w' := by
  have HAp := fun u a c L hl hn => hide (apart_any hS u a c L hl hn)
  obtain ⟨aP, cP, rfl, hlP, _⟩ := h.p.form
  obtain ⟨aH, cH, rfl, hlH, _⟩ := OwnE.form h.h
  have HCl := fun u (hu : Below w.heap.size w u) => hide (cloneX_any u aH cH st.H (hlH.below hu) (by omega))
  obtain ⟨c0, c1, c2, c3, _, _⟩ := h.cell
  have hlt := h.blk.lt
  have HLP := hide hlP
  have HR := hide h
  obtain ⟨n, hn⟩ : ∃ n, n = st.P.length := ⟨_, rfl⟩
  have HN := hide hn
  have HO1 := hide (OwnE.one w st.i1 st.i2)
  have HB1 := hide ((Below.refl w.heap.size w).alloc (Nat.le_refl _) (.cells #[.int .i64 st.i1, .int .i64 st.i2] 24))
  have hne : R ≠ w.heap.size := by omega
  have r1 : (w.alloc (.cells #[.int .i64 st.i1, .int .i64 st.i2] 24)).cell? ⟨R, 1, none⟩ = some (.slice aH st.H.length cH) := (h.below HB1.out).cell.2.1
  have HLt := hide hlt
  clear h hlP hlH hS hlt
  rw [← hn] at c0 hP
  clear hn
  go_enter Tryz.func40, Tryz.ntmps40
  go_wp2_with fail
  refine ((HCl _ HB1.out).out).mono ?_
  rintro e9 w2 ⟨v2, rfl, ho2, hb2⟩
  have hb2' := HB1.out.trans (hb2.mono HB1.out.size)
  have ho1' : OwnE w2 w.heap.size (.slice (some ⟨w.heap.size, 0, none⟩) 1 1) [(st.i1, st.i2)] := HO1.out.below hb2
  have ho2' : OwnE w2 w.heap.size v2 st.H := ⟨ho2.1, by
    rcases ho2.2 with h1 | ⟨g, cap, cur, h1, hg, hr⟩
    · exact Or.inl h1
    · exact Or.inr ⟨g, cap, cur, h1, Nat.le_trans HB1.out.size hg, hr⟩⟩
  have hdis : v2.ownBlock ≠ some w.heap.size := fun e => by
    have := (World.ownsRow.lt ho2 _ e).1
    simp at this
    omega
  have c0' := (hb2'.cell (p := ⟨R, 0, none⟩) HLt.out).trans c0
  obtain ⟨a2, k2, hv2, _, _, _, _⟩ := OwnE.form ho2
  subst hv2
  have HB2 := hide hb2'
  have HO1' := hide ho1'
  have HO2' := hide ho2'
  have HDs := hide hdis
  obtain ⟨i1, hi, hz0, hz1, hz2⟩ := info_parts infoX
  clear ho2 hb2 hb2' ho1' ho2' hdis c0 c1 c2 c3 r1 HCl HO1 HB1
  go_wp2_with fail
  clear c0'
  go_loopw [3, 4, 25] (fun v3 v4 i wr => ∃ (k : Nat), k ≤ n ∧ i = .int .i64 k ∧ OwnE wr w.heap.size v3 (outK st k) ∧ OwnE wr w.heap.size v4 (allK st k) ∧ (∀ g, v4.ownBlock = some g → v3.ownBlock ≠ some g) ∧ Below w.heap.size w wr) (fun _ _ i _ => n - (intOf i).toNat)
  case atStart => exact ⟨0, by omega, rfl, HO1'.out, by simpa [allK] using HO2'.out, fun g e e2 => HDs.out (by rw [e]; simpa [Value.ownBlock] using e2.symm), HB2.out⟩
  case round =>
    obtain ⟨k, hk, rfl, ho3, ho4, hds, hbel⟩ := hrel
    have HO3 := hide ho3
    have HO4 := hide ho4
    have HD := hide hds
    have HB := hide hbel
    clear ho3 ho4 hds hbel
    have hol : (outK st k).length ≤ 200000 := by
      unfold outK
      simp only [List.length_cons, List.length_map]
      have h1 := List.length_filter_le (fun p : M4 => decide (p.2.2.2 < 4)) (st.P.take k)
      have h2 : (st.P.take k).length ≤ k := by simp; omega
      omega
    have hal : (allK st k).length ≤ 300000 := by
      unfold allK
      simp only [List.length_append, List.length_map]
      have h2 : (st.P.take k).length ≤ k := by simp; omega
      omega
    by_cases hlt : k < n
    · have hlt' : k < st.P.length := by have := HN.out; omega
      have hl4 := HLP.out.below HB.out
      rcases hl4 with hE | ⟨b, off, rfl, hbl, hc⟩
      · rw [hE] at hlt'; simp at hlt'
      obtain ⟨q0, q1, q2, q3⟩ := hc k hlt'
      have HAl : Hid (allK st (k + 1) = allK st k ++ [((st.P.getD k zm4).1, (st.P.getD k zm4).2.1)]) := hide (by
        unfold allK
        rw [takeP _ k hlt']
        simp [exP])
      have HOu : Hid (outK st (k + 1) = if (st.P.getD k zm4).2.2.2 < 4 then outK st k ++ [((st.P.getD k zm4).1, (st.P.getD k zm4).2.1)] else outK st k) := hide (by
        unfold outK
        rw [takeP _ k hlt']
        by_cases h4 : (st.P.getD k zm4).2.2.2 < 4
        · rw [if_pos h4]
          simp only [List.filter_append, List.map_append, List.cons_append]
          simp only [List.filter_cons, h4, decide_true, List.filter_nil]
          rfl
        · rw [if_neg h4]
          simp only [List.filter_append, List.map_append]
          simp only [List.filter_cons, h4, decide_false, List.filter_nil]
          simp)
      generalize st.P.getD k zm4 = x at *
      obtain ⟨x0, x1, x2, x3⟩ := x
      dsimp only at *
      obtain ⟨oK, hoK⟩ : ∃ oK, oK = outK st k := ⟨_, rfl⟩
      obtain ⟨aK, haK⟩ : ∃ aK, aK = allK st k := ⟨_, rfl⟩
      rw [← hoK] at HO3 HOu hol
      rw [← haK] at HO4 HAl hal
      obtain ⟨wa, hwa⟩ : ∃ wa, wa = (wr.alloc (.cells #[.int .i64 x0, .int .i64 x1, .int .i64 x2, .int .i64 x3] 74)).alloc (.cells #[.int .i64 x0, .int .i64 x1] 24) := ⟨_, rfl⟩
      have hba : Below wr.heap.size wr wa := by rw [hwa]; exact ((Below.refl _ _).alloc (Nat.le_refl _) _).alloc (by simp) _
      have hpa : Blk wa wr.heap.size #[.int .i64 x0, .int .i64 x1, .int .i64 x2, .int .i64 x3] 74 := by rw [hwa]; exact (Blk.new _ _ _).below ((Below.refl _ _).alloc (Nat.le_refl _) _)
      have HNw : Hid (∀ j u, [Value.int .i64 x0, .int .i64 x1][j]? = some u → wa.cell? ((⟨wr.heap.size + 1, 0, none⟩ : Addr).add j) = some u) := hide (by
        have := new2 (wr.alloc (.cells #[.int .i64 x0, .int .i64 x1, .int .i64 x2, .int .i64 x3] 74)) 24 (.int .i64 x0) (.int .i64 x1)
        rw [hwa]
        simpa using this)
      have HO4a := hide (HO4.out.below hba)
      have HO3a := hide (HO3.out.below hba)
      have HPa := hide hpa
      have HBa := hide (HB.out.trans (hba.mono HB.out.size))
      have HWa := hide hwa
      have hsa : wa.heap.size = wr.heap.size + 2 := by rw [hwa]; simp
      have HSa := hide hsa
      clear hc hoK haK hba hpa hwa hsa
      have HNe : Hid (some wr.heap.size ≠ Value.ownBlock u4) := hide (fun e => by
        have := (World.ownsRow.lt HO4.out _ e.symm).2
        omega)
      have HK3 : Hid (∀ w5, wa.grownBy w5 (Value.ownBlock u4) → OwnE w5 w.heap.size u3 oK) := hide (fun w5 hg => ownsRow_chg HO3a.out (Chg.of_grown hg) (fun g e e2 => HD.out g e2.symm e))
      by_cases h4 : x3 < 4
      · have HOu2 : Hid (outK st (k + 1) = oK ++ [(x0, x1)]) := hide (by rw [HOu.out, if_pos h4])
        have hd4 : decide (x3 < 4) = true := by simpa using h4
        clear HOu h4
        go_wp2_with (first | (at_builtin; rw [← HWa.out]; refine wpList_append_own_at _ rfl (.tmp 29) (.tmp 32) 40 rfl w.heap.size 24 i1 (.agg #[.int .i64 0, .int .i64 0]) 2 16 Tryz.underlying40 hi hz0 hz1 hz2 rfl (by decide) u4 aK.length (aK.flatMap encE) rfl HO4a.out ⟨wr.heap.size + 1, 0, none⟩ 1 1 [.int .i64 x0, .int .i64 x1] rfl rfl HNw.out (by simp [Value.oneCell']) (by unfold maxLen; omega) (by omega) HBa.out.size ?_; intro v5 w5 ho5 hg5 _ hw5; have HO5 := hide ho5; have HG5 := hide hg5; have HW5 := hide hw5; have p0 := hg5.cell (a := ⟨wr.heap.size, 0, none⟩) (HPa.out.cell 0 _ rfl) HNe.out; have p1 := hg5.cell (a := ⟨wr.heap.size, 1, none⟩) (HPa.out.cell 1 _ rfl) HNe.out; have p3 := hg5.cell (a := ⟨wr.heap.size, 3, none⟩) (HPa.out.cell 3 _ rfl) HNe.out; have HSz := hide (Nat.le_trans HBa.out.size hg5.size); clear ho5 hg5 hw5) | (at_builtin; refine wpList_append_own_at _ rfl (.tmp 37) (.tmp 40) 40 rfl w.heap.size 24 i1 (.agg #[.int .i64 0, .int .i64 0]) 2 16 Tryz.underlying40 hi hz0 hz1 hz2 rfl (by decide) u3 oK.length (oK.flatMap encE) rfl (OwnE.below (HK3.out w5 HG5.out) ((Below.refl _ _).alloc (Nat.le_refl _) _)) ⟨w5.heap.size, 0, none⟩ 1 1 [.int .i64 x0, .int .i64 x1] rfl rfl (new2 w5 _ _ _) (by simp [Value.oneCell']) (by unfold maxLen; omega) (by omega) (by have := HSz.out; simp; omega) ?_; intro v6 w6 ho6 hg6 _ hw6; have HO6 := hide ho6; have HG6 := hide hg6; have HW6 := hide hw6; clear ho6 hg6 hw6))
        have ho5 : OwnE w5 w.heap.size v5 (aK ++ [(x0, x1)]) := by
          unfold OwnE
          rw [List.flatMap_append, List.length_append]
          exact HO5.out
        have hbl5 := (Below.refl w5.heap.size w5).alloc (Nat.le_refl _) (.cells #[.int .i64 x0, .int .i64 x1] 24)
        have hds : ∀ g, v5.ownBlock = some g → u3.ownBlock ≠ some g := fun g e e2 => by
          rcases HW5.out with e5 | e5
          · exact HD.out g (by rw [← e5]; exact e) e2
          · rw [e5] at e
            cases e
            have := (World.ownsRow.lt HO3a.out _ e2).2
            omega
        have ho56 : OwnE w6 w.heap.size v5 (aK ++ [(x0, x1)]) := ownsRow_chg (OwnE.below ho5 hbl5) (Chg.of_grown HG6.out) (fun g e e2 => hds g e e2.symm)
        have ho6 : OwnE w6 w.heap.size v6 (oK ++ [(x0, x1)]) := by
          unfold OwnE
          rw [List.flatMap_append, List.length_append]
          exact HO6.out
        have hb5 := HBa.out.grown HG5.out HBa.out.size (fun q hq => (World.ownsRow.lt HO4a.out q hq).1)
        have hb6 := (hb5.trans (hbl5.mono hb5.size)).grown HG6.out (hb5.trans (hbl5.mono hb5.size)).size (fun q hq => (World.ownsRow.lt HO3a.out q hq).1)
        refine ⟨⟨k + 1, by omega, by go_num, by rw [HOu2.out]; exact ho6, by rw [HAl.out]; exact ho56, fun g e e2 => ?_, hb6⟩, by simp [intOf]; omega⟩
        rcases HW6.out with e6 | e6
        · exact hds g e (by rw [← e6]; exact e2)
        · rw [e6] at e2
          cases e2
          have := (World.ownsRow.lt ho5 _ e).2
          simp at this
          omega
      · have HOu2 : Hid (outK st (k + 1) = oK) := hide (by rw [HOu.out, if_neg h4])
        have hd4 : decide (x3 < 4) = false := by simpa using h4
        clear HOu h4
        go_wp2_with (at_builtin; rw [← HWa.out]; refine wpList_append_own_at _ rfl (.tmp 29) (.tmp 32) 40 rfl w.heap.size 24 i1 (.agg #[.int .i64 0, .int .i64 0]) 2 16 Tryz.underlying40 hi hz0 hz1 hz2 rfl (by decide) u4 aK.length (aK.flatMap encE) rfl HO4a.out ⟨wr.heap.size + 1, 0, none⟩ 1 1 [.int .i64 x0, .int .i64 x1] rfl rfl HNw.out (by simp [Value.oneCell']) (by unfold maxLen; omega) (by omega) HBa.out.size ?_; intro v5 w5 ho5 hg5 _ hw5; have HO5 := hide ho5; have HG5 := hide hg5; have HW5 := hide hw5; have p0 := hg5.cell (a := ⟨wr.heap.size, 0, none⟩) (HPa.out.cell 0 _ rfl) HNe.out; have p1 := hg5.cell (a := ⟨wr.heap.size, 1, none⟩) (HPa.out.cell 1 _ rfl) HNe.out; have p3 := hg5.cell (a := ⟨wr.heap.size, 3, none⟩) (HPa.out.cell 3 _ rfl) HNe.out; have HSz := hide (Nat.le_trans HBa.out.size hg5.size); clear ho5 hg5 hw5)
        have ho5 : OwnE w5 w.heap.size v5 (aK ++ [(x0, x1)]) := by
          unfold OwnE
          rw [List.flatMap_append, List.length_append]
          exact HO5.out
        refine ⟨⟨k + 1, by omega, by go_num, by rw [HOu2.out]; exact HK3.out w5 HG5.out, by rw [HAl.out]; exact ho5, fun g e e2 => ?_, HBa.out.grown HG5.out HBa.out.size (fun q hq => (World.ownsRow.lt HO4a.out q hq).1)⟩, by simp [intOf]; omega⟩
        rcases HW5.out with e5 | e5
        · exact HD.out g (by rw [← e5]; exact e) e2
        · rw [e5] at e
          cases e
          have := (World.ownsRow.lt HO3a.out _ e2).2
          omega
    · obtain rfl : k = n := by omega
      have e1 : outK st k = outerM st := by unfold outK outerM; rw [HN.out, List.take_length]; rfl
      have e2 : allK st k = allM st := by unfold allK allM; rw [HN.out, List.take_length]; rfl
      rw [e1] at HO3 hol
      rw [e2] at HO4 hal
      obtain ⟨a3, c3, rfl, hl3, _⟩ := OwnE.form HO3.out
      obtain ⟨a4, c4, rfl, hl4, _⟩ := OwnE.form HO4.out
      have HA3 := HAp wr a3 c3 (outerM st) hl3 (by omega)
      have HA4 := fun u (hu : Below wr.heap.size wr u) => HAp u a4 c4 (allM st) (hl4.below hu) (by omega)
      clear hl3 hl4 e1 e2 HAp
      go_wp2_with fail
      refine HA3.out.mono ?_
      rintro e9 w7 ⟨b7, rfl, h7, hb7⟩
      have H7 := hide h7
      have HB7 := hide hb7
      clear h7 hb7
      cases b7
      · go_wp2_with fail
        go_ret
        exact ⟨⟨false, rfl, ⟨fun e => (by cases e), fun e => absurd e.1 (fun e2 => by simpa using H7.out.2 e2)⟩⟩, HB.out.trans (HB7.out.mono HB.out.size)⟩
      · go_wp2_with fail
        refine ((HA4 _ HB7.out).out).mono ?_
        rintro e9 w8 ⟨b8, rfl, h8, hb8⟩
        have H8 := hide h8
        have HB8 := hide hb8
        clear h8 hb8
        go_wp2_with fail
        go_ret
        exact ⟨⟨b8, rfl, ⟨fun e => ⟨H7.out.1 trivial, H8.out.1 e⟩, fun e => H8.out.2 e.2⟩⟩, HB.out.trans ((HB7.out.trans (HB8.out.mono HB7.out.size)).mono HB.out.size)⟩
end Go.Proofs.YtjpdfchdgphdoaaGreatDoor.Oct
