/- For all bytes and operations the statement DiskSafe answers true and changes nothing that was there: what was flushed outlives a crash that keeps nothing; one that keeps all is what is seen; a crash changes nothing of the file. No condition. -/
import Derived.Test.YtnhbncbiflnapaaRows
import Derived.Test.YtnhbncbiflnapaaStt
namespace Go.Proofs.Ytnhbncbiflnapaa.Oct
open Go.RowKit Go.Deep Go.ChangeShapes Go.WideShapes Go.ChangeAt

theorem info_bool : (Try.prog.info? 4).map (fun i => (i.zero, i.size, i.bytes)) = some (some (.bool false), 1, 1) := by kernel_rfl

theorem run_make_bool (w : World) (n : Nat) (hn : n ≤ 100000000) : (Instr.makeSlice 24 (.int .i64 n) (.int .i64 n)).run Try.prog w = .ok (.slice (some ⟨w.heap.size, 0, none⟩) n n) (w.alloc (.cells (madeCells #[.bool false] n) 4)) := by
  obtain ⟨i0, hi, hz0, hz1, hz2⟩ := info_parts info_bool
  have h := run_make (P := Try.prog) w 24 4 i0 (.bool false) Try.underlying24 hi hz0 .i64 .i64 (n : Int) (n : Int) (by omega) (Int.le_refl _) (by rw [hz2]; omega) (by omega)
  simpa [hz1, Value.cells] using h

/-- Bools in a row of the call's own. -/
def OwnB (w : World) (B g n : Nat) (l : List Bool) : Prop := l.length = n ∧ w.ownsRow B 4 1 (.slice (some ⟨g, 0, none⟩) n n) n (l.map Value.bool)

theorem OwnB.made (w : World) (n : Nat) (hn : n ≤ maxLen) : OwnB (w.alloc (.cells (madeCells #[.bool false] n) 4)) w.heap.size w.heap.size n (List.replicate n false) := by
  have h := World.ownsRow_lit (base := w.heap.size) (e := 4) (size := 1) w (madeCells #[.bool false] n) n (Nat.le_refl _) hn (by rw [size_madeCells]; omega)
  rw [toList_madeCells_one] at h
  exact ⟨by simp, by simpa using h⟩

theorem OwnB.lies {w : World} {B g n : Nat} {l : List Bool} (h : OwnB w B g n l) : LiesB w (some ⟨g, 0, none⟩) l := by
  refine Or.inr ⟨g, 0, rfl, (h.2.lt g rfl).2, fun k hk => ?_⟩
  have := h.2.cells (g := g) rfl k (.bool (l.getD k false)) (by simp [hk])
  rw [add_plain] at this
  exact this

/-- The file as it begins, and the reference's. -/
theorem st_init (w w2 w3 : World) (F : Nat) (u1 u2 : Value) (b : List Int) (a0 : Option Addr) (c0 : Nat) (hf : Fil w3 (fun k => w2.heap.size ≤ k ∧ k < w3.heap.size) F ⟨u1, u2, .slice none 0 0, 0, 0, 0, 0, false⟩ b b []) (hw : w.heap.size ≤ w2.heap.size) (hw3 : w2.heap.size ≤ w3.heap.size) (hs : Sl w3 a0 c0 b) (hs0 : Lies w a0 b) (hb : b.length ≤ 4194304) :
    St (w3.alloc (.cells #[.slice a0 b.length c0, .slice none 0 0, .int .i64 0, .int .i64 0, .int .i64 0, .int .i64 0] 34)) (fun q => q < w.heap.size) F w3.heap.size ⟨b, b, [], 0⟩ 0 := by
  have hsz : (w3.alloc (.cells #[.slice a0 b.length c0, .slice none 0 0, .int .i64 0, .int .i64 0, .int .i64 0, .int .i64 0] 34)).heap.size = w3.heap.size + 1 := by simp
  have hg : Good ⟨b, b, [], 0⟩ 0 := ⟨rfl, hb, hb, fun d hd => by simp at hd, by simp, by simp, by simp⟩
  refine ⟨hg, fun k => w2.heap.size ≤ k ∧ k < w3.heap.size, fun q => q = w3.heap.size, fun q => q < w.heap.size, _, ⟨.slice a0 b.length c0, .slice none 0 0, 0, 0⟩, b, [], ⟨⟨[], hf.new_block _, rfl, rfl⟩, ?_, hg.fit (by omega) (fun q hq => by rw [hsz]; omega) (by simp), fun q hq => by rw [hsz]; omega, fun q hq => by rw [hsz]; omega, fun q hq => ⟨by omega, by omega⟩⟩, by simp, by simp, fun q hq => ⟨by rw [hsz]; omega, by omega, by omega, hq⟩⟩
  refine ⟨heap_alloc_new w3 _, rfl, ⟨a0, c0, rfl, ⟨hs.le, hs.max, hs.none, hs.lies.alloc _⟩, fun hl x hx => ?_⟩, hb, World.ownsRow_nil _ _ _ _, fun g hg => by simp [Value.ownBlock] at hg, fun r hr => by simp at hr, by simp, by simp, by simp⟩
  have := hs0.lt hl x hx
  exact ⟨this, by omega, by simp [Value.ownBlock]⟩

theorem op_T (A : Ab) (o : GOp) (h : o.kind < 4) : (A.op o).T = A.T := by
  unfold Ab.op
  split
  · split <;> rfl
  · split
    · split <;> rfl
    · rw [if_neg (by omega)]

set_option maxHeartbeats 4000000 in
set_option maxRecDepth 100000 in
theorem safe_walk (a0 : Option Addr) (c0 : Nat) (b : List Int) (a1 : Option Addr) (c1 : Nat) (L : List GOp) (a2 : Option Addr) (c2 : Nat) (E : List GOp) (w : World) (hs : Sl w a0 c0 b) (hO : Opr w a1 L) (hF : Fits L) (hO2 : Opr w a2 E) (hF2 : Fits E) :
    Calls Try.prog 4 #[.slice a0 b.length c0, .slice a1 L.length c1, .slice a2 E.length c2] w fun e w' => e = .returned (.bool true) ∧ Below w.heap.size w w' := by
  have HS := hide hs
  have HO := hide (And.intro hO hF)
  have HO2 := hide (And.intro hO2 hF2)
  clear hs hO hF hO2 hF2
  go_enter Try.func4, Try.ntmps4
  go_wp2_with fail
  refine (halved_true _).mono ?_
  rintro e w1 ⟨rfl, hb1⟩
  have HB1 := hide hb1
  clear hb1
  go_wp2_with fail
  refine (light_says w1 a0 c0 b a1 c1 L (HO.out.1.below HB1.out)).mono ?_
  rintro e w2 (⟨rfl, rfl⟩ | ⟨rfl, rfl, hlg⟩)
  · go_wp2_with fail
    refine (halved_true _).mono ?_
    rintro e w3 ⟨rfl, hb3⟩
    go_wp2_with fail
    go_ret
    exact ⟨rfl, HB1.out.trans (hb3.mono HB1.out.size)⟩
  have HLg := hide hlg
  clear hlg
  go_wp2_with fail
  refine (light_says w2 a0 c0 b a2 c2 E (HO2.out.1.below HB1.out)).mono ?_
  rintro e w2' (⟨rfl, rfl⟩ | ⟨rfl, rfl, hlg⟩)
  · go_wp2_with fail
    refine (halved_true _).mono ?_
    rintro e w3 ⟨rfl, hb3⟩
    go_wp2_with fail
    go_ret
    exact ⟨rfl, HB1.out.trans (hb3.mono HB1.out.size)⟩
  have HLg2 := hide hlg
  clear hlg
  go_wp2_with fail
  refine (new_file w2' a0 c0 b (HS.out.lies.below HB1.out) (by have := HLg.out.1; omega)).mono ?_
  rintro e w3 ⟨F, u1, u2, rfl, hf3, hb3⟩
  have hf3' := hf3.mono (Y := fun k => w2'.heap.size ≤ k ∧ k < w3.heap.size) (fun k hk h => ⟨h, hk⟩)
  have hst := st_init w w2' w3 F u1 u2 b a0 c0 hf3' HB1.out.size hb3.size ((HS.out.below HB1.out).below hb3) HS.out.lies (by have := HLg.out.1; omega)
  have hb4 := (HB1.out.trans (hb3.mono HB1.out.size)).alloc (HB1.out.trans (hb3.mono HB1.out.size)).size (.cells #[.slice a0 b.length c0, .slice none 0 0, .int .i64 0, .int .i64 0, .int .i64 0, .int .i64 0] 34)
  have HSt := hide hst
  have HB4 := hide hb4
  obtain ⟨M, hM⟩ : ∃ M, M = w3.heap.size := ⟨_, rfl⟩
  clear hf3 hf3' hst hb3 hb4
  go_wp2_with fail
  generalize w3.alloc (.cells #[.slice a0 b.length c0, .slice none 0 0, .int .i64 0, .int .i64 0, .int .i64 0, .int .i64 0] 34) = w4 at *
  rw [← hM] at HSt ⊢
  clear hM
  go_loopw [10] (fun i wr => ∃ (k n : Nat) (A : Ab), k ≤ L.length ∧ i = .int .i64 k ∧ n ≤ k ∧ St wr (fun q => q < w.heap.size) F M A n ∧ Below w.heap.size w wr) (fun i _ => L.length - (intOf i).toNat)
  case atStart => exact ⟨0, 0, _, by omega, by simp, by omega, HSt.out, HB4.out⟩
  case round =>
    obtain ⟨k, n, A, hk, rfl, hnk, hst, hbel⟩ := hrel
    clear HSt HB4
    have HSt := hide hst
    have HBel := hide hbel
    have hl60 := HLg.out.2.1
    clear hst hbel
    by_cases hlt : k < L.length
    · rcases HO.out.1 with hnil | ⟨bo, off, hao, hbo, hc⟩
      · rw [hnil] at hlt; simp at hlt
      subst hao
      obtain ⟨q0, q1, q2, q3, hsl⟩ := hc k hlt
      have c0' := (HBel.out.cell (p := ⟨bo, off + k * 4, none⟩) hbo).trans q0
      have c1' := (HBel.out.cell (p := ⟨bo, off + k * 4 + 1, none⟩) hbo).trans q1
      have c2' := (HBel.out.cell (p := ⟨bo, off + k * 4 + 2, none⟩) hbo).trans q2
      have c3' := (HBel.out.cell (p := ⟨bo, off + k * 4 + 3, none⟩) hbo).trans q3
      have hk0 : (0 : Int) ≤ (k : Int) := by omega
      have hk1 : (k : Int) < (L.length : Int) := by omega
      obtain ⟨o, ho⟩ : ∃ o, o = L.getD k GOp.nil := ⟨_, rfl⟩
      have HLO : Hid (LgtOp o ∧ o.fit) := hide (by rw [ho]; exact ⟨HLg.out.2.2 k hlt, HO.out.2 k hlt⟩)
      rw [← ho] at c0' c1' c2' c3' hsl
      have HSl := hide hsl
      clear hc ho q0 q1 q2 q3 hsl
      by_cases hK5 : o.kind < 5
      · have HC := hide (done_st wr (fun q => q < w.heap.size) F M A n HSt.out (by omega) o hK5 HLO.out.2 HLO.out.1.1 (HSl.out.below HBel.out) (fun hl x hx => HSl.out.lies.lt hl x hx))
        go_wp2_with fail
        refine HC.out.mono ?_
        rintro e w5 ⟨⟨bb, rfl⟩, hst5, hc5⟩
        have HSt5 := hide hst5
        have HB5 := hide (HBel.out.trans (hc5.below w.heap.size HBel.out.size (fun i hi h => h hi)))
        clear hst5 hc5
        go_wp2_with fail
        refine ⟨⟨k + 1, n + 1, A.op o, by omega, by go_num, by omega, HSt5.out, HB5.out⟩, ?_⟩
        simp [intOf]; omega
      · go_wp2_with fail
        refine ⟨⟨k + 1, n, A, by omega, by go_num, by omega, HSt.out, HBel.out⟩, ?_⟩
        simp [intOf]; omega
    · obtain rfl : k = L.length := by omega
      go_wp2_with fail
      refine (flush_st wr (fun q => q < w.heap.size) F M A n HSt.out (by omega)).mono ?_
      rintro e w5 ⟨rfl, hst5, hc5⟩
      have HSt5 := hide hst5
      have HB5 := hide (HBel.out.trans (hc5.below w.heap.size HBel.out.size (fun i hi h => h hi)))
      clear hst5 hc5 HSt HBel
      go_wp2_with fail
      refine (waiting_st w5 _ F M _ (n + 1) HSt5.out).mono ?_
      rintro e w6 ⟨rfl, rfl⟩
      go_wp2_with fail
      refine (bytes_st w6 _ F M _ (n + 1) HSt5.out).mono ?_
      rintro e w7 ⟨v7, rfl, ho7, hb7⟩
      obtain ⟨a7, c7, rfl, hl7, hp7⟩ := own_place ho7
      obtain ⟨S0, hS0⟩ : ∃ S0, S0 = A.S := ⟨_, rfl⟩
      have hst7 := HSt5.out.below hb7
      rw [← hS0] at hl7 hst7
      simp only [← hS0]
      obtain ⟨K, hK⟩ : ∃ K : Nat → Prop, K = fun q => q < w.heap.size ∨ (w6.heap.size ≤ q ∧ q < w7.heap.size) := ⟨_, rfl⟩
      rw [← hK] at hst7
      have HK0 : Hid (∀ q, q < w.heap.size → K q) := hide (fun q hq => by rw [hK]; exact Or.inl hq)
      have HK7 : Hid (∀ x, a7 = some x → K x.block) := hide (fun x hx => by rw [hK]; exact Or.inr (hp7 x hx))
      have HSt7 := hide hst7
      have HL7 := hide hl7
      have HB7 := hide (HB5.out.trans (hb7.mono HB5.out.size))
      clear hst7 hl7 hK hp7 ho7 hb7 hS0 HSt5 HB5
      obtain ⟨n7, hn7⟩ : ∃ n7, n7 = n + 1 := ⟨_, rfl⟩
      rw [← hn7] at HSt7
      have hn7' : n7 ≤ 61 := by omega
      clear hn7 hnk
      go_wp2_with fail
      go_loopw [12] (fun i wr => ∃ (k n : Nat) (A : Ab), k ≤ E.length ∧ i = .int .i64 k ∧ n ≤ n7 + k ∧ A.T = S0 ∧ St wr K F M A n ∧ Lies wr a7 S0 ∧ Below w.heap.size w wr) (fun i _ => E.length - (intOf i).toNat)
      case atStart => exact ⟨0, n7, _, by omega, by simp, by omega, rfl, HSt7.out, HL7.out, HB7.out⟩
      case round =>
        obtain ⟨k, n, A, hk, rfl, hnk, hAT, hst, hl, hbel⟩ := hrel
        clear HSt7 HB7 HL7
        have HSt := hide hst
        have HBel := hide hbel
        have HL := hide hl
        have HAT := hide hAT
        have he60 := HLg2.out.2.1
        clear hst hbel hl hAT
        by_cases hlt : k < E.length
        · rcases HO2.out.1 with hnil | ⟨bo, off, hao, hbo, hc⟩
          · rw [hnil] at hlt; simp at hlt
          subst hao
          obtain ⟨q0, q1, q2, q3, hsl⟩ := hc k hlt
          have c0' := (HBel.out.cell (p := ⟨bo, off + k * 4, none⟩) hbo).trans q0
          have c1' := (HBel.out.cell (p := ⟨bo, off + k * 4 + 1, none⟩) hbo).trans q1
          have c2' := (HBel.out.cell (p := ⟨bo, off + k * 4 + 2, none⟩) hbo).trans q2
          have c3' := (HBel.out.cell (p := ⟨bo, off + k * 4 + 3, none⟩) hbo).trans q3
          have hk0 : (0 : Int) ≤ (k : Int) := by omega
          have hk1 : (k : Int) < (E.length : Int) := by omega
          obtain ⟨o, ho⟩ : ∃ o, o = E.getD k GOp.nil := ⟨_, rfl⟩
          have HLO : Hid (LgtOp o ∧ o.fit) := hide (by rw [ho]; exact ⟨HLg2.out.2.2 k hlt, HO2.out.2 k hlt⟩)
          rw [← ho] at c0' c1' c2' c3' hsl
          have HSl := hide hsl
          clear hc ho q0 q1 q2 q3 hsl
          by_cases hK4 : o.kind < 4
          · have HC := hide (done_st wr K F M A n HSt.out (by omega) o (by omega) HLO.out.2 HLO.out.1.1 (HSl.out.below HBel.out) (fun hl x hx => HK0.out _ (HSl.out.lies.lt hl x hx)))
            have HT := hide (op_T A o hK4)
            go_wp2_with fail
            refine HC.out.mono ?_
            rintro e w5 ⟨⟨bb, rfl⟩, hst5, hc5⟩
            have HSt5 := hide hst5
            have HL5 := hide (HL.out.chg0 hc5 (fun _ x hx h => h (HK7.out x hx)))
            have HB5 := hide (HBel.out.trans (hc5.below w.heap.size HBel.out.size (fun i hi h => h (HK0.out i hi))))
            clear hst5 hc5
            go_wp2_with fail
            refine ⟨⟨k + 1, n + 1, A.op o, by omega, by go_num, by omega, HT.out.trans HAT.out, HSt5.out, HL5.out, HB5.out⟩, ?_⟩
            simp [intOf]; omega
          · go_wp2_with fail
            refine ⟨⟨k + 1, n, A, by omega, by go_num, by omega, HAT.out, HSt.out, HL.out, HBel.out⟩, ?_⟩
            simp [intOf]; omega
        · obtain rfl : k = E.length := by omega
          go_wp2_with fail
          refine (waiting_st wr K F M A n HSt.out).mono ?_
          rintro e w8 ⟨rfl, rfl⟩
          have hd := HSt.out.1.d
          obtain ⟨N, hN⟩ : ∃ N, N = A.D.length := ⟨_, rfl⟩
          rw [← hN]
          have hN' : N ≤ 1000 := by omega
          have HN := hide hN
          clear hN hd
          have hmk := run_make_bool w8 N (by omega)
          have ho9 := OwnB.made w8 N (by unfold maxLen; omega)
          have hb9 : Below w8.heap.size w8 (w8.alloc (.cells (madeCells #[.bool false] N) 4)) := (Below.refl _ _).alloc (Nat.le_refl _) _
          obtain ⟨w9, hw9⟩ : ∃ w9, w9 = w8.alloc (.cells (madeCells #[.bool false] N) 4) := ⟨_, rfl⟩
          rw [← hw9] at hmk ho9 hb9
          have HO9 := hide ho9
          have HB9 := hide hb9
          clear hw9 ho9 hb9
          go_wp2_with fail
          go_loopw [14] (fun i wr => ∃ (k : Nat) (kp : List Bool), k ≤ N ∧ i = .int .i64 k ∧ OwnB wr w8.heap.size w8.heap.size N kp ∧ (∀ j, j < k → kp.getD j false = true) ∧ Below w8.heap.size w8 wr) (fun i _ => N - (intOf i).toNat)
          case atStart => exact ⟨0, _, by omega, by simp, HO9.out, fun j hj => by omega, HB9.out⟩
          case round =>
            obtain ⟨k, kp, hk, rfl, hob, hall, hbw⟩ := hrel
            have HOB := hide hob
            have HAll := hide hall
            have HBw := hide hbw
            clear HO9 HB9
            by_cases hlt : k < N
            · have hk0 : (0 : Int) ≤ (k : Int) := by omega
              have hk1 : (k : Int) < (N : Int) := by omega
              have zk := hob.2.frozenAt k
              have hck : wr.cell? ⟨w8.heap.size, k, none⟩ = some (.bool (kp.getD k false)) := by
                rcases hob.lies with h | ⟨b', o', e', _, hc'⟩
                · have := hob.1; rw [h] at this; simp at this; omega
                · cases e'
                  have := hc' k (by have := hob.1; omega)
                  rw [Nat.zero_add] at this
                  exact this
              obtain ⟨hst1, hst2⟩ := hob.2.stored k (.bool true)
              have HSn : Hid (OwnB (wr.setCell ⟨w8.heap.size, k, none⟩ (.bool true)) w8.heap.size w8.heap.size N (kp.set k true)) := hide ⟨by simp [hob.1], by rw [List.map_set]; exact hst1⟩
              have HBn : Hid (Below w8.heap.size w8 (wr.setCell ⟨w8.heap.size, k, none⟩ (.bool true))) := hide (hbw.grown hst2 hbw.size (fun q hq => by simp at hq; omega))
              clear hob hall hbw hst1 hst2
              go_wp2_with fail
              refine ⟨⟨k + 1, kp.set k true, by omega, by go_num, HSn.out, fun j hj => ?_, HBn.out⟩, ?_⟩
              · have hkl : k < kp.length := by have := HOB.out.1; omega
                rcases Nat.lt_or_ge j k with h1 | h1
                · have := HAll.out j h1
                  rw [List.getD_eq_getElem?_getD] at this ⊢
                  rw [List.getElem?_set_ne (by omega)]
                  exact this
                · obtain rfl : j = k := by omega
                  simp [hkl]
              · simp [intOf]; omega
            · obtain rfl : k = N := by omega
              clear hob hall hbw
              have HSt10 := hide (HSt.out.same HBw.out)
              have hC := crash_none_st wr K F M A n HSt10.out (by omega)
              rw [HAT.out] at hC
              have HC := hide hC
              clear hC
              go_wp2_with fail
              refine HC.out.mono ?_
              rintro e w11 ⟨v11, rfl, ho11, hb11⟩
              obtain ⟨a11, c11, rfl, hl11, _⟩ := own_place ho11
              have HB11 := hide (HBw.out.trans (hb11.mono HBw.out.size))
              have HO11 := hide (HOB.out.lies.below hb11)
              have HC11 := hide (same_self a11 a7 c11 c7 S0 w11 hl11 ((HL.out.below HBw.out).below hb11))
              clear ho11 hb11 hl11 HC
              go_wp2_with fail
              refine HC11.out.mono ?_
              rintro e w12 ⟨rfl, rfl⟩
              have HSt12 := hide (HSt.out.same HB11.out)
              have hC := crash_all_st w12 K F M A n HSt12.out (by omega) (some ⟨w8.heap.size, 0, none⟩) k kp HO11.out (fun j hj => HAll.out j (by have := HN.out; omega))
              rw [HOB.out.1] at hC
              have HC := hide hC
              clear hC
              go_wp2_with fail
              refine HC.out.mono ?_
              rintro e w13 ⟨v13, rfl, ho13, hb13⟩
              obtain ⟨a13, c13, rfl, hl13, _⟩ := own_place ho13
              have HB13 := hide (HB11.out.trans (hb13.mono HB11.out.size))
              have HSt13 := hide (HSt.out.same HB13.out)
              have HL13 := hide hl13
              clear ho13 hb13 hl13 HC
              go_wp2_with fail
              refine (bytes_st w13 K F M A n HSt13.out).mono ?_
              rintro e w14 ⟨v14, rfl, ho14, hb14⟩
              obtain ⟨a14, c14, rfl, hl14, _⟩ := own_place ho14
              have HB14 := hide (HB13.out.trans (hb14.mono HB13.out.size))
              have HC14 := hide (same_self a13 a14 c13 c14 A.S w14 (HL13.out.below hb14) hl14)
              clear ho14 hb14 hl14
              go_wp2_with fail
              refine HC14.out.mono ?_
              rintro e w15 ⟨rfl, rfl⟩
              have hC := crash_none_st w15 K F M A n (HSt.out.same HB14.out) (by omega)
              rw [HAT.out] at hC
              have HC := hide hC
              clear hC
              go_wp2_with fail
              refine HC.out.mono ?_
              rintro e w16 ⟨v16, rfl, ho16, hb16⟩
              obtain ⟨a16, c16, rfl, hl16, _⟩ := own_place ho16
              have HB16 := hide (HB14.out.trans (hb16.mono HB14.out.size))
              have HC16 := hide (same_self a16 a7 c16 c7 S0 w16 hl16 ((HL.out.below HB14.out).below hb16))
              clear ho16 hb16 hl16 HC
              go_wp2_with fail
              refine HC16.out.mono ?_
              rintro e w17 ⟨rfl, rfl⟩
              go_wp2_with fail
              go_ret
              exact ⟨rfl, HBel.out.trans (HB16.out.mono HBel.out.size)⟩

set_option maxRecDepth 100000 in
theorem diskSafe_lifted (os : Os) (started : os.Started) (H : Type) (enc : TypeId × Value → H) :
    ReturnsInHanded {} Try.checked os 4 .any (Rows.diskSafeSpec.pre6 enc Try.prog Try.f4 Rows.diskSafeRow.domain false) (Rows.diskSafeSpec.post enc Try.prog Try.f4 false true false false) := by
  refine returnsInHanded_of_change (C := Try.checked) own started (by kernel_rfl) Try.func4
    (ChangeSpec.witness6 (enc := enc) (C := Try.checked) false ⟨#[], #[.slice none 0 0, .slice none 0 0, .slice none 0 0], []⟩ 8 (by kernel_rfl) (by kernel_rfl) (by kernel_rfl) (by kernel_rfl)) ?_
  intro W base args ds gs before hval0 hW _ _
  have hval : ∀ (j : Nat) t v, Try.f4.params[j]? = some t → args[j]? = some v → Value.okWide Try.prog W .any base t v := hval0
  have hW' := hW
  obtain ⟨p, q, hA0, hV, rfl, hfz, hnd⟩ := hW
  have hA : DataW.TrodAll enc Try.prog W 0 (fun _ => true) true Try.f4.params.toList args.toList ds p := hA0
  rw [Try.params4] at hA hval
  obtain ⟨v0, vs0, d0, ds0, p0, q0, hargs0, rfl, rfl, h0, r0⟩ := trodAll_cons hA
  obtain ⟨v1, vs1, d1, ds1, p1, q1, hargs1, rfl, rfl, h1, r1⟩ := trodAll_cons r0
  obtain ⟨v2, vs2, d2, ds2, p2, q2, hargs2, rfl, rfl, h2, r2⟩ := trodAll_cons r1
  obtain ⟨rfl, rfl, rfl⟩ := trodAll_nil r2
  subst hargs2
  subst hargs1
  obtain rfl : args = #[v0, v1, v2] := by cases args; simp_all
  obtain ⟨rfl, rfl⟩ := trodVars_none hV
  simp only [List.append_nil] at hW'
  have hlt0 : ∀ x ∈ p0, x.block < W.heap.size := fun x hx => by simpa using hW'.lt x (by simp [hx])
  have hlt1 : ∀ x ∈ p1, x.block < W.heap.size := fun x hx => by simpa using hW'.lt x (by simp [hx])
  have hlt2 : ∀ x ∈ p2, x.block < W.heap.size := fun x hx => by simpa using hW'.lt x (by simp [hx])
  obtain ⟨a0, cap0, l0, rfl, hn0, hb0, hl0, hs0⟩ := open_bytes (hval 0 22 v0 rfl rfl) h0
  obtain ⟨a1, cap1, l1, rfl, hn1, hf1, ho1⟩ := open_ops (hval 1 23 v1 rfl rfl) h1
  obtain ⟨a2, cap2, l2, rfl, hn2, hf2, ho2⟩ := open_ops (hval 2 23 v2 rfl rfl) h2
  clear hA0
  refine (safe_walk a0 cap0 l0 a1 cap1 l1 a2 cap2 l2 W hs0 ho1 hf1 ho2 hf2).mono fun e W' ⟨he, hb⟩ => ?_
  subst he
  refine ⟨_, rfl, _, _, _, [], (p0 ++ (p1 ++ (p2 ++ []))), [], hW', ?_, ?_, rfl, hb.frame _, fun h => by cases h⟩
  · exact trodAll_cons_mk (shut_bool Try.underlying4 _) trodAll_mk0
  · exact trodAll_cons_mk (Below.trod laidOut (by kernel_rfl) (of_decide_eq_true (by kernel_rfl)) h0 hb hlt0) (trodAll_cons_mk (Below.trod laidOut (by kernel_rfl) (of_decide_eq_true (by kernel_rfl)) h1 hb hlt1) (trodAll_cons_mk (Below.trod laidOut (by kernel_rfl) (of_decide_eq_true (by kernel_rfl)) h2 hb hlt2) (trodAll_mk0)))

theorem diskSafe_holds : Rows.DiskSafeSaid :=
  OpenClaim.holds_of_wide 4 Try.f4 rfl rfl rfl rfl rfl rfl rfl ⟨rfl, rfl, rfl, rfl, rfl⟩ rfl rfl rfl rfl rfl (by kernel_rfl) Try.func4 (by kernel_rfl)
    (of_decide_eq_true (by kernel_rfl)) (by unfold Func.isWrapper; first | (rw [if_pos (by decide +kernel)]; kernel_rfl) | (rw [if_neg (by decide +kernel)]; exact ⟨rfl, rfl⟩))
    (fun os started H enc _ => diskSafe_lifted os started H enc)

end Go.Proofs.Ytnhbncbiflnapaa.Oct
