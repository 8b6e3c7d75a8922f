/- For all bytes, operations and choices the statement DiskSectors answers true and changes nothing that was there: whatever is kept, each byte is as it was when it was safe, or as one of the writes since left it. No condition. -/
import Derived.Test.YtnhbncbiflnapaaRows
import Derived.Test.YtnhbncbiflnapaaHlv
import Derived.Test.YtnhbncbiflnapaaLight
import Derived.Test.YtnhbncbiflnapaaSts
namespace Go.Proofs.Ytnhbncbiflnapaa.Oct
open Go.RowKit Go.Deep Go.ChangeShapes Go.WideShapes Go.ChangeAt

theorem below_drewN {B : Nat} {a w : World} (h : Below B a w) (n : Nat) : Below B a (w.drewN n) := ⟨h.os, h.tape, h.output, h.size, h.block⟩

theorem info_b : (Try.prog.info? 22).map (fun i => (i.zero, i.size, i.bytes)) = some (some (.slice none 0 0), 1, 24) := by kernel_rfl

set_option maxHeartbeats 4000000 in
set_option maxRecDepth 100000 in
theorem sectors_walk (a0 : Option Addr) (c0 : Nat) (b : List Int) (a1 : Option Addr) (c1 : Nat) (L : List GOp) (a2 : Option Addr) (c2 : Nat) (kp : List Bool) (w : World) (hL : Lies w a0 b) (hO : Opr w a1 L) (hK : LiesB w a2 kp) :
    Calls Try.prog 5 #[.slice a0 b.length c0, .slice a1 L.length c1, .slice a2 kp.length c2] w fun e w' => e = .returned (.bool true) ∧ Below w.heap.size w w' := by
  have HL := hide hL
  have HO := hide hO
  have HK := hide hK
  clear hL hO hK
  go_enter Try.func5, Try.ntmps5
  go_wp2_with fail
  refine (halved_true _).mono ?_
  rintro e w1 ⟨rfl, hb1⟩
  have HB1 := hide hb1
  clear hb1
  go_wp2_with fail
  refine (light_says w1 a0 c0 b a1 c1 L (HO.out.below HB1.out)).mono ?_
  rintro e w2 (⟨rfl, rfl⟩ | ⟨rfl, rfl, hlg⟩)
  · go_wp2_with fail
    refine (halved_true _).mono ?_
    rintro e w3 ⟨rfl, hb3⟩
    go_wp2_with fail
    go_ret
    exact ⟨rfl, HB1.out.trans (hb3.mono HB1.out.size)⟩
  have HLg := hide hlg
  clear hlg
  by_cases hk3 : (300 : Int) < (kp.length : Int)
  · go_wp2_with fail
    refine (halved_true _).mono ?_
    rintro e w3 ⟨rfl, hb3⟩
    go_wp2_with fail
    go_ret
    exact ⟨rfl, HB1.out.trans (hb3.mono HB1.out.size)⟩
  go_wp2_with fail
  refine (new_file w2 a0 c0 b (HL.out.below HB1.out) (by have := HLg.out.1; omega)).mono ?_
  rintro e w3 ⟨F, u1, u2, rfl, hf3, hb3⟩
  have HF3 : Hid (Fil w3 (fun k => w2.heap.size ≤ k ∧ k < w3.heap.size) F ⟨u1, u2, .slice none 0 0, 0, 0, 0, 0, false⟩ b b []) := hide (hf3.mono (fun k hk h => ⟨h, hk⟩))
  have HB3 := hide (HB1.out.trans (hb3.mono HB1.out.size))
  have HS2 := hide hb3.size
  clear hf3 hb3
  go_wp2_with fail
  refine (bytes_file w3 _ F _ _ _ _ HF3.out (by have := HLg.out.1; omega)).mono ?_
  rintro e w4 ⟨v4, rfl, ho4, hb4⟩
  have HF4 := hide (HF3.out.below_keeps hb4)
  have HB4 := hide (HB3.out.trans (hb4.mono HB3.out.size))
  have HS4 := hide hb4.size
  obtain ⟨a4, c4, rfl, hl4, hp4⟩ := own_place ho4
  have HO4 := hide (And.intro hl4 hp4)
  clear ho4 hb4 hl4 hp4
  go_wp2_with fail
  have HF5 := hide (HF4.out.new_block (.cells #[.slice a4 b.length c4] 22))
  have HB5 := hide (HB4.out.alloc HB4.out.size (.cells #[.slice a4 b.length c4] 22))
  have HT5 : Hid (Sts (w4.alloc (.cells #[.slice a4 b.length c4] 22)) (fun k => w2.heap.size ≤ k ∧ k < w3.heap.size) w2.heap.size (.slice (some ⟨w4.heap.size, 0, none⟩) 1 1) [b]) := hide (by
    obtain ⟨hl4, hp4⟩ := HO4.out
    have h1 := World.ownsRow_lit (base := w2.heap.size) (e := 22) (size := 1) w4 #[.slice a4 b.length c4] 1 (by have := HS2.out; have := HS4.out; omega) (by decide) (by simp)
    refine ⟨[.slice a4 b.length c4], by simpa using h1, fun g hg hx => ?_, fun m hm => ?_⟩
    · simp [Value.ownBlock] at hg
      have := HS4.out
      omega
    · obtain rfl : m = 0 := by simpa using hm
      refine ⟨a4, c4, by simp, by simpa using hl4.alloc _, fun x hx => ?_⟩
      have := hp4 x hx
      have := HS4.out
      simp [Value.ownBlock]
      omega)
  obtain ⟨w5, hw5⟩ : ∃ w5, w5 = w4.alloc (.cells #[.slice a4 b.length c4] 22) := ⟨_, rfl⟩
  have HS5 : Hid (w3.heap.size ≤ w5.heap.size) := hide (by rw [hw5]; have := HS4.out; simp; omega)
  rw [← hw5] at HF5 HB5 HT5 ⊢
  have HI : Hid (∃ (k : Nat) (X : Nat → Prop) (f : Fs) (R : List Wr) (Ss : List (List Int)), k ≤ L.length ∧ Value.int .i64 0 = .int .i64 k ∧ Fil w5 X F f (laidAll b R) b R ∧ (∀ q, X q → w2.heap.size ≤ q ∧ q < w5.heap.size) ∧ (f.refuse = 0 ∧ f.stop = 0) ∧ (0 ≤ f.ops ∧ f.ops ≤ k) ∧ (0 ≤ f.wrote ∧ f.wrote ≤ k) ∧ R.length ≤ k ∧ Flat b.length R ∧
      Sts w5 X w2.heap.size (.slice (some ⟨w4.heap.size, 0, none⟩) 1 1) Ss ∧ Ss.length ≤ k + 1 ∧ (∀ s ∈ Ss, s.length = b.length) ∧ (∀ j, j ≤ R.length → laidAll b (R.take j) ∈ Ss) ∧ Below w.heap.size w w5) :=
    hide ⟨0, _, _, [], [b], by omega, rfl, HF5.out, fun q hq => by have := HS5.out; omega, by simp, by simp, by simp, by simp, fun r hr => by simp at hr, HT5.out, by simp, by simp, fun j hj => by simp [laidAll], HB5.out⟩
  clear hw5 HF5 HT5 HB5 HF4 HB4 HF3 HB3 HO4
  go_loopw [9, 10] (fun st i wr => ∃ (k : Nat) (X : Nat → Prop) (f : Fs) (R : List Wr) (Ss : List (List Int)), k ≤ L.length ∧ i = .int .i64 k ∧ Fil wr X F f (laidAll b R) b R ∧ (∀ q, X q → w2.heap.size ≤ q ∧ q < wr.heap.size) ∧ (f.refuse = 0 ∧ f.stop = 0) ∧ (0 ≤ f.ops ∧ f.ops ≤ k) ∧ (0 ≤ f.wrote ∧ f.wrote ≤ k) ∧ R.length ≤ k ∧ Flat b.length R ∧
      Sts wr X w2.heap.size st Ss ∧ Ss.length ≤ k + 1 ∧ (∀ s ∈ Ss, s.length = b.length) ∧ (∀ j, j ≤ R.length → laidAll b (R.take j) ∈ Ss) ∧ Below w.heap.size w wr) (fun _ i _ => L.length - (intOf i).toNat)
  case atStart => exact HI.out
  case round =>
    obtain ⟨k, X, f, R, Ss, hk, rfl, hfil, hX, hzero, hops, hwr, hRk, hflat, hsts, hSk, hSl, hSj, hbel⟩ := hrel
    clear HI
    have HFil := hide hfil
    have HX := hide hX
    have HFlat := hide hflat
    have HSts := hide hsts
    have HSs := hide (And.intro hSl hSj)
    have HBel := hide hbel
    clear hfil hX hflat hsts hSl hSj hbel
    by_cases hlt : k < L.length
    · rcases HO.out with hnil | ⟨bo, off, hao, hbo, hc⟩
      · rw [hnil] at hlt; simp at hlt
      subst hao
      obtain ⟨q0, q1, q2, q3, hsl⟩ := hc k hlt
      have c0' := (HBel.out.cell (p := ⟨bo, off + k * 4, none⟩) hbo).trans q0
      have c1' := (HBel.out.cell (p := ⟨bo, off + k * 4 + 1, none⟩) hbo).trans q1
      have c2' := (HBel.out.cell (p := ⟨bo, off + k * 4 + 2, none⟩) hbo).trans q2
      have c3' := (HBel.out.cell (p := ⟨bo, off + k * 4 + 3, none⟩) hbo).trans q3
      have hk0 : (0 : Int) ≤ (k : Int) := by omega
      have hk1 : (k : Int) < (L.length : Int) := by omega
      obtain ⟨o, ho⟩ : ∃ o, o = L.getD k GOp.nil := ⟨_, rfl⟩
      have HLO : Hid (LgtOp o) := hide (by rw [ho]; exact HLg.out.2.2 k hlt)
      rw [← ho] at c0' c1' c2' c3' hsl
      have HSl := hide hsl
      clear hc ho q0 q1 q2 q3 hsl
      have HSt : Hid (∀ ob, Fil (wr.alloc ob) X F f (laidAll b R) b R ∧ (∀ q, X q → w2.heap.size ≤ q ∧ q < (wr.alloc ob).heap.size) ∧ Sts (wr.alloc ob) X w2.heap.size u9 Ss ∧ Below w.heap.size w (wr.alloc ob)) :=
        hide fun ob => ⟨HFil.out.new_block ob, fun q hq => by have := HX.out q hq; simp; omega, HSts.out.chg (Y := fun _ => False) ((Chg.refl _ _).alloc _) (fun _ _ h => h.elim) (fun _ _ h => h), HBel.out.alloc HBel.out.size _⟩
      have hk60 : k < 60 := by have := HLg.out.2.1; omega
      by_cases hK2 : o.kind = 2
      · go_wp2_with fail
        all_goals first
          | (refine ⟨⟨k + 1, X, f, R, Ss, by omega, by go_num, (HSt.out _).1, (HSt.out _).2.1, hzero, by omega, by omega, by omega, HFlat.out, (HSt.out _).2.2.1, by omega, HSs.out.1, HSs.out.2, (HSt.out _).2.2.2⟩, ?_⟩
             simp [intOf]; omega)
          | skip
        have e1 : 0 ≤ o.at_ := by assumption
        have e2 : o.at_ ≤ (b.length : Int) := by assumption
        have e3 : (o.b.length : Int) ≤ wrap64 ((b.length : Int) - o.at_) := by assumption
        have e4 : ((0 ≤ o.at_ ∧ o.at_ ≤ (b.length : Int)) ∧ (o.b.length : Int) ≤ wrap64 ((b.length : Int) - o.at_)) ∧ (wrap64 (o.at_.tdiv 512) != wrap64 ((wrap64 (o.at_ + (o.b.length : Int))).tdiv 512)) = false := by assumption
        obtain ⟨t, ht⟩ : ∃ t : Nat, o.at_ = t := ⟨o.at_.toNat, by omega⟩
        have e5 : t + o.b.length ≤ b.length := by
          rw [ht] at e2 e3
          have hlb := HLg.out.1
          unfold wrap64 at e3
          omega
        have e6 : t / 512 = (t + o.b.length) / 512 := same_sector t o.b.length b.length e5 HLg.out.1 (by have := e4.2; rw [ht] at this; exact this)
        clear e1 e2 e3 e4
        rw [ht]
        obtain ⟨hfA, hXA, hstA, hbA⟩ := HSt.out (.cells #[.int .i64 2, .int .i64 (t : Int), .int .i64 o.n, .slice o.a o.b.length o.cap] 37)
        have hlA : Lies (wr.alloc (.cells #[.int .i64 2, .int .i64 (t : Int), .int .i64 o.n, .slice o.a o.b.length o.cap] 37)) o.a o.b := (HSl.out.lies.below HBel.out).alloc _
        obtain ⟨wA, hwA⟩ : ∃ wA, wA = wr.alloc (.cells #[.int .i64 2, .int .i64 (t : Int), .int .i64 o.n, .slice o.a o.b.length o.cap] 37) := ⟨_, rfl⟩
        rw [← hwA] at hfA hXA hstA hbA hlA ⊢
        clear hwA HSt ht
        have hlb := HLg.out.1
        have hlR : (laidAll b R).length = b.length := laidAll_len b.length R b HFlat.out rfl
        have hC := write_ok wA X F f (laidAll b R) b R hfA t o.a o.cap o.b hlA
          (fun hne x hx hxx => by
            have h1 := (hXA _ hxx).1
            have h2 := HB1.out.size
            rcases HSl.out.lies with h3 | ⟨b3, o3, h3, h4, _⟩
            · exact hne h3
            · rw [h3] at hx
              cases hx
              simp at h1
              omega)
          (by omega) (by omega) (by omega) (by omega) (by omega) (by unfold Fs.said; rw [hzero.1, hzero.2]; rw [if_neg (by omega)])
        refine hC.mono ?_
        clear hC
        rintro e w6 ⟨rfl, ps, vs, vr, hps, hf6, hc6⟩
        have hpf : (ps = [] ∧ o.b = []) ∨ ∃ r, ps = [r] ∧ r.cut = false ∧ r.at_ = t ∧ r.p = o.b := by
          rw [cuts_one t o.b e6] at hps
          by_cases hob : o.b = []
          · rw [if_pos hob] at hps
            exact Or.inl ⟨by simpa using hps, hob⟩
          · rw [if_neg hob] at hps
            exact Or.inr (one_dat hps)
        obtain ⟨f6, hf6e⟩ : ∃ f6 : Fs, f6 = { f.asked with wrote := f.wrote + 1, vs := vs, vr := vr } := ⟨_, rfl⟩
        have hz6 : (f6.refuse = 0 ∧ f6.stop = 0) ∧ (0 ≤ f6.ops ∧ f6.ops ≤ (k : Int) + 1) ∧ (0 ≤ f6.wrote ∧ f6.wrote ≤ (k : Int) + 1) := by
          rw [hf6e]
          simp only [Fs.asked]
          exact ⟨hzero, by omega, by omega⟩
        rw [← hf6e, ← laidAll_append] at hf6
        obtain ⟨R6, hR6⟩ : ∃ R6, R6 = R ++ ps := ⟨_, rfl⟩
        obtain ⟨X6, hX6⟩ : ∃ X6 : Nat → Prop, X6 = fun q => (X q ∨ wA.heap.size ≤ q) ∧ q < w6.heap.size := ⟨_, rfl⟩
        rw [← hR6] at hf6
        have HF6 : Hid (Fil w6 X6 F f6 (laidAll b R6) b R6) := hide (hf6.mono (fun q hq h => by rw [hX6]; exact ⟨h, hq⟩))
        have HX6 : Hid (∀ q, X6 q → w2.heap.size ≤ q ∧ q < w6.heap.size) := hide (fun q hq => by
          rw [hX6] at hq
          have h1 := HB1.out.size
          refine ⟨?_, hq.2⟩
          rcases hq.1 with h | h
          · exact (hXA q h).1
          · have := hXA _ hfA.xF
            omega)
        have HT6 : Hid (Sts w6 X6 w2.heap.size u9 Ss) := hide (hstA.chg hc6 (fun _ _ h => h) (fun q hq h => by
          rw [hX6] at h
          rcases h.1 with h | h
          · exact h
          · omega))
        have HB6 : Hid (Below w.heap.size w w6) := hide (hbA.trans (hc6.below _ hbA.size (fun i hi hx => by have := (hXA i hx).1; have := HB1.out.size; omega)))
        have HFl6 : Hid (Flat b.length R6 ∧ R6.length ≤ k + 1 ∧ ∀ j, j ≤ R6.length → laidAll b (R6.take j) ∈ Ss ++ [laidAll b R6]) := hide (by
          rw [hR6]
          rcases hpf with ⟨rfl, _⟩ | ⟨r, rfl, h1, h2, h3⟩
          · simp only [List.append_nil]
            refine ⟨HFlat.out, by omega, fun j hj => ?_⟩
            exact List.mem_append_left _ (HSs.out.2 j hj)
          · refine ⟨fun q hq => ?_, by simp; omega, fun j hj => ?_⟩
            · simp at hq
              rcases hq with hq | rfl
              · exact HFlat.out q hq
              · exact ⟨h1, by rw [h2, h3]; omega⟩
            · simp at hj
              rcases Nat.lt_or_ge R.length j with hj2 | hj2
              · rw [List.take_of_length_le (by simp; omega)]
                simp
              · rw [List.take_append_of_le_length hj2]
                exact List.mem_append_left _ (HSs.out.2 j hj2))
        have hl6 : (laidAll b R6).length = b.length := laidAll_len b.length R6 b HFl6.out.1 rfl
        have HZ6 := hide hz6
        have HL6 := hide hl6
        clear hz6 hf6e hX6 hR6 hf6 hc6 hpf hps hfA hXA hstA hbA hlA hl6 hlR HFil HX HSts e5 e6 hzero hops hwr hRk
        go_wp2_with fail
        refine (bytes_file w6 X6 F f6 _ _ _ HF6.out (by rw [HL6.out]; omega)).mono ?_
        rintro e w7 ⟨v7, rfl, ho7, hb7⟩
        obtain ⟨a7, c7, rfl, hl7, hp7⟩ := own_place ho7
        have HF7 := hide ((HF6.out.below_keeps hb7).new_block (.cells #[.slice a7 (laidAll b R6).length c7] 22))
        have HT7 : Hid (Sts w7 X6 w2.heap.size u9 Ss) := hide (HT6.out.chg (Y := fun _ => False) (Chg.of_below hb7) (fun _ _ h => h.elim) (fun _ _ h => h))
        have HT8 : Hid (Sts (w7.alloc (.cells #[.slice a7 (laidAll b R6).length c7] 22)) X6 w2.heap.size u9 Ss) := hide (HT7.out.chg (Y := fun _ => False) ((Chg.refl _ _).alloc _) (fun _ _ h => h.elim) (fun _ _ h => h))
        have HB7 := hide (HB6.out.trans (hb7.mono HB6.out.size))
        have HB8 := hide (HB7.out.alloc HB7.out.size (.cells #[.slice a7 (laidAll b R6).length c7] 22))
        have HS7 := hide hb7.size
        have HL7 := hide (And.intro (hl7.alloc (.cells #[.slice a7 (laidAll b R6).length c7] 22)) hp7)
        clear ho7 hb7 hl7 hp7
        obtain ⟨i1, hi, hz0, hz1, hz2⟩ := info_parts info_b
        obtain ⟨xs, hox, hvx, hmx⟩ := HT8.out
        have hbase : w2.heap.size ≤ (w7.alloc (.cells #[.slice a7 (laidAll b R6).length c7] 22)).heap.size := by
          have h1 := HX6.out _ HF6.out.xF
          have h2 := HS7.out
          simp
          omega
        have HOX := hide hox
        have HVX := hide (And.intro hvx hmx)
        have HBase := hide hbase
        clear hox hvx hmx hbase
        go_wp2_with (at_builtin; refine wpList_append_own_at _ rfl (.tmp 96) (.tmp 99) 47 rfl w2.heap.size 22 i1 (.slice none 0 0) 1 24 Try.underlying47 hi hz0 hz1 hz2 rfl (by decide) u9 Ss.length xs rfl HOX.out ⟨w7.heap.size, 0, none⟩ 1 1 [.slice a7 (laidAll b R6).length c7] rfl rfl (by exact new1 w7 _ _) (by simp [Value.oneCell']) (by unfold maxLen; omega) (by omega) HBase.out ?_; intro v9 w9 ho9 hg9 _ hw9; have HO9 := hide ho9; have HG9 := hide hg9; have HW9 := hide hw9; clear ho9 hg9 hw9)
        have hf9 : Fil w9 X6 F f6 (laidAll b R6) b R6 := HF7.out.chg (Chg.of_grown HG9.out) (fun q _ hx hy => HVX.out.1 q hy.symm hx)
        have hs9 := HG9.out.size
        have hs7 := HS7.out
        have hs8 : (w7.alloc (.cells #[.slice a7 (laidAll b R6).length c7] 22)).heap.size = w7.heap.size + 1 := by simp
        have hb9 : Below w.heap.size w w9 := HB8.out.grown HG9.out HB8.out.size (fun q hq => by have := (HOX.out.lt q hq).1; have := HB1.out.size; omega)
        have ht9 : Sts w9 X6 w2.heap.size v9 (Ss ++ [laidAll b R6]) := Sts.push HOX.out HVX.out.1 HVX.out.2 (fun q hq => by have := (HX6.out q hq).2; omega) HO9.out HG9.out HW9.out HL7.out.1 (fun x hx => by
          have h1 := HL7.out.2 x hx
          refine ⟨by omega, fun h2 => by have := (HX6.out _ h2).2; omega, fun h2 => ?_⟩
          obtain ⟨xs6, h3, _⟩ := HT6.out
          have := (h3.lt _ h2).2
          omega)
        refine ⟨⟨k + 1, X6, f6, R6, Ss ++ [laidAll b R6], by omega, by simp, hf9, fun q hq => ⟨(HX6.out q hq).1, by have := (HX6.out q hq).2; omega⟩, HZ6.out.1, by simpa using HZ6.out.2.1, by simpa using HZ6.out.2.2, HFl6.out.2.1, HFl6.out.1, ht9, by simp; omega, fun s hs => ?_, HFl6.out.2.2, hb9⟩, ?_⟩
        · rcases List.mem_append.1 hs with h | h
          · exact HSs.out.1 s h
          · simp at h; rw [h]; exact HL6.out
        · simp [intOf]; omega
      · go_wp2_with fail
        all_goals first
          | (refine ⟨⟨k + 1, X, f, R, Ss, by omega, by go_num, (HSt.out _).1, (HSt.out _).2.1, hzero, by omega, by omega, by omega, HFlat.out, (HSt.out _).2.2.1, by omega, HSs.out.1, HSs.out.2, (HSt.out _).2.2.2⟩, ?_⟩
             simp [intOf]; omega)
          | skip
    · obtain rfl : k = L.length := by omega
      have hlb := HLg.out.1
      have hl60 := HLg.out.2.1
      have hC := crash_file wr X F f _ b R HFil.out a2 c2 kp (HK.out.below HBel.out) (by omega) (fun r hr => by have := (HFlat.out r hr).2; omega) (by omega)
      obtain ⟨hMl, hMj⟩ := left_some b R kp HFlat.out R.length (Nat.le_refl _)
      obtain ⟨M, hM⟩ : ∃ M, M = left b R kp R.length := ⟨_, rfl⟩
      rw [← hM] at hC hMl hMj
      have HMj := hide hMj
      have HMl := hide hMl
      clear hMj hMl hM
      go_wp2_with fail
      refine hC.mono ?_
      clear hC
      rintro e w10 ⟨v10, rfl, ho10, hb10⟩
      obtain ⟨a10, c10, rfl, hl10, _⟩ := own_place ho10
      have HL10 := hide hl10
      have HT10 : Hid (Sts w10 X w2.heap.size u9 Ss) := hide (HSts.out.chg (Y := fun _ => False) (Chg.of_below hb10) (fun _ _ h => h.elim) (fun _ _ h => h))
      have HB10 := hide (HBel.out.trans (hb10.mono HBel.out.size))
      clear ho10 hb10 hl10
      rw [HMl.out]
      obtain ⟨xs, hox, hvx, hmx⟩ := HT10.out
      obtain ⟨ar, cr, rfl, hcr, hcm, hgr⟩ := row_form hox
      have hS0 : 0 < Ss.length := List.length_pos_iff.2 (fun h => by have := HSs.out.2 0 (Nat.zero_le _); rw [h] at this; simp at this)
      obtain ⟨g, rfl, _⟩ := hgr hS0
      have hgl := (hox.lt g rfl).2
      have HCell : Hid (∀ m, m < Ss.length → ∃ a c, w10.cell? ⟨g, m, none⟩ = some (.slice a (Ss.getD m []).length c) ∧ Lies w10 a (Ss.getD m [])) := hide (fun m hm => by
        obtain ⟨a, c, h1, h2, _⟩ := hmx m hm
        have := hox.cells (g := g) rfl m _ h1
        rw [add_plain, Nat.zero_add] at this
        exact ⟨a, c, this, h2⟩)
      clear hox hvx hmx hgr hcr hcm
      go_wp2_with fail
      go_loopw [13] (fun i wr => ∃ q : Nat, q ≤ b.length ∧ i = .int .i64 q ∧ Below w10.heap.size w10 wr) (fun i _ => b.length - (intOf i).toNat)
      case atStart => exact ⟨0, by omega, by simp, Below.refl _ _⟩
      case round =>
        obtain ⟨q, hq, rfl, hbl⟩ := hrel
        have HBl := hide hbl
        clear hbl
        by_cases hq2 : q < b.length
        · have hq1 : (q : Int) < (b.length : Int) := by omega
          have hq0 : (0 : Int) ≤ (q : Int) := by omega
          rcases HL10.out with h | ⟨b4, o4, ha4, hb4, hc4⟩
          · have := HMl.out; rw [h] at this; simp at this; omega
          subst ha4
          have y0 := hc4 q (by rw [HMl.out]; exact hq2)
          have HY := hide y0
          clear hc4 y0
          go_wp2_with fail
          go_loopw [14, 15] (fun s i wr => ∃ (m : Nat) (t : Bool), m ≤ Ss.length ∧ i = .int .i64 m ∧ s = .bool t ∧ ((∃ j, j < m ∧ (Ss.getD j []).getD q 0 = M.getD q 0) → t = true) ∧ Below w10.heap.size w10 wr) (fun _ i _ => Ss.length - (intOf i).toNat)
          case atStart => exact ⟨0, false, by omega, by simp, rfl, fun ⟨j, hj, _⟩ => by omega, HBl.out⟩
          case round =>
            obtain ⟨m, t, hm, rfl, rfl, ht, hbm⟩ := hrel
            have HT := hide ht
            have HBm := hide hbm
            have y2 := (hbm.cell (p := ⟨b4, o4 + q, none⟩) hb4).trans HY.out
            clear ht
            by_cases hm2 : m < Ss.length
            · obtain ⟨a, c, e1, e2⟩ := HCell.out m hm2
              have hml : (Ss.getD m []).length = b.length := HSs.out.1 _ (by
                have : Ss.getD m [] = Ss[m] := by simp [hm2]
                rw [this]; exact List.getElem_mem _)
              have x1 := (hbm.cell (p := ⟨g, m, none⟩) hgl).trans e1
              rw [hml] at x1
              rcases e2.below hbm with h | ⟨b3, o3, ha3, hb3, hc3⟩
              · rw [h] at hml; simp at hml; omega
              subst ha3
              have y1 := hc3 q (by rw [hml]; exact hq2)
              have hm1 : (m : Int) < (Ss.length : Int) := by omega
              have hm0 : (0 : Int) ≤ (m : Int) := by omega
              clear hbm e1 e2 hc3 hml
              obtain ⟨x, hx⟩ : ∃ x, x = (Ss.getD m []).getD q 0 := ⟨_, rfl⟩
              obtain ⟨y, hy⟩ : ∃ y, y = M.getD q 0 := ⟨_, rfl⟩
              rw [← hx] at y1
              rw [← hy] at y2
              have HXY := hide (And.intro hx hy)
              clear hx hy
              cases t with
              | true =>
                go_wp2_with fail
                go_quiet (fail)
                go_wp2_with fail
                refine ⟨⟨m + 1, true, by omega, by go_num, rfl, fun _ => rfl, below_drewN HBm.out _⟩, ?_⟩
                simp [intOf]; omega
              | false =>
                by_cases hxy : x = y
                · subst hxy
                  go_wp2_with fail
                  go_quiet (fail)
                  go_wp2_with fail
                  refine ⟨⟨m + 1, true, by omega, by go_num, by simp, fun _ => rfl, below_drewN HBm.out _⟩, ?_⟩
                  simp [intOf]; omega
                · have hxb : (x == y) = false := by simpa using hxy
                  go_wp2_with fail
                  go_quiet (fail)
                  go_wp2_with fail
                  refine ⟨⟨m + 1, false, by omega, by go_num, rfl, fun ⟨j, hj, hjj⟩ => ?_, below_drewN HBm.out _⟩, ?_⟩
                  · rcases Nat.lt_or_ge j m with h1 | h1
                    · have := HT.out ⟨j, h1, hjj⟩
                      exact this
                    · obtain rfl : j = m := by omega
                      rw [← HXY.out.1, ← HXY.out.2] at hjj
                      exact absurd hjj hxy
                  · simp [intOf]; omega
            · obtain rfl : m = Ss.length := by omega
              have htt : t = true := HT.out (by
                obtain ⟨j, hj, hjj⟩ := HMj.out q
                obtain ⟨n, hn, hne⟩ := List.getElem_of_mem (HSs.out.2 j hj)
                exact ⟨n, hn, by rw [hjj, ← hne]; simp [hn]⟩)
              subst htt
              clear hbm
              go_wp2_with fail
              refine ⟨⟨q + 1, by omega, by go_num, HBm.out⟩, ?_⟩
              simp [intOf]; omega
        · obtain rfl : q = b.length := by omega
          go_wp2_with fail
          go_ret
          exact ⟨rfl, HB10.out.trans (HBl.out.mono HB10.out.size)⟩

set_option maxRecDepth 100000 in
theorem diskSectors_lifted (os : Os) (started : os.Started) (H : Type) (enc : TypeId × Value → H) :
    ReturnsInHanded {} Try.checked os 5 .any (Rows.diskSectorsSpec.pre6 enc Try.prog Try.f5 Rows.diskSectorsRow.domain false) (Rows.diskSectorsSpec.post enc Try.prog Try.f5 false true false false) := by
  refine returnsInHanded_of_change (C := Try.checked) own started (by kernel_rfl) Try.func5
    (ChangeSpec.witness6 (enc := enc) (C := Try.checked) false ⟨#[], #[.slice none 0 0, .slice none 0 0, .slice none 0 0], []⟩ 8 (by kernel_rfl) (by kernel_rfl) (by kernel_rfl) (by kernel_rfl)) ?_
  intro W base args ds gs before hval0 hW _ _
  have hval : ∀ (j : Nat) t v, Try.f5.params[j]? = some t → args[j]? = some v → Value.okWide Try.prog W .any base t v := hval0
  have hW' := hW
  obtain ⟨p, q, hA0, hV, rfl, hfz, hnd⟩ := hW
  have hA : DataW.TrodAll enc Try.prog W 0 (fun _ => true) true Try.f5.params.toList args.toList ds p := hA0
  rw [Try.params5] at hA hval
  obtain ⟨v0, vs0, d0, ds0, p0, q0, hargs0, rfl, rfl, h0, r0⟩ := trodAll_cons hA
  obtain ⟨v1, vs1, d1, ds1, p1, q1, hargs1, rfl, rfl, h1, r1⟩ := trodAll_cons r0
  obtain ⟨v2, vs2, d2, ds2, p2, q2, hargs2, rfl, rfl, h2, r2⟩ := trodAll_cons r1
  obtain ⟨rfl, rfl, rfl⟩ := trodAll_nil r2
  subst hargs2
  subst hargs1
  obtain rfl : args = #[v0, v1, v2] := by cases args; simp_all
  obtain ⟨rfl, rfl⟩ := trodVars_none hV
  simp only [List.append_nil] at hW'
  have hlt0 : ∀ x ∈ p0, x.block < W.heap.size := fun x hx => by simpa using hW'.lt x (by simp [hx])
  have hlt1 : ∀ x ∈ p1, x.block < W.heap.size := fun x hx => by simpa using hW'.lt x (by simp [hx])
  have hlt2 : ∀ x ∈ p2, x.block < W.heap.size := fun x hx => by simpa using hW'.lt x (by simp [hx])
  obtain ⟨a0, cap0, l0, rfl, hn0, hb0, hl0, hs0⟩ := open_bytes (hval 0 22 v0 rfl rfl) h0
  obtain ⟨a1, cap1, l1, rfl, hn1, hf1, ho1⟩ := open_ops (hval 1 23 v1 rfl rfl) h1
  obtain ⟨a2, cap2, l2, rfl, hn2, hl2⟩ := open_bools (hval 2 24 v2 rfl rfl) h2
  clear hA0
  refine (sectors_walk a0 cap0 l0 a1 cap1 l1 a2 cap2 l2 W hl0 ho1 hl2).mono fun e W' ⟨he, hb⟩ => ?_
  subst he
  refine ⟨_, rfl, _, _, _, [], (p0 ++ (p1 ++ (p2 ++ []))), [], hW', ?_, ?_, rfl, hb.frame _, fun h => by cases h⟩
  · exact trodAll_cons_mk (shut_bool Try.underlying4 _) trodAll_mk0
  · exact trodAll_cons_mk (Below.trod laidOut (by kernel_rfl) (of_decide_eq_true (by kernel_rfl)) h0 hb hlt0) (trodAll_cons_mk (Below.trod laidOut (by kernel_rfl) (of_decide_eq_true (by kernel_rfl)) h1 hb hlt1) (trodAll_cons_mk (Below.trod laidOut (by kernel_rfl) (of_decide_eq_true (by kernel_rfl)) h2 hb hlt2) (trodAll_mk0)))

theorem diskSectors_holds : Rows.DiskSectorsSaid :=
  OpenClaim.holds_of_wide 5 Try.f5 rfl rfl rfl rfl rfl rfl rfl ⟨rfl, rfl, rfl, rfl, rfl⟩ rfl rfl rfl rfl rfl (by kernel_rfl) Try.func5 (by kernel_rfl)
    (of_decide_eq_true (by kernel_rfl)) (by unfold Func.isWrapper; first | (rw [if_pos (by decide +kernel)]; kernel_rfl) | (rw [if_neg (by decide +kernel)]; exact ⟨rfl, rfl⟩))
    (fun os started H enc _ => diskSectors_lifted os started H enc)

end Go.Proofs.Ytnhbncbiflnapaa.Oct
