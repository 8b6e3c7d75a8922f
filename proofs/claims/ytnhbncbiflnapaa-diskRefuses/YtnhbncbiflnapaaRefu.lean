/- For all bytes, operations and numbers the statement DiskRefuses answers true and changes nothing that was there: an operation that is refused does nothing: all is as if it hadn't been asked for, but that it counts. No condition. -/
import Derived.Test.YtnhbncbiflnapaaRows
import Derived.Test.YtnhbncbiflnapaaTwo
namespace Go.Proofs.Ytnhbncbiflnapaa.Oct
open Go.RowKit Go.Deep Go.ChangeShapes Go.WideShapes Go.ChangeAt

theorem has_bytes (w : World) (X : Nat → Prop) (F : Nat) (f : Fs) (A : Ab) (n : Nat) (h : Has w X F f A) (hg : Good A n) :
    Calls Try.prog 18 #[.pointer (some ⟨F, 0, none⟩)] w fun e w' => ∃ v, e = .returned v ∧ Own w' w.heap.size v A.S ∧ Below w.heap.size w w' := by
  obtain ⟨R0, q1, q2, q3⟩ := h
  exact bytes_file w X F f A.S A.T R0 q1 (by have := hg.s; omega)

theorem has_crash (w : World) (X : Nat → Prop) (F : Nat) (f : Fs) (A : Ab) (n : Nat) (h : Has w X F f A) (hg : Good A n) (hn : n ≤ 1000) :
    Calls Try.prog 20 #[.pointer (some ⟨F, 0, none⟩), .slice none 0 0] w fun e w' => ∃ v, e = .returned v ∧ Own w' w.heap.size v A.T ∧ Below w.heap.size w w' := by
  obtain ⟨R0, q1, q2, q3⟩ := h
  have hl : R0.length = A.D.length := by rw [← q2]; simp
  have hd := hg.d
  have := crash_file w X F f A.S A.T R0 q1 none 0 [] (Or.inl rfl) hg.t (small_dat (by rw [q2]; exact hg.small)) (by omega)
  rw [left_nil] at this
  exact this

theorem has_waiting (w : World) (X : Nat → Prop) (F : Nat) (f : Fs) (A : Ab) (h : Has w X F f A) :
    Calls Try.prog 14 #[.pointer (some ⟨F, 0, none⟩)] w fun e w' => e = .returned (.int .i64 A.D.length) ∧ w' = w := by
  obtain ⟨R0, q1, q2, q3⟩ := h
  have := waiting_file w X F f A.S A.T R0 q1
  rw [← q2, List.length_map]
  exact this

theorem has_wrote (w : World) (X : Nat → Prop) (F : Nat) (f : Fs) (A : Ab) (h : Has w X F f A) :
    Calls Try.prog 13 #[.pointer (some ⟨F, 0, none⟩)] w fun e w' => e = .returned (.int .i64 A.wr) ∧ w' = w := by
  obtain ⟨R0, q1, q2, q3⟩ := h
  have := wrote_file w F f q1.at_
  rw [q3] at this
  exact this

theorem two_init (w w2 w3 w4 : World) (F G : Nat) (u1 u2 u3 u4 : Value) (b : List Int) (hf : Fil w3 (fun k => w2.heap.size ≤ k ∧ k < w3.heap.size) F ⟨u1, u2, .slice none 0 0, 0, 0, 0, 0, false⟩ b b []) (hb4 : Below w3.heap.size w3 w4) (hg : Fil w4 (fun k => w3.heap.size ≤ k ∧ k < w4.heap.size) G ⟨u3, u4, .slice none 0 0, 0, 0, 0, 0, false⟩ b b []) (hw : w.heap.size ≤ w2.heap.size) (hw3 : w2.heap.size ≤ w3.heap.size) :
    Two w4 (fun q => q < w.heap.size) F G ⟨u1, u2, .slice none 0 0, 0, 0, 0, 0, false⟩ ⟨b, b, [], 0⟩ ⟨b, b, [], 0⟩ 0 := by
  have hs := hb4.size
  exact ⟨_, _, _, ⟨[], hf.below_keeps hb4, rfl, rfl⟩, ⟨[], hg, rfl, rfl⟩, fun q hq => ⟨by omega, by omega⟩, fun q hq => hq.2, by simp, by simp, fun q hq => ⟨by omega, by omega, by omega⟩⟩

theorem Two.fst {w : World} {K : Nat → Prop} {F G : Nat} {ff : Fs} {A A2 : Ab} {n : Nat} (h : Two w K F G ff A A2 n) : ∃ X, Has w X F ff A := by
  obtain ⟨Xf, Xg, fg, h1, _⟩ := h
  exact ⟨Xf, h1⟩

theorem Two.snd {w : World} {K : Nat → Prop} {F G : Nat} {ff : Fs} {A A2 : Ab} {n : Nat} (h : Two w K F G ff A A2 n) : ∃ X f, Has w X G f A2 := by
  obtain ⟨Xf, Xg, fg, _, h2, _⟩ := h
  exact ⟨Xg, fg, h2⟩

theorem op_eta (A : Ab) (o : GOp) (j : Int) (h : o.kind = j) : A.op o = A.op ⟨j, o.at_, o.n, o.a, o.cap, o.b⟩ := by
  cases o
  simp only at h
  subst h
  rfl

theorem good_begin (b : List Int) (hb : b.length ≤ 4194304) : Good ⟨b, b, [], 0⟩ 0 := ⟨rfl, hb, hb, fun d hd => by simp at hd, by simp, by simp, by simp⟩

set_option maxHeartbeats 4000000 in
set_option maxRecDepth 100000 in
theorem refuses_walk (a0 : Option Addr) (c0 : Nat) (b : List Int) (a1 : Option Addr) (c1 : Nat) (L : List GOp) (which : Int) (w : World) (hs : Lies w a0 b) (hO : Opr w a1 L) (hF : Fits L) :
    Calls Try.prog 7 #[.slice a0 b.length c0, .slice a1 L.length c1, .int .i64 which] w fun e w' => e = .returned (.bool true) ∧ Below w.heap.size w w' := by
  have HS := hide hs
  have HO := hide (And.intro hO hF)
  clear hs hO hF
  go_enter Try.func7, Try.ntmps7
  go_wp2_with fail
  refine (halved_true _).mono ?_
  rintro e w1 ⟨rfl, hb1⟩
  have HB1 := hide hb1
  clear hb1
  go_wp2_with fail
  refine (light_says w1 a0 c0 b a1 c1 L (HO.out.1.below HB1.out)).mono ?_
  rintro e w2 (⟨rfl, rfl⟩ | ⟨rfl, rfl, hlg⟩)
  · go_wp2_with fail
    refine (halved_true _).mono ?_
    rintro e w3 ⟨rfl, hb3⟩
    go_wp2_with fail
    go_ret
    exact ⟨rfl, HB1.out.trans (hb3.mono HB1.out.size)⟩
  have HLg := hide hlg
  have hl60 := hlg.2.1
  clear hlg
  by_cases hL0 : L.length = 0
  · have hLb : ((L.length : Int) == 0) = true := by simp [hL0]
    go_wp2_with fail
    refine (halved_true _).mono ?_
    rintro e w3 ⟨rfl, hb3⟩
    go_wp2_with fail
    go_ret
    exact ⟨rfl, HB1.out.trans (hb3.mono HB1.out.size)⟩
  have hLb : ((L.length : Int) == 0) = false := by simp [hL0]
  have hLp : 0 < L.length := by omega
  go_wp2_with fail
  generalize wrap64 ((IntKind.u64.wrap which).tmod (L.length : Int)) = kk
  refine (new_file w2 a0 c0 b (HS.out.below HB1.out) (by have := HLg.out.1; omega)).mono ?_
  rintro e w3 ⟨F, u1, u2, rfl, hf3, hb3⟩
  have HF3 := hide (hf3.mono (Y := fun k => w2.heap.size ≤ k ∧ k < w3.heap.size) (fun k hk h => ⟨h, hk⟩))
  have HB3 := hide hb3
  clear hf3 hb3
  go_wp2_with fail
  refine (new_file w3 a0 c0 b ((HS.out.below HB1.out).below HB3.out) (by have := HLg.out.1; omega)).mono ?_
  rintro e w4 ⟨G, u3, u4, rfl, hf4, hb4⟩
  have HTw := hide (two_init w w2 w3 w4 F G u1 u2 u3 u4 b HF3.out hb4 (hf4.mono (Y := fun k => w3.heap.size ≤ k ∧ k < w4.heap.size) (fun k hk h => ⟨h, hk⟩)) HB1.out.size HB3.out.size)
  have HB4 : Hid (Below w.heap.size w w4) := hide ((HB1.out.trans (HB3.out.mono HB1.out.size)).trans (hb4.mono (Nat.le_trans HB1.out.size HB3.out.size)))
  have HG0 := hide (good_begin b (by have := HLg.out.1; omega))
  clear hf4 hb4 HF3 HB3
  go_wp2_with fail
  go_loopw [12] (fun i wr => ∃ (k n : Nat) (A : Ab) (f : Fs), k ≤ L.length ∧ i = .int .i64 k ∧ n ≤ k ∧ Two wr (fun q => q < w.heap.size) F G f A A n ∧ Good A n ∧ (0 ≤ f.ops ∧ f.ops ≤ n) ∧ (f.refuse ≤ f.ops ∧ f.stop = 0) ∧ Below w.heap.size w wr) (fun i _ => L.length - (intOf i).toNat)
  case atStart => exact ⟨0, 0, _, _, by omega, by simp, by omega, HTw.out, HG0.out, by simp, by simp, HB4.out⟩
  case round =>
    obtain ⟨k, n, A, f, hk, rfl, hnk, htw, hgd, hop, hrf, hbel⟩ := hrel
    clear HTw HB4 HG0
    have HTw := hide htw
    have HGd := hide hgd
    have HOp := hide hop
    have HRf := hide hrf
    have HBel := hide hbel
    clear htw hgd hop hrf hbel
    by_cases hlt : k < L.length
    · rcases HO.out.1 with hnil | ⟨bo, off, hao, hbo, hc⟩
      · rw [hnil] at hlt; simp at hlt
      subst hao
      obtain ⟨q0, q1, q2, q3, hsl⟩ := hc k hlt
      have c0' := (HBel.out.cell (p := ⟨bo, off + k * 4, none⟩) hbo).trans q0
      have c1' := (HBel.out.cell (p := ⟨bo, off + k * 4 + 1, none⟩) hbo).trans q1
      have c2' := (HBel.out.cell (p := ⟨bo, off + k * 4 + 2, none⟩) hbo).trans q2
      have c3' := (HBel.out.cell (p := ⟨bo, off + k * 4 + 3, none⟩) hbo).trans q3
      have hk0 : (0 : Int) ≤ (k : Int) := by omega
      have hk1 : (k : Int) < (L.length : Int) := by omega
      obtain ⟨o, ho⟩ : ∃ o, o = L.getD k GOp.nil := ⟨_, rfl⟩
      have HLO : Hid (LgtOp o ∧ o.fit) := hide (by rw [ho]; exact ⟨HLg.out.2.2 k hlt, HO.out.2 k hlt⟩)
      rw [← ho] at c0' c1' c2' c3' hsl
      have HSl := hide hsl
      clear hc ho q0 q1 q2 q3 hsl
      obtain ⟨w5, hw5⟩ : ∃ w5, w5 = wr.alloc (.cells #[.int .i64 o.kind, .int .i64 o.at_, .int .i64 o.n, .slice o.a o.b.length o.cap] 37) := ⟨_, rfl⟩
      obtain ⟨d0, d1, d2, d3⟩ := box4 wr 37 (.int .i64 o.kind) (.int .i64 o.at_) (.int .i64 o.n) (.slice o.a o.b.length o.cap)
      have hb5 : Below wr.heap.size wr w5 := by rw [hw5]; exact (Below.refl _ _).alloc (Nat.le_refl _) _
      have hs5 : w5.heap.size = wr.heap.size + 1 := by rw [hw5]; simp
      obtain ⟨K1, hK1⟩ : ∃ K1 : Nat → Prop, K1 = fun q => q < w.heap.size ∨ (wr.heap.size ≤ q ∧ q < w5.heap.size) := ⟨_, rfl⟩
      have htw5 := HTw.out.below hb5
      rw [← hK1] at htw5
      have HTw5 := hide htw5
      have HK1 : Hid ((∀ q, q < w.heap.size → K1 q) ∧ K1 wr.heap.size) := hide (by rw [hK1]; exact ⟨fun q hq => Or.inl hq, Or.inr ⟨Nat.le_refl _, by omega⟩⟩)
      have HB5 : Hid (Below w.heap.size w w5) := hide (HBel.out.trans (hb5.mono HBel.out.size))
      have HSl5 := hide ((HSl.out.below HBel.out).below hb5)
      have HDc : Hid (w5.cell? ⟨wr.heap.size, 0, none⟩ = some (.int .i64 o.kind) ∧ w5.cell? ⟨wr.heap.size, 1, none⟩ = some (.int .i64 o.at_) ∧ w5.cell? ⟨wr.heap.size, 2, none⟩ = some (.int .i64 o.n) ∧ w5.cell? ⟨wr.heap.size, 3, none⟩ = some (.slice o.a o.b.length o.cap)) := hide (by rw [hw5]; exact ⟨d0, d1, d2, d3⟩)
      have HTw5n : Hid (Two w5 (fun q => q < w.heap.size) F G f A A n) := hide (HTw5.out.mono (fun q hq => HK1.out.1 q hq) (Nat.le_refl _))
      have HW5 := hide hw5
      clear hb5 htw5 hK1 hs5
      by_cases hka : o.kind < 1
      · go_wp2_with fail
        rw [← HW5.out]
        refine ⟨⟨k + 1, n, A, f, by omega, by go_num, by omega, HTw5n.out, HGd.out, HOp.out, HRf.out, HB5.out⟩, ?_⟩
        simp [intOf]; omega
      by_cases hkb : (4 : Int) < o.kind
      · go_wp2_with fail
        rw [← HW5.out]
        refine ⟨⟨k + 1, n, A, f, by omega, by go_num, by omega, HTw5n.out, HGd.out, HOp.out, HRf.out, HB5.out⟩, ?_⟩
        simp [intOf]; omega
      by_cases hkk : (k : Int) = kk
      · subst hkk
        go_wp2_with fail
        rw [← HW5.out]
        refine (refuse_two w5 K1 F G f A A n HTw5.out (by omega) HOp.out).mono ?_
        rintro e w6 ⟨rfl, ht6, hc6⟩
        obtain ⟨f5, hf5⟩ : ∃ f5 : Fs, f5 = { f with refuse := f.ops + 1, stop := 0 } := ⟨_, rfl⟩
        rw [← hf5] at ht6
        have HSaid : Hid (f5.said = 5) := hide (by rw [hf5]; unfold Fs.said; rw [if_pos (Or.inr rfl)])
        have HOe : Hid (f5.ops = f.ops) := hide (by rw [hf5])
        have HOp5 : Hid (0 ≤ f5.ops ∧ f5.ops ≤ ((n + 1 : Nat) : Int)) := hide (by have := HOp.out; rw [hf5]; simp; omega)
        have HRf5 : Hid (f5.refuse ≤ f5.ops + 1 ∧ f5.stop = 0) := hide (by rw [hf5]; simp)
        have HT6 := hide ht6
        have HB6 : Hid (Below w.heap.size w w6) := hide (HB5.out.trans (hc6.below w.heap.size HB5.out.size (fun i hi h => h (HK1.out.1 i hi))))
        have HSl6 : Hid (Sl w6 o.a o.cap o.b) := hide (HSl5.out.chg0 hc6 (fun hl x hx h => h (HK1.out.1 _ (HSl.out.lies.lt hl x hx))))
        have HD6 : Hid (w6.cell? ⟨wr.heap.size, 0, none⟩ = some (.int .i64 o.kind) ∧ w6.cell? ⟨wr.heap.size, 1, none⟩ = some (.int .i64 o.at_) ∧ w6.cell? ⟨wr.heap.size, 2, none⟩ = some (.int .i64 o.n) ∧ w6.cell? ⟨wr.heap.size, 3, none⟩ = some (.slice o.a o.b.length o.cap)) := hide
          ⟨hc6.cell HDc.out.1 (fun h => h HK1.out.2), hc6.cell HDc.out.2.1 (fun h => h HK1.out.2), hc6.cell HDc.out.2.2.1 (fun h => h HK1.out.2), hc6.cell HDc.out.2.2.2 (fun h => h HK1.out.2)⟩
        clear hf5 ht6 hc6 d0 d1 d2 d3
        obtain ⟨Xf, hh⟩ := HT6.out.fst
        have HHs := hide hh
        clear hh
        go_wp2_with fail
        refine (has_crash w6 Xf F f5 A n HHs.out HGd.out (by omega)).mono ?_
        rintro e w6' ⟨v6, rfl, ho6, hb6⟩
        obtain ⟨a6, c6, rfl, hl6, hp6⟩ := own_place ho6
        have hbx6 : wr.heap.size < w6.heap.size := lt_of_cell HD6.out.1
        have HAll : Hid (∀ ob w7, w7 = w6'.alloc ob → Two w7 K1 F G f5 A A (n + 1) ∧ Below w.heap.size w w7 ∧ Sl w7 o.a o.cap o.b ∧ (w7.cell? ⟨wr.heap.size, 0, none⟩ = some (.int .i64 o.kind) ∧ w7.cell? ⟨wr.heap.size, 1, none⟩ = some (.int .i64 o.at_) ∧ w7.cell? ⟨wr.heap.size, 2, none⟩ = some (.int .i64 o.n) ∧ w7.cell? ⟨wr.heap.size, 3, none⟩ = some (.slice o.a o.b.length o.cap))) := hide (by
          intro ob w7 hw7
          have hb7 : Below w6.heap.size w6 w7 := by rw [hw7]; exact hb6.alloc hb6.size _
          exact ⟨(HT6.out.below hb7).mono (fun q hq => Or.inl hq) (Nat.le_succ n), HB6.out.trans (hb7.mono HB6.out.size), HSl6.out.below hb7, (hb7.cell (p := ⟨wr.heap.size, 0, none⟩) hbx6).trans HD6.out.1, (hb7.cell (p := ⟨wr.heap.size, 1, none⟩) hbx6).trans HD6.out.2.1, (hb7.cell (p := ⟨wr.heap.size, 2, none⟩) hbx6).trans HD6.out.2.2.1, (hb7.cell (p := ⟨wr.heap.size, 3, none⟩) hbx6).trans HD6.out.2.2.2⟩)
        clear ho6 hl6 hp6 hb6 hbx6
        go_wp2_with fail
        obtain ⟨w7, hw7⟩ : ∃ w7, w7 = w6'.alloc (.cells #[.slice a6 A.T.length c6, .slice none 0 0, .int .i64 0, .int .i64 0, .int .i64 0, .int .i64 0] 34) := ⟨_, rfl⟩
        obtain ⟨ht7, hb7, hs7, e0, e1, e2, e3⟩ := HAll.out _ w7 hw7
        rw [← hw7]
        obtain ⟨K3, hK3⟩ : ∃ K3, K3 = K1 := ⟨_, rfl⟩
        obtain ⟨A6, hA6⟩ : ∃ A6, A6 = A := ⟨_, rfl⟩
        have HAA := hide hA6
        have htw7 : Two w7 K3 F G f5 A A6 (n + 1) := by rw [hK3, hA6]; exact ht7
        have HTw7 := hide htw7
        have HB7 := hide hb7
        have HSl7 := hide hs7
        have HKw : Hid (∀ q, q < w.heap.size → K3 q) := hide (by rw [hK3]; exact HK1.out.1)
        have HSk7 : Hid (o.b ≠ [] → ∀ x, o.a = some x → K3 x.block) := hide (fun hl x hx => HKw.out _ (HSl.out.lies.lt hl x hx))
        have HG5 : Hid (Good A (n + 1)) := hide (HGd.out.more (Nat.le_succ n))
        have HG6 : Hid (Good A6 (n + 1)) := hide (by rw [hA6]; exact HG5.out)
        have HKd : Hid (o.kind = 1 ∨ o.kind = 2 ∨ o.kind = 3 ∨ o.kind = 4) := hide (by omega)
        clear hw7 ht7 hb7 hs7 hK3 hA6 htw7 HAll HSl6 HD6 HHs HT6 HB6 c0' c1' c2' c3'
        refine (ops_two w7 K3 F G f5 A A6 (n + 1) HTw7.out).mono ?_
        rintro e w8 ⟨rfl, rfl⟩
        have hwo : wrap64 (f5.ops + 1) = f5.ops + 1 := by have := HOp5.out; unfold wrap64; omega
        rcases HKd.out with h1 | h1 | h1 | h1
        · rw [h1] at e0
          have HEq : Hid (A = A6) := hide HAA.out.symm
          clear h1
          go_wp2_with fail
          refine (read_two w8 K3 F G f5 A A6 (n + 1) HTw7.out HG5.out (by omega) HOp5.out o.at_ o.n HLO.out.2.2.1 HLO.out.2.2.2.1).mono ?_
          rintro e w9 ⟨⟨v9, z9, rfl, hz9⟩, ⟨f9, ht9, e91, e92, e93⟩, hc9⟩
          have hzb : (z9 == 5) = true := by have := hz9.2 HSaid.out; simp [this]
          have HT9 := hide ht9
          have HE9 := hide (And.intro e91 (And.intro e92 e93))
          have HB9 : Hid (Below w.heap.size w w9) := hide (HB7.out.trans (hc9.below w.heap.size HB7.out.size (fun i hi h => h (HKw.out i hi))))
          clear ht9 e91 e92 e93 hc9 hz9
          go_wp2_with fail
          refine (ops_two w9 K3 F G f9 _ A6 (n + 1) HT9.out).mono ?_
          rintro e w10 ⟨rfl, rfl⟩
          rw [HE9.out.1]
          go_wp2_with fail
          have ht10 := HT9.out
          rw [HEq.out] at ht10
          refine ⟨⟨k + 1, n + 1, A6, f9, by omega, by go_num, by omega, ht10.mono (fun q hq => HKw.out q hq) (Nat.le_refl _), HG6.out, ?_, ?_, HB9.out⟩, ?_⟩
          · have h1 := HE9.out.1; have h2 := HOp5.out; have h3 := HOp.out; have h4 := HOe.out; omega
          · have h1 := HE9.out; have h2 := HRf5.out; omega
          · simp [intOf]; omega
        · rw [h1] at e0
          have HEq : Hid ((if f5.said = 5 then A else A.op ⟨2, o.at_, o.n, o.a, o.cap, o.b⟩) = A6) := hide (by rw [if_pos HSaid.out]; exact HAA.out.symm)
          clear h1
          go_wp2_with fail
          refine (write_two w8 K3 F G f5 A A6 (n + 1) HTw7.out HG5.out (by omega) HOp5.out o.at_ o.n o.a o.cap o.b HSl7.out.lies HLO.out.1.1 HSk7.out HLO.out.2.2.1).mono ?_
          rintro e w9 ⟨⟨z9, rfl, hz9⟩, ⟨f9, ht9, e91, e92, e93⟩, hc9⟩
          have hzb : (z9 == 5) = true := by have := hz9.2 HSaid.out; simp [this]
          have HT9 := hide ht9
          have HE9 := hide (And.intro e91 (And.intro e92 e93))
          have HB9 : Hid (Below w.heap.size w w9) := hide (HB7.out.trans (hc9.below w.heap.size HB7.out.size (fun i hi h => h (HKw.out i hi))))
          clear ht9 e91 e92 e93 hc9 hz9
          go_wp2_with fail
          refine (ops_two w9 K3 F G f9 _ A6 (n + 1) HT9.out).mono ?_
          rintro e w10 ⟨rfl, rfl⟩
          rw [HE9.out.1]
          go_wp2_with fail
          have ht10 := HT9.out
          rw [HEq.out] at ht10
          refine ⟨⟨k + 1, n + 1, A6, f9, by omega, by go_num, by omega, ht10.mono (fun q hq => HKw.out q hq) (Nat.le_refl _), HG6.out, ?_, ?_, HB9.out⟩, ?_⟩
          · have h1 := HE9.out.1; have h2 := HOp5.out; have h3 := HOp.out; have h4 := HOe.out; omega
          · have h1 := HE9.out; have h2 := HRf5.out; omega
          · simp [intOf]; omega
        · rw [h1] at e0
          have HEq : Hid ((if f5.said = 5 then A else A.op ⟨3, o.at_, o.n, o.a, o.cap, o.b⟩) = A6) := hide (by rw [if_pos HSaid.out]; exact HAA.out.symm)
          clear h1
          go_wp2_with fail
          refine (trunc_two w8 K3 F G f5 A A6 (n + 1) HTw7.out HG5.out (by omega) HOp5.out o.at_ o.n o.a o.cap o.b).mono ?_
          rintro e w9 ⟨⟨z9, rfl, hz9⟩, ⟨f9, ht9, e91, e92, e93⟩, hc9⟩
          have hzb : (z9 == 5) = true := by have := hz9.2 HSaid.out; simp [this]
          have HT9 := hide ht9
          have HE9 := hide (And.intro e91 (And.intro e92 e93))
          have HB9 : Hid (Below w.heap.size w w9) := hide (HB7.out.trans (hc9.below w.heap.size HB7.out.size (fun i hi h => h (HKw.out i hi))))
          clear ht9 e91 e92 e93 hc9 hz9
          go_wp2_with fail
          refine (ops_two w9 K3 F G f9 _ A6 (n + 1) HT9.out).mono ?_
          rintro e w10 ⟨rfl, rfl⟩
          rw [HE9.out.1]
          go_wp2_with fail
          have ht10 := HT9.out
          rw [HEq.out] at ht10
          refine ⟨⟨k + 1, n + 1, A6, f9, by omega, by go_num, by omega, ht10.mono (fun q hq => HKw.out q hq) (Nat.le_refl _), HG6.out, ?_, ?_, HB9.out⟩, ?_⟩
          · have h1 := HE9.out.1; have h2 := HOp5.out; have h3 := HOp.out; have h4 := HOe.out; omega
          · have h1 := HE9.out; have h2 := HRf5.out; omega
          · simp [intOf]; omega
        · rw [h1] at e0
          have HEq : Hid ((if f5.said = 5 then A else A.op ⟨4, o.at_, o.n, o.a, o.cap, o.b⟩) = A6) := hide (by rw [if_pos HSaid.out]; exact HAA.out.symm)
          clear h1
          go_wp2_with fail
          refine (flush_two w8 K3 F G f5 A A6 (n + 1) HTw7.out HG5.out (by omega) HOp5.out o.at_ o.n o.a o.cap o.b).mono ?_
          rintro e w9 ⟨⟨z9, rfl, hz9⟩, ⟨f9, ht9, e91, e92, e93⟩, hc9⟩
          have hzb : (z9 == 5) = true := by have := hz9.2 HSaid.out; simp [this]
          have HT9 := hide ht9
          have HE9 := hide (And.intro e91 (And.intro e92 e93))
          have HB9 : Hid (Below w.heap.size w w9) := hide (HB7.out.trans (hc9.below w.heap.size HB7.out.size (fun i hi h => h (HKw.out i hi))))
          clear ht9 e91 e92 e93 hc9 hz9
          go_wp2_with fail
          refine (ops_two w9 K3 F G f9 _ A6 (n + 1) HT9.out).mono ?_
          rintro e w10 ⟨rfl, rfl⟩
          rw [HE9.out.1]
          go_wp2_with fail
          have ht10 := HT9.out
          rw [HEq.out] at ht10
          refine ⟨⟨k + 1, n + 1, A6, f9, by omega, by go_num, by omega, ht10.mono (fun q hq => HKw.out q hq) (Nat.le_refl _), HG6.out, ?_, ?_, HB9.out⟩, ?_⟩
          · have h1 := HE9.out.1; have h2 := HOp5.out; have h3 := HOp.out; have h4 := HOe.out; omega
          · have h1 := HE9.out; have h2 := HRf5.out; omega
          · simp [intOf]; omega
      · have hkkb : ((k : Int) == kk) = false := by simpa using hkk
        go_wp2_with fail
        rw [← HW5.out]
        obtain ⟨Xf, hh⟩ := HTw5.out.fst
        refine (has_crash w5 Xf F f A n hh HGd.out (by omega)).mono ?_
        clear hh
        rintro e w6 ⟨v6, rfl, ho6, hb6⟩
        obtain ⟨a6, c6, rfl, hl6, hp6⟩ := own_place ho6
        obtain ⟨a6', c6', e6, hsl6, _⟩ := ho6.sl
        simp at e6
        obtain ⟨rfl, rfl⟩ := e6
        have hbx6 : wr.heap.size < w5.heap.size := lt_of_cell HDc.out.1
        obtain ⟨K3, hK3⟩ : ∃ K3 : Nat → Prop, K3 = fun q => K1 q ∨ (w5.heap.size ≤ q ∧ q < w6.heap.size) := ⟨_, rfl⟩
        have htw6 := HTw5.out.below hb6
        rw [← hK3] at htw6
        have HKw : Hid (∀ q, q < w.heap.size → K3 q) := hide (fun q hq => by rw [hK3]; exact Or.inl (HK1.out.1 q hq))
        have HKx : Hid (K3 wr.heap.size) := hide (by rw [hK3]; exact Or.inl HK1.out.2)
        have HKd : Hid (o.kind = 1 ∨ o.kind = 2 ∨ o.kind = 3 ∨ o.kind = 4) := hide (by omega)
        have HSk7 : Hid (o.b ≠ [] → ∀ x, o.a = some x → K3 x.block) := hide (fun hl x hx => HKw.out _ (HSl.out.lies.lt hl x hx))
        have HSaid : Hid (f.said = 0) := hide (by have h1 := HOp.out; have h2 := HRf.out; unfold Fs.said; rw [h2.2, if_neg (by omega)])
        have HDn := hide (done_two w6 K3 F G f A A n htw6 HGd.out (by omega) a6 c6 A.T hsl6 HGd.out.t (fun _ x hx => by rw [hK3]; exact Or.inr (hp6 x hx)) o (by omega) HLO.out.2 HLO.out.1.1 (HSl5.out.below hb6) HSk7.out)
        have HB6 : Hid (Below w.heap.size w w6) := hide (HB5.out.trans (hb6.mono HB5.out.size))
        have HSl6 := hide (HSl5.out.below hb6)
        have hbx7 : wr.heap.size < w6.heap.size := Nat.lt_of_lt_of_le hbx6 hb6.size
        have HD6 : Hid (w6.cell? ⟨wr.heap.size, 0, none⟩ = some (.int .i64 o.kind) ∧ w6.cell? ⟨wr.heap.size, 1, none⟩ = some (.int .i64 o.at_) ∧ w6.cell? ⟨wr.heap.size, 2, none⟩ = some (.int .i64 o.n) ∧ w6.cell? ⟨wr.heap.size, 3, none⟩ = some (.slice o.a o.b.length o.cap)) := hide
          ⟨(hb6.cell (p := ⟨wr.heap.size, 0, none⟩) hbx6).trans HDc.out.1, (hb6.cell (p := ⟨wr.heap.size, 1, none⟩) hbx6).trans HDc.out.2.1, (hb6.cell (p := ⟨wr.heap.size, 2, none⟩) hbx6).trans HDc.out.2.2.1, (hb6.cell (p := ⟨wr.heap.size, 3, none⟩) hbx6).trans HDc.out.2.2.2⟩
        have hbA : Below w6.heap.size w6 (w6.alloc (.cells #[.slice a6 A.T.length c6, .slice none 0 0, .int .i64 0, .int .i64 0, .int .i64 0, .int .i64 0] 34)) := (Below.refl _ _).alloc (Nat.le_refl _) _
        have g0 := (hbA.cell (p := ⟨wr.heap.size, 0, none⟩) hbx7).trans HD6.out.1
        have g1 := (hbA.cell (p := ⟨wr.heap.size, 1, none⟩) hbx7).trans HD6.out.2.1
        have g2 := (hbA.cell (p := ⟨wr.heap.size, 2, none⟩) hbx7).trans HD6.out.2.2.1
        have g3 := (hbA.cell (p := ⟨wr.heap.size, 3, none⟩) hbx7).trans HD6.out.2.2.2
        clear ho6 hl6 hp6 hb6 hbx6 hbx7 hK3 htw6 hsl6 hbA d0 d1 d2 d3 c0' c1' c2' c3'
        go_wp2_with fail
        refine HDn.out.mono ?_
        rintro e w7 ⟨⟨bb, rfl⟩, ht7, hc7⟩
        obtain ⟨A6, hA6⟩ : ∃ A6, A6 = A.op o := ⟨_, rfl⟩
        have HAA := hide hA6
        rw [← hA6] at ht7
        obtain ⟨f5, hf5⟩ : ∃ f5, f5 = f := ⟨_, rfl⟩
        rw [← hf5] at ht7 HSaid
        have HOe : Hid (f5.ops = f.ops) := hide (by rw [hf5])
        have HOp5 : Hid (0 ≤ f5.ops ∧ f5.ops ≤ ((n + 1 : Nat) : Int)) := hide (by have := HOp.out; rw [hf5]; simp; omega)
        have HRf5 : Hid (f5.refuse ≤ f5.ops + 1 ∧ f5.stop = 0) := hide (by have := HRf.out; rw [hf5]; exact ⟨by omega, this.2⟩)
        have HTw7 := hide ht7
        have HB7 : Hid (Below w.heap.size w w7) := hide (HB6.out.trans (hc7.below w.heap.size HB6.out.size (fun i hi h => h (HKw.out i hi))))
        have HSl7 : Hid (Sl w7 o.a o.cap o.b) := hide (HSl6.out.chg0 hc7 (fun hl x hx h => h (HSk7.out hl x hx)))
        have e0 := hc7.cell HD6.out.1 (fun h => h HKx.out)
        have e1 := hc7.cell HD6.out.2.1 (fun h => h HKx.out)
        have e2 := hc7.cell HD6.out.2.2.1 (fun h => h HKx.out)
        have e3 := hc7.cell HD6.out.2.2.2 (fun h => h HKx.out)
        have HG5 : Hid (Good A (n + 1)) := hide (HGd.out.more (Nat.le_succ n))
        have HG6 : Hid (Good A6 (n + 1)) := hide (by rw [hA6]; exact HGd.out.op o HLO.out.1.1)
        clear hA6 hf5 ht7 hc7 g0 g1 g2 g3 HD6 HDn HSl6 HB6
        go_wp2_with fail
        refine (ops_two w7 K3 F G f5 A A6 (n + 1) HTw7.out).mono ?_
        rintro e w8 ⟨rfl, rfl⟩
        have hwo : wrap64 (f5.ops + 1) = f5.ops + 1 := by have := HOp5.out; unfold wrap64; omega
        rcases HKd.out with h1 | h1 | h1 | h1
        · rw [h1] at e0
          have HEq : Hid (A = A6) := hide (by rw [HAA.out, op_eta A o 1 h1]; rfl)
          clear h1
          go_wp2_with fail
          refine (read_two w8 K3 F G f5 A A6 (n + 1) HTw7.out HG5.out (by omega) HOp5.out o.at_ o.n HLO.out.2.2.1 HLO.out.2.2.2.1).mono ?_
          rintro e w9 ⟨⟨v9, z9, rfl, hz9⟩, ⟨f9, ht9, e91, e92, e93⟩, hc9⟩
          have hzb : (z9 == 5) = false := by have h5 : z9 ≠ 5 := (fun e => by have := hz9.1 e; rw [HSaid.out] at this; exact absurd this (by decide)); simpa using h5
          have HT9 := hide ht9
          have HE9 := hide (And.intro e91 (And.intro e92 e93))
          have HB9 : Hid (Below w.heap.size w w9) := hide (HB7.out.trans (hc9.below w.heap.size HB7.out.size (fun i hi h => h (HKw.out i hi))))
          clear ht9 e91 e92 e93 hc9 hz9
          go_wp2_with fail
          refine (ops_two w9 K3 F G f9 _ A6 (n + 1) HT9.out).mono ?_
          rintro e w10 ⟨rfl, rfl⟩
          rw [HE9.out.1]
          go_wp2_with fail
          have ht10 := HT9.out
          rw [HEq.out] at ht10
          refine ⟨⟨k + 1, n + 1, A6, f9, by omega, by go_num, by omega, ht10.mono (fun q hq => HKw.out q hq) (Nat.le_refl _), HG6.out, ?_, ?_, HB9.out⟩, ?_⟩
          · have h1 := HE9.out.1; have h2 := HOp5.out; have h3 := HOp.out; have h4 := HOe.out; omega
          · have h1 := HE9.out; have h2 := HRf5.out; omega
          · simp [intOf]; omega
        · rw [h1] at e0
          have HEq : Hid ((if f5.said = 5 then A else A.op ⟨2, o.at_, o.n, o.a, o.cap, o.b⟩) = A6) := hide (by rw [if_neg (by rw [HSaid.out]; decide), HAA.out, op_eta A o 2 h1])
          clear h1
          go_wp2_with fail
          refine (write_two w8 K3 F G f5 A A6 (n + 1) HTw7.out HG5.out (by omega) HOp5.out o.at_ o.n o.a o.cap o.b HSl7.out.lies HLO.out.1.1 HSk7.out HLO.out.2.2.1).mono ?_
          rintro e w9 ⟨⟨z9, rfl, hz9⟩, ⟨f9, ht9, e91, e92, e93⟩, hc9⟩
          have hzb : (z9 == 5) = false := by have h5 : z9 ≠ 5 := (fun e => by have := hz9.1 e; rw [HSaid.out] at this; exact absurd this (by decide)); simpa using h5
          have HT9 := hide ht9
          have HE9 := hide (And.intro e91 (And.intro e92 e93))
          have HB9 : Hid (Below w.heap.size w w9) := hide (HB7.out.trans (hc9.below w.heap.size HB7.out.size (fun i hi h => h (HKw.out i hi))))
          clear ht9 e91 e92 e93 hc9 hz9
          go_wp2_with fail
          refine (ops_two w9 K3 F G f9 _ A6 (n + 1) HT9.out).mono ?_
          rintro e w10 ⟨rfl, rfl⟩
          rw [HE9.out.1]
          go_wp2_with fail
          have ht10 := HT9.out
          rw [HEq.out] at ht10
          refine ⟨⟨k + 1, n + 1, A6, f9, by omega, by go_num, by omega, ht10.mono (fun q hq => HKw.out q hq) (Nat.le_refl _), HG6.out, ?_, ?_, HB9.out⟩, ?_⟩
          · have h1 := HE9.out.1; have h2 := HOp5.out; have h3 := HOp.out; have h4 := HOe.out; omega
          · have h1 := HE9.out; have h2 := HRf5.out; omega
          · simp [intOf]; omega
        · rw [h1] at e0
          have HEq : Hid ((if f5.said = 5 then A else A.op ⟨3, o.at_, o.n, o.a, o.cap, o.b⟩) = A6) := hide (by rw [if_neg (by rw [HSaid.out]; decide), HAA.out, op_eta A o 3 h1])
          clear h1
          go_wp2_with fail
          refine (trunc_two w8 K3 F G f5 A A6 (n + 1) HTw7.out HG5.out (by omega) HOp5.out o.at_ o.n o.a o.cap o.b).mono ?_
          rintro e w9 ⟨⟨z9, rfl, hz9⟩, ⟨f9, ht9, e91, e92, e93⟩, hc9⟩
          have hzb : (z9 == 5) = false := by have h5 : z9 ≠ 5 := (fun e => by have := hz9.1 e; rw [HSaid.out] at this; exact absurd this (by decide)); simpa using h5
          have HT9 := hide ht9
          have HE9 := hide (And.intro e91 (And.intro e92 e93))
          have HB9 : Hid (Below w.heap.size w w9) := hide (HB7.out.trans (hc9.below w.heap.size HB7.out.size (fun i hi h => h (HKw.out i hi))))
          clear ht9 e91 e92 e93 hc9 hz9
          go_wp2_with fail
          refine (ops_two w9 K3 F G f9 _ A6 (n + 1) HT9.out).mono ?_
          rintro e w10 ⟨rfl, rfl⟩
          rw [HE9.out.1]
          go_wp2_with fail
          have ht10 := HT9.out
          rw [HEq.out] at ht10
          refine ⟨⟨k + 1, n + 1, A6, f9, by omega, by go_num, by omega, ht10.mono (fun q hq => HKw.out q hq) (Nat.le_refl _), HG6.out, ?_, ?_, HB9.out⟩, ?_⟩
          · have h1 := HE9.out.1; have h2 := HOp5.out; have h3 := HOp.out; have h4 := HOe.out; omega
          · have h1 := HE9.out; have h2 := HRf5.out; omega
          · simp [intOf]; omega
        · rw [h1] at e0
          have HEq : Hid ((if f5.said = 5 then A else A.op ⟨4, o.at_, o.n, o.a, o.cap, o.b⟩) = A6) := hide (by rw [if_neg (by rw [HSaid.out]; decide), HAA.out, op_eta A o 4 h1])
          clear h1
          go_wp2_with fail
          refine (flush_two w8 K3 F G f5 A A6 (n + 1) HTw7.out HG5.out (by omega) HOp5.out o.at_ o.n o.a o.cap o.b).mono ?_
          rintro e w9 ⟨⟨z9, rfl, hz9⟩, ⟨f9, ht9, e91, e92, e93⟩, hc9⟩
          have hzb : (z9 == 5) = false := by have h5 : z9 ≠ 5 := (fun e => by have := hz9.1 e; rw [HSaid.out] at this; exact absurd this (by decide)); simpa using h5
          have HT9 := hide ht9
          have HE9 := hide (And.intro e91 (And.intro e92 e93))
          have HB9 : Hid (Below w.heap.size w w9) := hide (HB7.out.trans (hc9.below w.heap.size HB7.out.size (fun i hi h => h (HKw.out i hi))))
          clear ht9 e91 e92 e93 hc9 hz9
          go_wp2_with fail
          refine (ops_two w9 K3 F G f9 _ A6 (n + 1) HT9.out).mono ?_
          rintro e w10 ⟨rfl, rfl⟩
          rw [HE9.out.1]
          go_wp2_with fail
          have ht10 := HT9.out
          rw [HEq.out] at ht10
          refine ⟨⟨k + 1, n + 1, A6, f9, by omega, by go_num, by omega, ht10.mono (fun q hq => HKw.out q hq) (Nat.le_refl _), HG6.out, ?_, ?_, HB9.out⟩, ?_⟩
          · have h1 := HE9.out.1; have h2 := HOp5.out; have h3 := HOp.out; have h4 := HOe.out; omega
          · have h1 := HE9.out; have h2 := HRf5.out; omega
          · simp [intOf]; omega
    · obtain rfl : k = L.length := by omega
      go_wp2_with fail
      obtain ⟨Xf, hh⟩ := HTw.out.fst
      refine (has_bytes wr Xf F f A n hh HGd.out).mono ?_
      clear hh
      rintro e w5 ⟨v5, rfl, ho5, hb5⟩
      obtain ⟨a5, c5, rfl, hl5, _⟩ := own_place ho5
      have HL5 := hide hl5
      have HB5 := hide hb5
      clear ho5 hb5 hl5
      obtain ⟨Xg, fg, hh⟩ := HTw.out.snd
      have HHg := hide hh
      clear hh
      go_wp2_with fail
      refine (has_bytes w5 Xg G fg A n (HHg.out.below HB5.out) HGd.out).mono ?_
      rintro e w6 ⟨v6, rfl, ho6, hb6⟩
      obtain ⟨a6, c6, rfl, hl6, _⟩ := own_place ho6
      have HB6 := hide (HB5.out.trans (hb6.mono HB5.out.size))
      have HC6 := hide (same_self a5 a6 c5 c6 A.S w6 (HL5.out.below hb6) hl6)
      clear ho6 hb6 hl6
      go_wp2_with fail
      refine HC6.out.mono ?_
      rintro e w7 ⟨rfl, rfl⟩
      obtain ⟨Xf, hh⟩ := HTw.out.fst
      have HHf := hide hh
      clear hh
      go_wp2_with fail
      refine (has_crash w7 Xf F f A n (HHf.out.below HB6.out) HGd.out (by omega)).mono ?_
      rintro e w8 ⟨v8, rfl, ho8, hb8⟩
      obtain ⟨a8, c8, rfl, hl8, _⟩ := own_place ho8
      have HB8 := hide (HB6.out.trans (hb8.mono HB6.out.size))
      have HL8 := hide hl8
      clear ho8 hb8 hl8
      go_wp2_with fail
      refine (has_crash w8 Xg G fg A n (HHg.out.below HB8.out) HGd.out (by omega)).mono ?_
      rintro e w9 ⟨v9, rfl, ho9, hb9⟩
      obtain ⟨a9, c9, rfl, hl9, _⟩ := own_place ho9
      have HB9 := hide (HB8.out.trans (hb9.mono HB8.out.size))
      have HC9 := hide (same_self a8 a9 c8 c9 A.T w9 (HL8.out.below hb9) hl9)
      clear ho9 hb9 hl9
      go_wp2_with fail
      refine HC9.out.mono ?_
      rintro e w10 ⟨rfl, rfl⟩
      go_wp2_with fail
      refine (has_waiting w10 Xf F f A (HHf.out.below HB9.out)).mono ?_
      rintro e w11 ⟨rfl, rfl⟩
      go_wp2_with fail
      refine (has_waiting w11 Xg G fg A (HHg.out.below HB9.out)).mono ?_
      rintro e w12 ⟨rfl, rfl⟩
      go_wp2_with fail
      refine (has_wrote w12 Xf F f A (HHf.out.below HB9.out)).mono ?_
      rintro e w13 ⟨rfl, rfl⟩
      go_wp2_with fail
      refine (has_wrote w13 Xg G fg A (HHg.out.below HB9.out)).mono ?_
      rintro e w14 ⟨rfl, rfl⟩
      go_wp2_with fail
      go_ret
      exact ⟨rfl, HBel.out.trans (HB9.out.mono HBel.out.size)⟩

set_option maxRecDepth 100000 in
theorem diskRefuses_lifted (os : Os) (started : os.Started) (H : Type) (enc : TypeId × Value → H) :
    ReturnsInHanded {} Try.checked os 7 .any (Rows.diskRefusesSpec.pre6 enc Try.prog Try.f7 Rows.diskRefusesRow.domain false) (Rows.diskRefusesSpec.post enc Try.prog Try.f7 false true false false) := by
  refine returnsInHanded_of_change (C := Try.checked) own started (by kernel_rfl) Try.func7
    (ChangeSpec.witness6 (enc := enc) (C := Try.checked) false ⟨#[], #[.slice none 0 0, .slice none 0 0, .int .i64 0], []⟩ 8 (by kernel_rfl) (by kernel_rfl) (by kernel_rfl) (by kernel_rfl)) ?_
  intro W base args ds gs before hval0 hW _ _
  have hval : ∀ (j : Nat) t v, Try.f7.params[j]? = some t → args[j]? = some v → Value.okWide Try.prog W .any base t v := hval0
  have hW' := hW
  obtain ⟨p, q, hA0, hV, rfl, hfz, hnd⟩ := hW
  have hA : DataW.TrodAll enc Try.prog W 0 (fun _ => true) true Try.f7.params.toList args.toList ds p := hA0
  rw [Try.params7] at hA hval
  obtain ⟨v0, vs0, d0, ds0, p0, q0, hargs0, rfl, rfl, h0, r0⟩ := trodAll_cons hA
  obtain ⟨v1, vs1, d1, ds1, p1, q1, hargs1, rfl, rfl, h1, r1⟩ := trodAll_cons r0
  obtain ⟨v2, vs2, d2, ds2, p2, q2, hargs2, rfl, rfl, h2, r2⟩ := trodAll_cons r1
  obtain ⟨rfl, rfl, rfl⟩ := trodAll_nil r2
  subst hargs2
  subst hargs1
  obtain rfl : args = #[v0, v1, v2] := by cases args; simp_all
  obtain ⟨rfl, rfl⟩ := trodVars_none hV
  simp only [List.append_nil] at hW'
  have hlt0 : ∀ x ∈ p0, x.block < W.heap.size := fun x hx => by simpa using hW'.lt x (by simp [hx])
  have hlt1 : ∀ x ∈ p1, x.block < W.heap.size := fun x hx => by simpa using hW'.lt x (by simp [hx])
  obtain ⟨a0, cap0, l0, rfl, hn0, hb0, hl0, hs0⟩ := open_bytes (hval 0 22 v0 rfl rfl) h0
  obtain ⟨a1, cap1, l1, rfl, hn1, hf1, ho1⟩ := open_ops (hval 1 23 v1 rfl rfl) h1
  obtain ⟨x2, rfl, rfl, rfl, w2⟩ := open_int Try.underlying3 (hval 2 3 v2 rfl rfl) h2
  clear hA0
  refine (refuses_walk a0 cap0 l0 a1 cap1 l1 x2 W hl0 ho1 hf1).mono fun e W' ⟨he, hb⟩ => ?_
  subst he
  refine ⟨_, rfl, _, _, _, [], (p0 ++ (p1 ++ ([] ++ []))), [], hW', ?_, ?_, rfl, hb.frame _, fun h => by cases h⟩
  · exact trodAll_cons_mk (shut_bool Try.underlying4 _) trodAll_mk0
  · exact trodAll_cons_mk (Below.trod laidOut (by kernel_rfl) (of_decide_eq_true (by kernel_rfl)) h0 hb hlt0) (trodAll_cons_mk (Below.trod laidOut (by kernel_rfl) (of_decide_eq_true (by kernel_rfl)) h1 hb hlt1) (trodAll_cons_mk (shut_int Try.underlying3 w2) (trodAll_mk0)))

theorem diskRefuses_holds : Rows.DiskRefusesSaid :=
  OpenClaim.holds_of_wide 7 Try.f7 rfl rfl rfl rfl rfl rfl rfl ⟨rfl, rfl, rfl, rfl, rfl⟩ rfl rfl rfl rfl rfl (by kernel_rfl) Try.func7 (by kernel_rfl)
    (of_decide_eq_true (by kernel_rfl)) (by unfold Func.isWrapper; first | (rw [if_pos (by decide +kernel)]; kernel_rfl) | (rw [if_neg (by decide +kernel)]; exact ⟨rfl, rfl⟩))
    (fun os started H enc _ => diskRefuses_lifted os started H enc)

end Go.Proofs.Ytnhbncbiflnapaa.Oct
