/- JournalCrashes: the law's own walk. -/
import Derived.Test.YtifngegkijdbmaaJxg
namespace Go.Proofs.Ytifngegkijdbmaa.Oct
open Go.RowKit Go.Deep Go.WideShapes Go.ChangeShapes Go.ChangeAt

/-- What came in, and lies where it lay. -/
structure Inn (w : World) (N : Nat) (x : CaseV) (o1 : Int) (a1 : Option Addr) (c1 : Nat) (k1 : List Bool) (o2 : Int) (a2 : Option Addr) (c2 : Nat) (k2 : List Bool) : Prop where
  lf : Sl w x.fa x.fc x.fl
  lR : LiesJ w x.ra x.R
  lk1 : LiesB w a1 k1
  lk2 : LiesB w a2 k2
  b0 : Blk w N x.cells 25
  b1 : Blk w (N + 1) #[.int .i64 o1, .slice a1 k1.length c1] 28
  b2 : Blk w (N + 1 + 1) #[.int .i64 o2, .slice a2 k2.length c2] 28

theorem LiesJ.belowJ {w w' : World} {a : Option Addr} {R : List JR} (h : LiesJ w a R) (hb : Below w.heap.size w w') : LiesJ w' a R := h.below hb

theorem Inn.below {w w' : World} {N : Nat} {x : CaseV} {o1 : Int} {a1 : Option Addr} {c1 : Nat} {k1 : List Bool} {o2 : Int} {a2 : Option Addr} {c2 : Nat} {k2 : List Bool} (h : Inn w N x o1 a1 c1 k1 o2 a2 c2 k2) (hb : Below w.heap.size w w') : Inn w' N x o1 a1 c1 k1 o2 a2 c2 k2 :=
  ⟨h.lf.below hb, h.lR.below hb, h.lk1.below hb, h.lk2.below hb, h.b0.below hb, h.b1.below hb, h.b2.below hb⟩

theorem Inn.new {w : World} {x : CaseV} {o1 : Int} {a1 : Option Addr} {c1 : Nat} {k1 : List Bool} {o2 : Int} {a2 : Option Addr} {c2 : Nat} {k2 : List Bool} (h1 : Sl w x.fa x.fc x.fl) (h2 : LiesJ w x.ra x.R) (h3 : LiesB w a1 k1) (h4 : LiesB w a2 k2) :
    Inn (((w.alloc (.cells x.cells 25)).alloc (.cells #[.int .i64 o1, .slice a1 k1.length c1] 28)).alloc (.cells #[.int .i64 o2, .slice a2 k2.length c2] 28)) w.heap.size x o1 a1 c1 k1 o2 a2 c2 k2 ∧
    Below w.heap.size w (((w.alloc (.cells x.cells 25)).alloc (.cells #[.int .i64 o1, .slice a1 k1.length c1] 28)).alloc (.cells #[.int .i64 o2, .slice a2 k2.length c2] 28)) := by
  have hb1 := (Below.refl w.heap.size w).alloc (Nat.le_refl _) (.cells x.cells 25)
  have hx := Blk.new w x.cells 25
  have hs1 : (w.alloc (.cells x.cells 25)).heap.size = w.heap.size + 1 := by simp
  generalize w.alloc (.cells x.cells 25) = w1 at *
  have hb2 := (Below.refl w1.heap.size w1).alloc (Nat.le_refl _) (.cells #[.int .i64 o1, .slice a1 k1.length c1] 28)
  have hy := Blk.new w1 #[.int .i64 o1, .slice a1 k1.length c1] 28
  have hs2 : (w1.alloc (.cells #[.int .i64 o1, .slice a1 k1.length c1] 28)).heap.size = w1.heap.size + 1 := by simp
  generalize w1.alloc (.cells #[.int .i64 o1, .slice a1 k1.length c1] 28) = w2 at *
  have hb3 := (Below.refl w2.heap.size w2).alloc (Nat.le_refl _) (.cells #[.int .i64 o2, .slice a2 k2.length c2] 28)
  have hz := Blk.new w2 #[.int .i64 o2, .slice a2 k2.length c2] 28
  generalize w2.alloc (.cells #[.int .i64 o2, .slice a2 k2.length c2] 28) = w3 at *
  have hb13 := (hb1.trans (hb2.mono hb1.size)).trans (hb3.mono (Nat.le_trans hb1.size hb2.size))
  refine ⟨⟨h1.below hb13, h2.below hb13, h3.below hb13, h4.below hb13, (hx.below hb2).below hb3, ?_, ?_⟩, hb13⟩
  · rw [← hs1]; exact hy.below hb3
  · rw [show w.heap.size + 1 + 1 = w2.heap.size by omega]; exact hz

theorem Inn.c0 {w : World} {N : Nat} {x : CaseV} {o1 : Int} {a1 : Option Addr} {c1 : Nat} {k1 : List Bool} {o2 : Int} {a2 : Option Addr} {c2 : Nat} {k2 : List Bool} (h : Inn w N x o1 a1 c1 k1 o2 a2 c2 k2) :
    w.cell? ⟨N, 0, none⟩ = some (.int .i64 x.s0) ∧ w.cell? ⟨N, 1, none⟩ = some (.slice x.fa x.fl.length x.fc) ∧ w.cell? ⟨N, 2, none⟩ = some (.int .i64 x.s2) ∧ w.cell? ⟨N, 3, none⟩ = some (.int .i64 x.s3) ∧ w.cell? ⟨N, 4, none⟩ = some (.slice x.ra x.R.length x.rc) :=
  ⟨h.b0.cell 0 _ rfl, h.b0.cell 1 _ rfl, h.b0.cell 2 _ rfl, h.b0.cell 3 _ rfl, h.b0.cell 4 _ rfl⟩

theorem Inn.cc {w : World} {N : Nat} {x : CaseV} {o1 : Int} {a1 : Option Addr} {c1 : Nat} {k1 : List Bool} {o2 : Int} {a2 : Option Addr} {c2 : Nat} {k2 : List Bool} (h : Inn w N x o1 a1 c1 k1 o2 a2 c2 k2) :
    w.cell? ⟨N + 1, 0, none⟩ = some (.int .i64 o1) ∧ w.cell? ⟨N + 1, 1, none⟩ = some (.slice a1 k1.length c1) ∧ w.cell? ⟨N + 1 + 1, 0, none⟩ = some (.int .i64 o2) ∧ w.cell? ⟨N + 1 + 1, 1, none⟩ = some (.slice a2 k2.length c2) :=
  ⟨h.b1.cell 0 _ rfl, h.b1.cell 1 _ rfl, h.b2.cell 0 _ rfl, h.b2.cell 1 _ rfl⟩

set_option maxRecDepth 100000 in
set_option maxHeartbeats 8000000 in
theorem crashes_walk (x : CaseV) (o1 : Int) (a1 : Option Addr) (c1 : Nat) (k1 : List Bool) (o2 : Int) (a2 : Option Addr) (c2 : Nat) (k2 : List Bool) (w : World)
    (hfl : Sl w x.fa x.fc x.fl) (hfb : Byts x.fl) (hR : LiesJ w x.ra x.R) (hRf : ∀ r ∈ x.R, r.fit) (hk1 : LiesB w a1 k1) (hk2 : LiesB w a2 k2) (hlf : x.fl.length ≤ 100000000) (hlR : x.R.length ≤ 10000000) (hlD : lenD (x.R.map JR.dat) ≤ 100000000) :
    Calls Try.prog 3 #[.agg x.cells, .agg #[.int .i64 o1, .slice a1 k1.length c1], .agg #[.int .i64 o2, .slice a2 k2.length c2]] w fun e w' => e = .returned (.bool true) ∧ Below w.heap.size w w' := by
  obtain ⟨hi, hb⟩ := Inn.new (x := x) (o1 := o1) (c1 := c1) (o2 := o2) (c2 := c2) hfl hR hk1 hk2
  have HFb := hide hfb
  have HRf := hide hRf
  have HBx := hide hb
  have HI := hide hi
  obtain ⟨q0, q1, q2, q3, q4⟩ := hi.c0
  clear hfb hRf hb hi hfl hR hk1 hk2
  obtain ⟨N, hN⟩ : ∃ N, N = w.heap.size := ⟨_, rfl⟩
  go_enter Try.func3, Try.ntmps3
  go_wp2_with fail
  clear q0 q1 q2 q3 q4
  rw [← hN] at HI ⊢
  generalize (((w.alloc (.cells x.cells 25)).alloc (.cells #[.int .i64 o1, .slice a1 k1.length c1] 28)).alloc (.cells #[.int .i64 o2, .slice a2 k2.length c2] 28)) = w1 at *
  have HNw := hide hN
  clear hN
  refine (file_any x.s0 x.fa x.fc x.fl x.s2 x.s3 x.ra x.rc x.R w1 HI.out.lf HFb.out HI.out.lR hlf (by omega)).mono ?_
  rintro e9 w2 ⟨hb2, hcase⟩
  have HI2 := hide (HI.out.below hb2)
  have HB2 := hide (HBx.out.trans (hb2.mono HBx.out.size))
  clear HI HBx hb2
  rcases hcase with rfl | ⟨v, B, p, s, rfl, hoB, hByB, hlB, hp, hs, hs2, hps, h0, hR12, hRr⟩
  · obtain ⟨q0, q1, q2, q3, q4⟩ := HI2.out.c0
    go_wp2_with fail
    clear q0 q1 q2 q3 q4
    refine (recs_any x.ra x.rc x.R 0 0 w2 HI2.out.lR hlR hlD (by omega) (by omega) HRf.out).mono ?_
    rintro e9 w3 ⟨v3, rfl, _, hb3⟩
    have HB3 := hide (HB2.out.trans (hb3.mono HB2.out.size))
    clear hb3 HB2
    generalize List.all x.R (mayR 0 0) = d1
    generalize decide ((lenD (x.R.map JR.dat) : Int) ≤ ((0 : Nat) : Int) - 512) = d2
    go_wp2_with fail
    refine (begun5_any _).mono ?_
    rintro e9 w5 ⟨rfl, hb5⟩
    have HB5 := hide (HB3.out.trans (hb5.mono HB3.out.size))
    clear hb5
    go_wp2_with fail
    go_ret
    exact ⟨rfl, HB5.out⟩
  · obtain ⟨q0, q1, q2, q3, q4⟩ := HI2.out.c0
    have HoB := hide hoB
    have HBy := hide hByB
    have HH := hide (And.intro hp (And.intro hs (And.intro h0 hRr)))
    clear hoB hByB hp hs h0 hRr
    go_wp2_with fail
    clear q0 q1 q2 q3 q4
    refine (recs_any x.ra x.rc x.R p s w2 HI2.out.lR hlR hlD (by omega) (by omega) HRf.out).mono ?_
    rintro e9 w3 ⟨v3, rfl, hQ3, hb3⟩
    have HI3 := hide (HI2.out.below hb3)
    have HoB3 := hide (HoB.out.below hb3)
    have HB3 := hide (HB2.out.trans (hb3.mono HB2.out.size))
    have HQ3 := hide hQ3
    clear hb3 HB2 HI2 HoB hQ3
    obtain ⟨z0, z1, z2, z3⟩ := HI3.out.cc
    by_cases hmay : List.all x.R (mayR p s) = true
    rotate_left
    · rw [Bool.not_eq_true] at hmay
      rw [hmay]
      clear z0 z1 z2 z3
      go_wp2_with fail
      refine (begun5_any _).mono ?_
      rintro e9 w5 ⟨rfl, hb5⟩
      have HB5 := hide (HB3.out.trans (hb5.mono HB3.out.size))
      clear hb5
      go_wp2_with fail
      go_ret
      exact ⟨rfl, HB5.out⟩
    by_cases hroom : (lenD (x.R.map JR.dat) : Int) ≤ (s : Int) - 512
    rotate_left
    · rw [hmay, decide_eq_false hroom]
      clear z0 z1 z2 z3
      go_wp2_with fail
      refine (begun5_any _).mono ?_
      rintro e9 w5 ⟨rfl, hb5⟩
      have HB5 := hide (HB3.out.trans (hb5.mono HB3.out.size))
      clear hb5
      go_wp2_with fail
      go_ret
      exact ⟨rfl, HB5.out⟩
    rw [hmay, decide_eq_true hroom]
    by_cases hc1 : 400 < k1.length
    · go_wp2_with fail
      refine (begun5_any _).mono ?_
      rintro e9 w5 ⟨rfl, hb5⟩
      have HB5 := hide (HB3.out.trans (hb5.mono HB3.out.size))
      clear hb5
      go_wp2_with fail
      go_ret
      exact ⟨rfl, HB5.out⟩
    by_cases hc2 : 400 < k2.length
    · go_wp2_with fail
      refine (begun5_any _).mono ?_
      rintro e9 w5 ⟨rfl, hb5⟩
      have HB5 := hide (HB3.out.trans (hb5.mono HB3.out.size))
      clear hb5
      go_wp2_with fail
      go_ret
      exact ⟨rfl, HB5.out⟩
    have hmayR : ∀ r ∈ x.R, 0 ≤ r.at_ ∧ r.at_ + r.b.length ≤ 4194304 ∧ (r.at_ + r.b.length ≤ p ∨ (p : Int) + s ≤ r.at_) := fun r hr => by
      have := List.all_eq_true.1 hmay r hr
      unfold mayR at this
      simp at this
      omega
    have hmD : MayD p (p + s) (x.R.map JR.dat) := fun r hr => by
      obtain ⟨r', hr', rfl⟩ := List.mem_map.1 hr
      have := hmayR r' hr'
      simp only [JR.dat]
      omega
    have HG : Hid (Giv B p (p + s) (x.R.map JR.dat)) := hide ⟨HH.out.1, by omega, by omega, hlB, by omega, hmD, HBy.out, fun r hr => by
      obtain ⟨r', hr', rfl⟩ := List.mem_map.1 hr
      exact (HRf.out r' hr').2, HH.out.2.2.1⟩
    have HBar : Hid (anyB p (p + s) x.R = false) := hide (by
      unfold anyB
      rw [List.any_eq_false]
      intro r hr
      have := hmayR r hr
      unfold barB
      simp
      omega)
    have HmR := hide hmayR
    have HL3 : Hid (lenD (x.R.map JR.dat) ≤ 100000) := hide (by omega)
    have HD12 : Hid ((x.R.map JR.dat).length ≤ 12) := hide (by simpa using hR12)
    clear hmayR hmD hmay hroom hlD
    obtain ⟨aB, cB, rfl, hslB, _⟩ := HoB3.out.sl
    obtain ⟨aQ, cQ, rfl, hlQ, _, _⟩ := HQ3.out.form
    have HSB := hide hslB
    have HlQ := hide hlQ
    clear hslB hlQ HoB3 HQ3
    go_wp2_with fail
    refine (open_r w3 w3 (Below.refl _ _) aB cB B HSB.out.lies (by omega) p s HH.out.1 HH.out.2.1 hs2 hps).mono ?_
    rintro e9 w4 ⟨F, J, rfl, hr4⟩
    have HR4 := hide hr4
    clear hr4
    go_wp2_with fail
    refine (begun5_any _).mono ?_
    rintro e9 w5 ⟨rfl, hb5⟩
    have HR5 := hide (HR4.out.below hb5)
    clear hb5 HR4
    obtain ⟨m1, hm1, e1a, _, _⟩ := mod_nat o1 30 (by omega) (by omega)
    obtain ⟨m2, hm2, e2a, _, _⟩ := mod_nat o2 30 (by omega) (by omega)
    have e1 : (IntKind.u64.wrap o1).tmod 30 = (m1 : Int) := e1a
    have HE2 : Hid ((IntKind.u64.wrap o2).tmod 30 = (m2 : Int)) := hide e2a
    clear e1a e2a z0 z1 z2 z3
    obtain ⟨z0, z1, z2, z3⟩ := (HI3.out.below HR5.out.bel).cc
    have HSt := hide (stop_r HR5.out (by omega) (1 + m1) (by omega) (by omega))
    rw [show ((1 + m1 : Nat) : Int) = 1 + (m1 : Int) by omega, show 1 + m1 - 1 = m1 by omega] at HSt
    clear HR5 z1 z2 z3
    go_wp2_with fail
    refine HSt.out.mono ?_
    rintro e9 w6 ⟨rfl, hr6⟩
    have HR6 := hide hr6
    have q4 := (HI3.out.below hr6.bel).c0.2.2.2.2
    clear hr6 HSt z0 e1
    have HCo := hide (commit_r HR6.out (by omega) (by omega) x.ra x.rc x.R HI3.out.lR HRf.out (by omega) HL3.out (by omega) HBar.out (by have := HG.out.room; omega))
    clear HR6 HBar
    go_wp2_with fail
    refine HCo.out.mono ?_
    rintro e9 w7 ⟨rfl, hr7⟩
    have hcost : costs (comO p 0 (x.R.map JR.dat)) ≤ 200000 := by
      have h1 := encD_length (x.R.map JR.dat)
      have h2 := signOf_len 0 (x.R.map JR.dat)
      have h3 := HL3.out
      simp [costs, comO, AO.cost]
      omega
    clear HCo q4
    have hmain : (¬ 4 ≤ m1 → ∀ kp, St B p (p + s) 0 (x.R.map JR.dat) (crashD (doAll ((comO p 0 (x.R.map JR.dat)).take m1) ⟨B, B, []⟩) kp)) := fun h kp => crash_com HG.out m1 h kp
    by_cases h4 : 4 ≤ m1
    · rw [cod_ok h4]
      rw [List.take_of_length_le (by simp [comO]; omega), com_state] at hr7
      have q4 := (HI3.out.below hr7.bel).c0.2.2.2.2
      have HAp := hide (apply_r hr7 (by omega) (by omega) x.ra x.rc x.R HI3.out.lR (fun r hr => ⟨(HmR.out r hr).1, (HmR.out r hr).2.1⟩) (by omega) HL3.out (by omega))
      clear hr7 hmain
      go_wp2_with fail
      refine HAp.out.mono ?_
      rintro e9 w8 ⟨rfl, hr8⟩
      have hcost2 : costs (appO p (x.R.map JR.dat)) ≤ 200000 := by
        have h3 := HL3.out
        have := recO_cost (x.R.map JR.dat)
        have e : costs ([.fl] ++ clrO p) = 515 := by
          unfold clrO
          simp [costs, AO.cost, Z512_len]
        unfold appO
        rw [costs_append]
        omega
      have HSt8 : Hid (∀ kp, St B p (p + s) 0 (x.R.map JR.dat) (crashD (doAll ((appO p (x.R.map JR.dat)).take (m1 - 4)) ⟨comS B p 0 (x.R.map JR.dat), comS B p 0 (x.R.map JR.dat), []⟩) kp)) := hide (fun kp => crash_both HG.out (m1 - 4) kp)
      clear HAp q4
      obtain ⟨A8, hA8⟩ : ∃ A, A = doAll ((appO p (x.R.map JR.dat)).take (m1 - 4)) ⟨comS B p 0 (x.R.map JR.dat), comS B p 0 (x.R.map JR.dat), []⟩ := ⟨_, rfl⟩
      rw [← hA8] at HSt8 hr8
      obtain ⟨n8, hn8, hn8e⟩ : ∃ n, n ≤ 900000 ∧ n = 0 + costs (comO p 0 (x.R.map JR.dat)) + costs (appO p (x.R.map JR.dat)) := ⟨_, by omega, rfl⟩
      rw [← hn8e] at hr8
      clear hA8 hn8e hcost hcost2
      have hn8 : Hid (n8 ≤ 900000) := hide hn8
      have HR8 := hide hr8
      clear hr8
      obtain ⟨z0, z1, z2, z3⟩ := (HI3.out.below HR8.out.bel).cc
      clear z0 z2 z3
      go_wp2_with fail
      refine (crash_r HR8.out hn8.out a1 c1 k1 HI3.out.lk1).mono ?_
      rintro e9 w9 ⟨v9, rfl, ho9, hb9⟩
      have hS1 := HSt8.out k1
      obtain ⟨a9, c9, rfl, hl9, _⟩ := ho9.form
      clear ho9 HSt8 HR8 hn8 z1
      generalize crashD A8 k1 = S1 at *
      obtain ⟨y1, y2, _⟩ := hS1.says HG.out
      have HS1 := hide hS1
      have HO9 := hide (open_r w3 w9 hb9 a9 c9 S1 hl9 y2 p s HH.out.1 HH.out.2.1 hs2 y1)
      clear hS1 hb9 hl9 y1 y2
      go_wp2_with fail
      refine HO9.out.mono ?_
      rintro e9 w10 ⟨F2, J2, rfl, hr10⟩
      obtain ⟨z0, z1, z2, z3⟩ := (HI3.out.below hr10.bel).cc
      have HSt := hide (stop_r hr10 (by omega) (1 + m2) (by omega) (by omega))
      rw [show ((1 + m2 : Nat) : Int) = 1 + (m2 : Int) by omega, show 1 + m2 - 1 = m2 by omega] at HSt
      have e2 := HE2.out
      clear hr10 HO9 z0 z1 z3
      go_wp2_with fail
      refine HSt.out.mono ?_
      rintro e9 w11 ⟨rfl, hr11⟩
      have HRe := hide (replay_cut HG.out HS1.out hr11 (by omega) HL3.out)
      clear hr11 HSt e2 z2 HS1
      go_wp2_with fail
      refine HRe.out.mono ?_
      rintro e9 w12 ⟨i1, i2, rfl, A12, k12, n12, nu12, hr12, hn12, hst12⟩
      have HR12 := hide hr12
      have Hn12 := hide hn12
      have HSt12 := hide hst12
      obtain ⟨z0, z1, z2, z3⟩ := (HI3.out.below hr12.bel).cc
      clear hr12 HRe hn12 hst12 z0 z1 z2
      go_wp2_with fail
      refine (crash_r HR12.out Hn12.out a2 c2 k2 HI3.out.lk2).mono ?_
      rintro e9 w13 ⟨v13, rfl, ho13, hb13⟩
      have hS2 := HSt12.out k2
      obtain ⟨a13, c13, rfl, hl13, _⟩ := ho13.form
      clear ho13 HSt12 HR12 Hn12 z3
      generalize crashD A12 k2 = S2 at *
      obtain ⟨y1, y2, _⟩ := hS2.says HG.out
      have HS2 := hide hS2
      have HO13 := hide (open_r w3 w13 hb13 a13 c13 S2 hl13 y2 p s HH.out.1 HH.out.2.1 hs2 y1)
      clear hS2 hb13 hl13 y1 y2
      go_wp2_with fail
      refine HO13.out.mono ?_
      rintro e9 w14 ⟨F3, J3, rfl, hr14⟩
      have HRe := hide (replay_all HG.out HS2.out hr14 (by omega) (by omega) HL3.out HD12.out)
      clear hr14 HO13 HS2
      go_wp2_with fail
      refine HRe.out.mono ?_
      rintro e9 w15 ⟨j1, rfl, _, S3, k15, n15, nu15, hr15, hk15, hn15, hs15, hp15⟩
      have HRf2 := hide (replay_all HG.out hs15 hr15 (by omega) (by omega) HL3.out HD12.out)
      have HP15 := hide hp15
      clear hr15 HRe hk15 hn15 hs15 hp15
      go_wp2_with fail
      refine HRf2.out.mono ?_
      rintro e9 w16 ⟨j2, rfl, hj2, S4, k16, n16, nu16, hr16, hk16, hn16, hs16, hp16⟩
      obtain rfl := hj2 HP15.out
      have HBs := hide (bytes_r hr16)
      have HF4 := hide (hs16.fin HG.out hp16)
      have HBy4 := hide (hs16.says HG.out).2.2.1
      clear hr16 HRf2 hk16 hn16 hs16 hp16 hj2 HP15
      go_wp2_with fail
      refine HBs.out.mono ?_
      rintro e9 w17 ⟨v17, rfl, ho17, hb17⟩
      have ho17 : Own w17 w16.heap.size v17 S4 := ho17
      obtain ⟨a17, c17, rfl, hl17, _⟩ := ho17.sl
      have HS17 := hide hl17
      have HB17 := hide hb17
      clear ho17 hl17 hb17 HBs
      go_wp2_with fail
      refine (Zeros_any s _ (by omega)).mono ?_
      rintro e9 w18 ⟨v18, rfl, ho18, hb18⟩
      obtain ⟨Z, hZ⟩ : ∃ Z : List Int, Z = List.replicate s 0 := ⟨_, rfl⟩
      obtain ⟨hZl, hZl2⟩ : Z.length ≤ s ∧ s ≤ Z.length := by rw [hZ, List.length_replicate]; omega
      have HZb : Hid (Byts Z) := hide (by rw [hZ]; exact zeros_byts s)
      obtain ⟨u1, u2, u3⟩ := fin_over HG.out HF4.out
      rw [← hZ] at u3 ho18
      have hend : endD (x.R.map JR.dat) ≤ 32000 := endD_le (fun r hr => by
        obtain ⟨r', hr', rfl⟩ := List.mem_map.1 hr
        have h1 := HmR.out r' hr'
        have h2 := HH.out.2.2.2 r' hr'
        simp only [JR.dat]
        omega)
      have HU3 := hide u3
      obtain ⟨a18, c18, rfl, hl18, _⟩ := ho18.sl
      have HZs := hide hl18
      have HB18 := hide (HB17.out.trans (hb18.mono HB17.out.size))
      have HS18 := hide (HS17.out.below hb18)
      clear ho18 hl18 hb18 HS17 HB17 u3 hZ
      have HW1 := hide (With_any aB cB B a18 c18 Z p w18 (by omega) (by omega) (by omega) (HSB.out.below HB18.out) HZs.out)
      go_wp2_with fail
      refine HW1.out.mono ?_
      rintro e9 w19 ⟨v19, rfl, ho19, hb19⟩
      obtain ⟨ho19l, ho19m⟩ : (over B p Z).length ≤ B.length ∧ B.length ≤ (over B p Z).length := by rw [over_length (by omega)]; omega
      have HO19b : Hid (Byts (over B p Z)) := hide (over_byts (by omega) HBy.out HZb.out)
      generalize over B p Z = old at *
      obtain ⟨a19, c19, rfl, hl19, _⟩ := ho19.sl
      have HB19 := hide (HB18.out.trans (hb19.mono HB18.out.size))
      have HS19 := hide (HS18.out.below hb19)
      have HZ19 := hide (HZs.out.below hb19)
      have HN19 := hide hl19
      clear ho19 hl19 hb19 HS18 HB18 HZs HW1
      have HD := hide (Done_any aB cB B aQ cQ x.R p w19 (HSB.out.below HB19.out) (HlQ.out.below HB19.out) hlB (by omega) (by omega) (fun r hr => by
        have h1 := HmR.out r hr
        have h2 := HH.out.2.2.2 r hr
        omega))
      go_wp2_with fail
      refine HD.out.mono ?_
      rintro e9 w20 ⟨v20, rfl, ho20, hb20⟩
      obtain ⟨hap, hap2⟩ : (appS B p (x.R.map JR.dat)).length ≤ 40000 ∧ B.length ≤ (appS B p (x.R.map JR.dat)).length := by rw [appS_len (by omega)]; omega
      have HapB : Hid (Byts (appS B p (x.R.map JR.dat))) := hide (appS_byts HBy.out HG.out.byD)
      generalize appS B p (x.R.map JR.dat) = ap at *
      obtain ⟨a20, c20, rfl, hl20, _⟩ := ho20.sl
      have HB20 := hide (HB19.out.trans (hb20.mono HB19.out.size))
      have HS20 := hide (HS19.out.below hb20)
      have HZ20 := hide (HZ19.out.below hb20)
      have HN20 := hide (HN19.out.below hb20)
      have HA20 := hide hl20
      clear ho20 hl20 hb20 HS19 HB19 HZ19 HN19 HD
      have HW2 := hide (With_any a20 c20 ap a18 c18 Z p w20 (by omega) (by omega) (by omega) HA20.out HZ20.out)
      go_wp2_with fail
      refine HW2.out.mono ?_
      rintro e9 w21 ⟨v21, rfl, ho21, hb21⟩
      have HnewB : Hid (Byts (over ap p Z)) := hide (over_byts (by omega) HapB.out HZb.out)
      generalize over ap p Z = new1 at *
      obtain ⟨a21, c21, rfl, hl21, _⟩ := ho21.sl
      have HB21 := hide (HB20.out.trans (hb21.mono HB20.out.size))
      have HS21 := hide (HS20.out.below hb21)
      have HZ21 := hide (HZ20.out.below hb21)
      have HN21 := hide (HN20.out.below hb21)
      have HM21 := hide hl21
      clear ho21 hl21 hb21 HS20 HB20 HZ20 HN20 HA20 HW2
      have hnl : ¬ S4.length < old.length := by omega
      have HW3 := hide (With_any a17 c17 S4 a18 c18 Z p w21 (by omega) (by omega) (by omega) HS21.out HZ21.out)
      have HrB : Hid (Byts (over S4 p Z)) := hide (over_byts (by omega) HBy4.out HZb.out)
      clear u1 u2 hap hap2 ho19l ho19m hZl hZl2 hend
      go_wp2_with fail
      refine HW3.out.mono ?_
      rintro e9 w22 ⟨v22, rfl, ho22, hb22⟩
      generalize over S4 p Z = rest at *
      obtain ⟨a22, c22, rfl, hl22, _⟩ := ho22.sl
      have HB22 := hide (HB21.out.trans (hb22.mono HB21.out.size))
      have HN22 := hide (HN21.out.below hb22)
      have HM22 := hide (HM21.out.below hb22)
      have HT22 := hide hl22
      clear ho22 hl22 hb22 HS21 HB21 HZ21 HN21 HM21 HW3
      have HE1 := hide (Same_any a22 a19 c22 c19 rest old w22 HT22.out.lies HN22.out.lies HrB.out HO19b.out)
      have HE2' := hide (Same_any a22 a21 c22 c21 rest new1 w22 HT22.out.lies HM22.out.lies HrB.out HnewB.out)
      by_cases hq1 : rest = old
      · rw [decide_eq_true hq1] at HE1
        have HQ1 := hide hq1
        clear hq1 HE2'
        go_wp2_with fail
        refine HE1.out.mono ?_
        rintro e9 w23 ⟨rfl, hw23⟩
        rw [hw23]
        clear hw23
        go_wp2_with fail
        go_ret
        exact ⟨rfl, HB3.out.trans (HB22.out.mono HB3.out.size)⟩
      · rw [decide_eq_false hq1] at HE1
        rw [decide_eq_true (HU3.out.resolve_left hq1)] at HE2'
        have HQ1 := hide hq1
        clear hq1
        go_wp2_with fail
        refine HE1.out.mono ?_
        rintro e9 w23 ⟨rfl, hw23⟩
        rw [hw23]
        clear hw23
        go_wp2_with fail
        refine HE2'.out.mono ?_
        rintro e9 w24 ⟨rfl, hw24⟩
        rw [hw24]
        clear hw24
        go_wp2_with fail
        go_ret
        exact ⟨rfl, HB3.out.trans (HB22.out.mono HB3.out.size)⟩
    · rw [cod_no h4]
      have hr8 := hr7
      have HSt8 := hide (hmain h4)
      obtain ⟨A8, hA8⟩ : ∃ A, A = doAll ((comO p 0 (x.R.map JR.dat)).take m1) ⟨B, B, []⟩ := ⟨_, rfl⟩
      rw [← hA8] at HSt8 hr8
      obtain ⟨n8, hn8, hn8e⟩ : ∃ n, n ≤ 900000 ∧ n = 0 + costs (comO p 0 (x.R.map JR.dat)) := ⟨_, by omega, rfl⟩
      rw [← hn8e] at hr8
      clear hA8 hn8e hcost hr7 hmain
      have hn8 : Hid (n8 ≤ 900000) := hide hn8
      have HR8 := hide hr8
      clear hr8
      obtain ⟨z0, z1, z2, z3⟩ := (HI3.out.below HR8.out.bel).cc
      clear z0 z2 z3
      go_wp2_with fail
      refine (crash_r HR8.out hn8.out a1 c1 k1 HI3.out.lk1).mono ?_
      rintro e9 w9 ⟨v9, rfl, ho9, hb9⟩
      have hS1 := HSt8.out k1
      obtain ⟨a9, c9, rfl, hl9, _⟩ := ho9.form
      clear ho9 HSt8 HR8 hn8 z1
      generalize crashD A8 k1 = S1 at *
      obtain ⟨y1, y2, _⟩ := hS1.says HG.out
      have HS1 := hide hS1
      have HO9 := hide (open_r w3 w9 hb9 a9 c9 S1 hl9 y2 p s HH.out.1 HH.out.2.1 hs2 y1)
      clear hS1 hb9 hl9 y1 y2
      go_wp2_with fail
      refine HO9.out.mono ?_
      rintro e9 w10 ⟨F2, J2, rfl, hr10⟩
      obtain ⟨z0, z1, z2, z3⟩ := (HI3.out.below hr10.bel).cc
      have HSt := hide (stop_r hr10 (by omega) (1 + m2) (by omega) (by omega))
      rw [show ((1 + m2 : Nat) : Int) = 1 + (m2 : Int) by omega, show 1 + m2 - 1 = m2 by omega] at HSt
      have e2 := HE2.out
      clear hr10 HO9 z0 z1 z3
      go_wp2_with fail
      refine HSt.out.mono ?_
      rintro e9 w11 ⟨rfl, hr11⟩
      have HRe := hide (replay_cut HG.out HS1.out hr11 (by omega) HL3.out)
      clear hr11 HSt e2 z2 HS1
      go_wp2_with fail
      refine HRe.out.mono ?_
      rintro e9 w12 ⟨i1, i2, rfl, A12, k12, n12, nu12, hr12, hn12, hst12⟩
      have HR12 := hide hr12
      have Hn12 := hide hn12
      have HSt12 := hide hst12
      obtain ⟨z0, z1, z2, z3⟩ := (HI3.out.below hr12.bel).cc
      clear hr12 HRe hn12 hst12 z0 z1 z2
      go_wp2_with fail
      refine (crash_r HR12.out Hn12.out a2 c2 k2 HI3.out.lk2).mono ?_
      rintro e9 w13 ⟨v13, rfl, ho13, hb13⟩
      have hS2 := HSt12.out k2
      obtain ⟨a13, c13, rfl, hl13, _⟩ := ho13.form
      clear ho13 HSt12 HR12 Hn12 z3
      generalize crashD A12 k2 = S2 at *
      obtain ⟨y1, y2, _⟩ := hS2.says HG.out
      have HS2 := hide hS2
      have HO13 := hide (open_r w3 w13 hb13 a13 c13 S2 hl13 y2 p s HH.out.1 HH.out.2.1 hs2 y1)
      clear hS2 hb13 hl13 y1 y2
      go_wp2_with fail
      refine HO13.out.mono ?_
      rintro e9 w14 ⟨F3, J3, rfl, hr14⟩
      have HRe := hide (replay_all HG.out HS2.out hr14 (by omega) (by omega) HL3.out HD12.out)
      clear hr14 HO13 HS2
      go_wp2_with fail
      refine HRe.out.mono ?_
      rintro e9 w15 ⟨j1, rfl, _, S3, k15, n15, nu15, hr15, hk15, hn15, hs15, hp15⟩
      have HRf2 := hide (replay_all HG.out hs15 hr15 (by omega) (by omega) HL3.out HD12.out)
      have HP15 := hide hp15
      clear hr15 HRe hk15 hn15 hs15 hp15
      go_wp2_with fail
      refine HRf2.out.mono ?_
      rintro e9 w16 ⟨j2, rfl, hj2, S4, k16, n16, nu16, hr16, hk16, hn16, hs16, hp16⟩
      obtain rfl := hj2 HP15.out
      have HBs := hide (bytes_r hr16)
      have HF4 := hide (hs16.fin HG.out hp16)
      have HBy4 := hide (hs16.says HG.out).2.2.1
      clear hr16 HRf2 hk16 hn16 hs16 hp16 hj2 HP15
      go_wp2_with fail
      refine HBs.out.mono ?_
      rintro e9 w17 ⟨v17, rfl, ho17, hb17⟩
      have ho17 : Own w17 w16.heap.size v17 S4 := ho17
      obtain ⟨a17, c17, rfl, hl17, _⟩ := ho17.sl
      have HS17 := hide hl17
      have HB17 := hide hb17
      clear ho17 hl17 hb17 HBs
      go_wp2_with fail
      refine (Zeros_any s _ (by omega)).mono ?_
      rintro e9 w18 ⟨v18, rfl, ho18, hb18⟩
      obtain ⟨Z, hZ⟩ : ∃ Z : List Int, Z = List.replicate s 0 := ⟨_, rfl⟩
      obtain ⟨hZl, hZl2⟩ : Z.length ≤ s ∧ s ≤ Z.length := by rw [hZ, List.length_replicate]; omega
      have HZb : Hid (Byts Z) := hide (by rw [hZ]; exact zeros_byts s)
      obtain ⟨u1, u2, u3⟩ := fin_over HG.out HF4.out
      rw [← hZ] at u3 ho18
      have hend : endD (x.R.map JR.dat) ≤ 32000 := endD_le (fun r hr => by
        obtain ⟨r', hr', rfl⟩ := List.mem_map.1 hr
        have h1 := HmR.out r' hr'
        have h2 := HH.out.2.2.2 r' hr'
        simp only [JR.dat]
        omega)
      have HU3 := hide u3
      obtain ⟨a18, c18, rfl, hl18, _⟩ := ho18.sl
      have HZs := hide hl18
      have HB18 := hide (HB17.out.trans (hb18.mono HB17.out.size))
      have HS18 := hide (HS17.out.below hb18)
      clear ho18 hl18 hb18 HS17 HB17 u3 hZ
      have HW1 := hide (With_any aB cB B a18 c18 Z p w18 (by omega) (by omega) (by omega) (HSB.out.below HB18.out) HZs.out)
      go_wp2_with fail
      refine HW1.out.mono ?_
      rintro e9 w19 ⟨v19, rfl, ho19, hb19⟩
      obtain ⟨ho19l, ho19m⟩ : (over B p Z).length ≤ B.length ∧ B.length ≤ (over B p Z).length := by rw [over_length (by omega)]; omega
      have HO19b : Hid (Byts (over B p Z)) := hide (over_byts (by omega) HBy.out HZb.out)
      generalize over B p Z = old at *
      obtain ⟨a19, c19, rfl, hl19, _⟩ := ho19.sl
      have HB19 := hide (HB18.out.trans (hb19.mono HB18.out.size))
      have HS19 := hide (HS18.out.below hb19)
      have HZ19 := hide (HZs.out.below hb19)
      have HN19 := hide hl19
      clear ho19 hl19 hb19 HS18 HB18 HZs HW1
      have HD := hide (Done_any aB cB B aQ cQ x.R p w19 (HSB.out.below HB19.out) (HlQ.out.below HB19.out) hlB (by omega) (by omega) (fun r hr => by
        have h1 := HmR.out r hr
        have h2 := HH.out.2.2.2 r hr
        omega))
      go_wp2_with fail
      refine HD.out.mono ?_
      rintro e9 w20 ⟨v20, rfl, ho20, hb20⟩
      obtain ⟨hap, hap2⟩ : (appS B p (x.R.map JR.dat)).length ≤ 40000 ∧ B.length ≤ (appS B p (x.R.map JR.dat)).length := by rw [appS_len (by omega)]; omega
      have HapB : Hid (Byts (appS B p (x.R.map JR.dat))) := hide (appS_byts HBy.out HG.out.byD)
      generalize appS B p (x.R.map JR.dat) = ap at *
      obtain ⟨a20, c20, rfl, hl20, _⟩ := ho20.sl
      have HB20 := hide (HB19.out.trans (hb20.mono HB19.out.size))
      have HS20 := hide (HS19.out.below hb20)
      have HZ20 := hide (HZ19.out.below hb20)
      have HN20 := hide (HN19.out.below hb20)
      have HA20 := hide hl20
      clear ho20 hl20 hb20 HS19 HB19 HZ19 HN19 HD
      have HW2 := hide (With_any a20 c20 ap a18 c18 Z p w20 (by omega) (by omega) (by omega) HA20.out HZ20.out)
      go_wp2_with fail
      refine HW2.out.mono ?_
      rintro e9 w21 ⟨v21, rfl, ho21, hb21⟩
      have HnewB : Hid (Byts (over ap p Z)) := hide (over_byts (by omega) HapB.out HZb.out)
      generalize over ap p Z = new1 at *
      obtain ⟨a21, c21, rfl, hl21, _⟩ := ho21.sl
      have HB21 := hide (HB20.out.trans (hb21.mono HB20.out.size))
      have HS21 := hide (HS20.out.below hb21)
      have HZ21 := hide (HZ20.out.below hb21)
      have HN21 := hide (HN20.out.below hb21)
      have HM21 := hide hl21
      clear ho21 hl21 hb21 HS20 HB20 HZ20 HN20 HA20 HW2
      have hnl : ¬ S4.length < old.length := by omega
      have HW3 := hide (With_any a17 c17 S4 a18 c18 Z p w21 (by omega) (by omega) (by omega) HS21.out HZ21.out)
      have HrB : Hid (Byts (over S4 p Z)) := hide (over_byts (by omega) HBy4.out HZb.out)
      clear u1 u2 hap hap2 ho19l ho19m hZl hZl2 hend
      go_wp2_with fail
      refine HW3.out.mono ?_
      rintro e9 w22 ⟨v22, rfl, ho22, hb22⟩
      generalize over S4 p Z = rest at *
      obtain ⟨a22, c22, rfl, hl22, _⟩ := ho22.sl
      have HB22 := hide (HB21.out.trans (hb22.mono HB21.out.size))
      have HN22 := hide (HN21.out.below hb22)
      have HM22 := hide (HM21.out.below hb22)
      have HT22 := hide hl22
      clear ho22 hl22 hb22 HS21 HB21 HZ21 HN21 HM21 HW3
      have HE1 := hide (Same_any a22 a19 c22 c19 rest old w22 HT22.out.lies HN22.out.lies HrB.out HO19b.out)
      have HE2' := hide (Same_any a22 a21 c22 c21 rest new1 w22 HT22.out.lies HM22.out.lies HrB.out HnewB.out)
      by_cases hq1 : rest = old
      · rw [decide_eq_true hq1] at HE1
        have HQ1 := hide hq1
        clear hq1 HE2'
        go_wp2_with fail
        refine HE1.out.mono ?_
        rintro e9 w23 ⟨rfl, hw23⟩
        rw [hw23]
        clear hw23
        go_wp2_with fail
        go_ret
        exact ⟨rfl, HB3.out.trans (HB22.out.mono HB3.out.size)⟩
      · rw [decide_eq_false hq1] at HE1
        rw [decide_eq_true (HU3.out.resolve_left hq1)] at HE2'
        have HQ1 := hide hq1
        clear hq1
        go_wp2_with fail
        refine HE1.out.mono ?_
        rintro e9 w23 ⟨rfl, hw23⟩
        rw [hw23]
        clear hw23
        go_wp2_with fail
        refine HE2'.out.mono ?_
        rintro e9 w24 ⟨rfl, hw24⟩
        rw [hw24]
        clear hw24
        go_wp2_with fail
        go_ret
        exact ⟨rfl, HB3.out.trans (HB22.out.mono HB3.out.size)⟩
end Go.Proofs.Ytifngegkijdbmaa.Oct
