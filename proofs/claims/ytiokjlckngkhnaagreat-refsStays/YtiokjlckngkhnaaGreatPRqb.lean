/- RefsStays, for every number and all operations: counts that were changed stand in the file behind the commit, and nothing else of it is changed but the journal (no condition). -/
import Derived.Test.YtiokjlckngkhnaaGreatPRpc
import Derived.Test.YtiokjlckngkhnaaGreatPJxpRqa
import Derived.Deep.Cut
import Derived.Deep.RegionWith
namespace Go.Proofs.YtiokjlckngkhnaaGreat.Oct
open Go.RowKit Go.Deep Go.ChangeShapes Go.WideShapes Go.ChangeAt Go.Sort

theorem ctsR_first {S : List Int} (H : Nat) (h : Cts S 33) : CtsR S (fun _ => Z5) (fun _ => Z5) H (ones H 33) := by
  have h5 : ∀ i, Z5.getD i 0 = 0 := fun i => by
    unfold Z5
    rw [List.getD_eq_getElem?_getD, List.getElem?_replicate]
    split <;> rfl
  refine ⟨ones_len H 33, fun n hn => by rw [ones_get H 33 n hn, cts_cnt h], cts_by h, fun x y _ => ?_⟩
  unfold valT
  rw [h5, if_pos rfl]

theorem eight {u : World} {P H b off k : Nat} {x y z : Int} {w0 : World} (hx : Bx8 u P H) (h : ∀ u, Below w0.heap.size w0 u → u.cell? ⟨b, off + k * 3, none⟩ = some (.int .i64 x) ∧ u.cell? ⟨b, off + k * 3 + 1, none⟩ = some (.int .i64 y) ∧ u.cell? ⟨b, off + k * 3 + 2, none⟩ = some (.int .i64 z)) (hb : Below w0.heap.size w0 u) :
    u.cell? ⟨P, 0, none⟩ = some (.int .i64 9) ∧ u.cell? ⟨P, 1, none⟩ = some (.int .i64 32768) ∧ u.cell? ⟨P, 2, none⟩ = some (.int .i64 (H : Int)) ∧ u.cell? ⟨P, 3, none⟩ = some (.int .i64 29) ∧ u.cell? ⟨P, 4, none⟩ = some (.bool false) ∧ u.cell? ⟨b, off + k * 3, none⟩ = some (.int .i64 x) ∧ u.cell? ⟨b, off + k * 3 + 1, none⟩ = some (.int .i64 y) ∧ u.cell? ⟨b, off + k * 3 + 2, none⟩ = some (.int .i64 z) :=
  ⟨hx.cell.1, hx.cell.2.1, hx.cell.2.2.1, hx.cell.2.2.2.1, hx.cell.2.2.2.2, (h u hb).1, (h u hb).2.1, (h u hb).2.2⟩

set_option maxRecDepth 100000 in
set_option maxHeartbeats 16000000 in
theorem rstays_walk (x : Int) (a1 : Option Addr) (cap1 : Nat) (L : List O3) (w : World) (hL : LiesO w a1 L) (hLm : L.length ≤ maxLen) :
    Calls Tryz.prog 3 #[.int .i64 x, .slice a1 L.length cap1] w fun e w' => e = .returned (.bool true) ∧ Below w.heap.size w w' := by
  have HCt := fun u => hide (counted_any u)
  unfold maxLen at hLm
  obtain ⟨nl, hnl⟩ : ∃ nl, nl = L.length := ⟨_, rfl⟩
  have HNl := hide hnl
  have HL := hide hL
  rw [← hnl] at hLm ⊢
  clear hL hnl
  go_enter Tryz.func3, Tryz.ntmps3
  by_cases h150 : 60 < nl
  · have hd : decide ((60 : Int) < nl) = true := by simp; omega
    go_wp2_with fail
    refine ((HCt _).out).mono ?_
    rintro e9 w3 ⟨rfl, hb3⟩
    have HB3 := hide hb3
    clear hb3
    go_wp2_with fail
    go_ret
    exact ⟨rfl, HB3.out⟩
  have hd : decide ((60 : Int) < nl) = false := by simp; omega
  go_wp2_with fail
  refine (head8_any x _).mono ?_
  rintro e9 w1 ⟨H, hH0, hH, rfl, hb1⟩
  have HBg := fun u => hide (begun8_any H hH0 hH u)
  have HNw : ∀ T u, Hid (Calls Tryz.prog 7 #[.agg #[.int .i64 9, .int .i64 32768, .int .i64 (H : Int), .int .i64 29, .bool false], .pointer (some ⟨T, 0, none⟩)] u fun e w' => ∃ A, e = .returned (.tuple #[.pointer (some ⟨A, 0, none⟩), .int .i64 0]) ∧ u.heap.size ≤ A ∧ Rfs w' A T H ∧ Below u.heap.size u w') := fun T u => hide (by
    refine (rnew_any 9 32768 H 29 false T u).mono ?_
    rintro e9 w2 (⟨h, _⟩ | ⟨_, A, rfl, hA, hc, hb⟩)
    · exact absurd (check9 H hH0 hH) h
    · exact ⟨A, rfl, hA, hc, hb⟩)
  have HFi := fun u => hide (first9 H hH0 hH u)
  have HX1 : Hid (Bx8 (w1.alloc (.cells #[.int .i64 9, .int .i64 32768, .int .i64 (H : Int), .int .i64 29, .bool false] 25)) w1.heap.size H) := hide (heap_new9 w1 _)
  have HB1 := hide (hb1.alloc hb1.size (.cells #[.int .i64 9, .int .i64 32768, .int .i64 (H : Int), .int .i64 29, .bool false] 25))
  have hs1 := hb1.size
  obtain ⟨x0, x1, x2, x3, x4⟩ := HX1.out.cell
  clear hb1
  go_wp2_with fail
  have hs2 : w1.heap.size < (w1.alloc (.cells #[.int .i64 9, .int .i64 32768, .int .i64 (H : Int), .int .i64 29, .bool false] 25)).heap.size := by simp
  clear x0 x1 x2 x3 x4
  generalize w1.alloc (.cells #[.int .i64 9, .int .i64 32768, .int .i64 (H : Int), .int .i64 29, .bool false] 25) = w2 at *
  refine ((HBg _).out).mono ?_
  rintro e9 w3 ⟨T, J, F, S, rfl, hSl, hSc, hbg⟩
  have HSl : Hid (S.length ≤ 4194304) := hide (by rw [hSl]; omega)
  have HSn : Hid (S.length = 16896) := hide hSl
  have HSb : Hid (Byts S) := hide (fun i => by rw [hSc i]; split <;> omega)
  have HSc := hide (ctsR_first H hSc)
  have HB23 := hide hbg.below
  have hTl := hbg.tx.lt
  have hjt := hbg.jt
  have hwj := hbg.wj
  obtain ⟨v1, v2, hf⟩ := hbg.fil
  have hFx : w2.heap.size ≤ F ∧ F < J := hf.xF
  have HT3 : Hid (Tst w3 T J F (fun k => w2.heap.size ≤ k ∧ k < J) ⟨v1, v2, .slice none 0 0, 0, 0, 0, 0, false⟩ S (.map none) (.map none) (fun _ => Z5) (fun _ => Z5) 512 15360) := hide ⟨hbg.tx, ⟨Or.inl ⟨rfl, fun _ => rfl⟩, Or.inl ⟨rfl, fun _ => rfl⟩, fun _ => Z5_len, fun _ => Z5_len⟩, Or.inl ⟨rfl, rfl⟩, hbg.jr, hf, by omega, by omega, (fun r hr => (by rcases hr with h | h <;> cases h)), by omega, ⟨rfl, rfl⟩, by simp, rfl, fun _ _ => rfl, fun _ => Or.inl (z5_getQ _)⟩
  clear hbg hSl hSc hf
  go_wp2_with fail
  refine ((HCt _).out).mono ?_
  rintro e9 w4 ⟨rfl, hb4⟩
  have HT4 := hide (HT3.out.below hb4)
  have HB24 := hide (HB23.out.trans (hb4.mono HB23.out.size))
  have HX4 := hide (HX1.out.below HB24.out)
  have hs34 := hb4.size
  obtain ⟨x0, x1, x2, x3, x4⟩ := HX4.out.cell
  clear hb4
  go_wp2_with fail
  refine ((HNw T _).out).mono ?_
  rintro e9 w4b ⟨A, rfl, hA4, hA5, hb5⟩
  have HA4b := hide hA5
  have HT4b := hide (HT4.out.below hb5)
  have HB24b := hide (HB24.out.trans (hb5.mono HB24.out.size))
  have hA4l := hA5.lt
  have hs4b := hb5.size
  have HBt := hide (bytes_file w4b (fun k => w2.heap.size ≤ k ∧ k < J) F _ S S [] HT4b.out.fil (by have := HSl.out; omega))
  clear hb5 hA5 x0 x1 x2 x3 x4
  go_wp2_with fail
  refine HBt.out.mono ?_
  rintro e9 w5 ⟨vW, rfl, hoW, hbW⟩
  have HA5 := hide (HA4b.out.below hbW)
  have HT5 := hide (HT4b.out.below hbW)
  have HB25 := hide (HB24b.out.trans (hbW.mono HB24b.out.size))
  have HX5 := hide (HX1.out.below HB25.out)
  have hA5l := HA5.out.lt
  have hs45 := hbW.size
  obtain ⟨gW, cW, rfl, hgW1, hgW2, hgO⟩ : ∃ gW cW, vW = .slice (some ⟨gW, 0, none⟩) S.length cW ∧ w4b.heap.size ≤ gW ∧ gW < w5.heap.size ∧ ∃ cs t, w5.heap[gW]? = some (.cells cs t (0, 0)) := by
    rcases hoW.2 with ⟨_, hn⟩ | ⟨g, cap, cur, e, hg, hh, _⟩
    · exfalso; have := HSn.out; omega
    · exact ⟨g, cap, e, hg, (Array.getElem?_eq_some_iff.1 hh).1, _, _, hh⟩
  have HOW := hide hoW
  have HgO := hide hgO
  have hJ4 : Hid (J < w4b.heap.size) := hide HT4b.out.jr.lt
  obtain ⟨KK, hKK⟩ : ∃ KK : Nat → Option Obj, KK = fun P => if P = gW then w5.heap[gW]? else none := ⟨_, rfl⟩
  have HKK := hide hKK
  clear hbW hoW hgO hKK HBt
  obtain ⟨x0, x1, x2, x3, x4⟩ := HX5.out.cell
  have hmk := run_make_ints w5 H (by omega)
  have hbm : Below w5.heap.size w5 (w5.alloc (.cells (madeCells #[.int .i64 0] H) 3)) := (Below.refl _ _).alloc (Nat.le_refl _) _
  have HOm := hide (OwnJ.made w5 H (by unfold maxLen; omega))
  rw [← ones_zero] at HOm
  have HPl : Hid (PlcR w2.heap.size T J F A w5.heap.size (fun k => w2.heap.size ≤ k ∧ k < J)) := hide ⟨fun k h => h, by omega, by omega, by omega, by omega, by omega, by omega, by omega, by omega, by omega, by omega⟩
  have HIn : Hid (RInv KK w2 (w5.alloc (.cells (madeCells #[.int .i64 0] H) 3)) T J F A w5.heap.size H (fun k => w2.heap.size ≤ k ∧ k < J) S (ones H 33) (ones H 0) 0) := hide ⟨_, _, _, _, _, HT5.out.below hbm, by simp, HA5.out.below hbm, HOm.out.mono HB25.out.size, ones_len H 0, HSc.out, fun r hr => (by rcases hr with h | h <;> cases h), HB25.out.trans (hbm.mono HB25.out.size), fun P o hP => by
    rw [HKK.out] at hP
    change (if P = gW then w5.heap[gW]? else none) = some o at hP
    by_cases e : P = gW
    · subst e
      rw [if_pos rfl] at hP
      obtain ⟨cs, t, hh⟩ := HgO.out
      refine ⟨⟨cs, t, by rw [hh] at hP; exact (Option.some.inj hP).symm⟩, by omega, by omega, by omega, ?_⟩
      exact (hbm.block P hgW2).trans hP
    · rw [if_neg e] at hP; cases hP⟩
  clear hbm
  go_wp2_with fail
  clear hmk x0 x1 x2 x3 x4
  generalize w5.alloc (.cells (madeCells #[.int .i64 0] H) 3) = w6 at *
  go_loopw [13] (fun v wr => ∃ (k : Nat), k ≤ 33 ∧ v = .int .i64 (k : Int) ∧ RInv KK w2 wr T J F A w5.heap.size H (fun k => w2.heap.size ≤ k ∧ k < J) S (ones H 33) (ones H k) 0) (fun v _ => 33 - (intOf v).toNat)
  case atStart => exact ⟨0, by omega, rfl, HIn.out⟩
  case round =>
    obtain ⟨k, hk, rfl, hin⟩ := hrel
    have HI := hide hin
    clear hin
    obtain ⟨x0, x1, x2, x3, x4⟩ := (HX1.out.below HI.out.below0).cell
    go_wp2_with fail
    refine ((HFi _).out).mono ?_
    rintro e9 w7 ⟨rfl, hb7⟩
    have HI7 := hide (HI.out.below hb7)
    clear hb7 x0 x1 x2 x3 x4
    by_cases hlt : k < 33
    · have cc := HI7.out.cell k (by omega)
      have ff := HI7.out.free k
      have HR := hide (HI7.out.row HPl.out k 1)
      rw [ones_set] at HR
      generalize (ones H k).getD k 0 = z at *
      have hkH : k < H := by omega
      go_wp2_with fail
      exact ⟨⟨k + 1, by omega, by congr 1 <;> omega, HR.out⟩, by simp [intOf]; omega⟩
    · obtain rfl : k = 33 := by omega
      go_wp2_with fail
      clear HI HIn
      go_loopw [14] (fun v wr => ∃ (k : Nat) (m : List Int), k ≤ nl ∧ v = .int .i64 (k : Int) ∧ RInv KK w2 wr T J F A w5.heap.size H (fun k => w2.heap.size ≤ k ∧ k < J) S m m k) (fun v _ => nl - (intOf v).toNat)
      case atStart => exact ⟨0, _, by omega, rfl, HI7.out⟩
      case round =>
        obtain ⟨k, m, hk, rfl, hin⟩ := hrel
        have HI := hide hin
        clear hin
        by_cases hlt : k < nl
        · obtain ⟨b, off, rfl, hcc⟩ : ∃ b off, a1 = some ⟨b, off, none⟩ ∧ ∀ u, Below w.heap.size w u → u.cell? ⟨b, off + k * 3, none⟩ = some (.int .i64 (L.getD k o3).1) ∧ u.cell? ⟨b, off + k * 3 + 1, none⟩ = some (.int .i64 (L.getD k o3).2.1) ∧ u.cell? ⟨b, off + k * 3 + 2, none⟩ = some (.int .i64 (L.getD k o3).2.2) := by
            rcases HL.out with h | ⟨b, off, rfl, hb, hcc⟩
            · exfalso
              have := HNl.out
              rw [h] at this
              simp at this
              omega
            · refine ⟨b, off, rfl, fun u hu => ?_⟩
              have h3 := hcc k (by rw [← HNl.out]; exact hlt)
              exact ⟨(hu.cell (p := ⟨b, off + k * 3, none⟩) hb).trans h3.1, (hu.cell (p := ⟨b, off + k * 3 + 1, none⟩) hb).trans h3.2.1, (hu.cell (p := ⟨b, off + k * 3 + 2, none⟩) hb).trans h3.2.2⟩
          generalize L.getD k o3 = o at *
          obtain ⟨c, n, v⟩ := o
          simp only at hcc
          have HCc := hide hcc
          have HI := hide (HI.out.below (Below.refl _ _).drew)
          have HPy : ∀ u, RInv KK w2 u T J F A w5.heap.size H (fun k => w2.heap.size ≤ k ∧ k < J) S m m k → Hid (Calls Tryz.prog 10 #[.pointer (some ⟨A, 0, none⟩), .slice (some ⟨w5.heap.size, 0, none⟩) H H, .int .i64 33, .agg #[.int .i64 c, .int .i64 n, .int .i64 v]] u fun e w' => e = .returned (.bool true) ∧ ∃ m', RInv KK w2 w' T J F A w5.heap.size H (fun k => w2.heap.size ≤ k ∧ k < J) S m' m' (k + 1)) := fun u hu => hide (play_any hu HPl.out HSl.out (by omega) hH0 hH c n v)
          clear hcc
          go_wp2_with fail
          have HEi := fun u (hu : Below w2.heap.size w2 u) => hide (eight (HX1.out.below hu) HCc.out (HB1.out.trans (hu.mono HB1.out.size)))
          obtain ⟨s0, s1, s2, s3, s4, s5, s6, s7⟩ := (HEi _ HI.out.below0).out
          go_region_held3 (fun u => u.cell? ⟨w1.heap.size, 0, none⟩ = some (.int .i64 9) ∧ u.cell? ⟨w1.heap.size, 1, none⟩ = some (.int .i64 32768) ∧ u.cell? ⟨w1.heap.size, 2, none⟩ = some (.int .i64 (H : Int)) ∧ u.cell? ⟨w1.heap.size, 3, none⟩ = some (.int .i64 29) ∧ u.cell? ⟨w1.heap.size, 4, none⟩ = some (.bool false) ∧ u.cell? ⟨b, off + k * 3, none⟩ = some (.int .i64 c) ∧ u.cell? ⟨b, off + k * 3 + 1, none⟩ = some (.int .i64 n) ∧ u.cell? ⟨b, off + k * 3 + 2, none⟩ = some (.int .i64 v)) (first | go_keep | exact (HEi _ HI.out.below0).out | exact (HEi _ HI9.out.below0).out) (first
            | (go_at_call 9; refine ((HFi _).out).mono ?_; rintro e9 w8 ⟨rfl, hb8⟩; have HI := hide (HI.out.below hb8); clear hb8)
            | (go_at_call 10; refine ((HPy _ HI.out).out).mono ?_; rintro e9 w9 ⟨rfl, m', hi9⟩; have HI9 := hide hi9; clear hi9))
          all_goals
            go_wp2_with fail
            exact ⟨⟨k + 1, m', by omega, by congr 1 <;> omega, HI9.out⟩, by simp [intOf]; omega⟩
        · obtain rfl : k = nl := by omega
          obtain ⟨f9, vb9, vm9, B, M, h1, h2, h3, h4, h5, h6, h8, h9⟩ := HI.out
          have hJw := h1.jr.lt
          have hTq := (show Tst wr T J F (fun k => w2.heap.size ≤ k ∧ k < J) f9 S vb9 vm9 B M ((512 : Nat) : Int) ((15360 : Nat) : Int) from h1).txq (fun k hk => by have := hk.2; omega) HSl.out k h2
          obtain ⟨hs1, hs2⟩ := secs_one (show H ≤ 100 by omega) h1.ov.ml h1.neg h6.out
          obtain ⟨ho1, ho2, ho3, ho4⟩ := stays_ops (S := S) (B := B) hs2
          have HCm := hide (commit_q wr T J F (fun k => w2.heap.size ≤ k ∧ k < J) f9 ⟨S, S, []⟩ 2000000 k vb9 vm9 B M 512 15360 0 hTq (by omega) (by omega) (by omega) (by omega) (fun s hs e => by have := hs1 s e; omega) (fun r hr e => by have := ho4 r hr; omega) h6.by_)
          have HZg : Hid (∀ i, ¬ (512 ≤ i ∧ i < 15360) → (txQ S (recsM S B M)).getD i 0 = if 15360 ≤ i ∧ i < 15360 + 2 * H then (wantL m).getD (i - 15360) 0 else S.getD i 0) := hide (fun i hi => by
            rw [← stays_says h6 i]
            exact stays_get h6 (by omega) h1.ov.ml h1.neg h1.two 0 i hi)
          have HZn : Hid ((txQ S (recsM S B M)).length = 16896) := hide (stays_len hs2 HSn.out)
          have HBd := hide (fun n => h6.bd n)
          have Hm4 := hide h4
          have HmH := hide h5
          have Hb9 := hide h9.1
          have HKp := hide h9.2
          have Hops := hide (show sizeR (runsM M) ≤ 524 ∧ rdR S (runsM M) ≤ 1 ∧ (txO 512 0 (recsM S B M)).length ≤ 8 from ⟨ho1, ho2, ho3⟩)
          have hTl := h1.tx.lt
          clear h1 h2 h3 h4 h5 h6 h8 h9 hTq hs1 hs2 ho1 ho2 ho3 ho4 HI
          go_wp2_with fail
          refine HCm.out.mono ?_
          rintro e9 wq (⟨g1, _⟩ | ⟨g1, g2, _⟩ | ⟨g1, g2, rfl, ht, nu', n', hn', X', f', hf, hx, hc, hj, hxj⟩)
          · exfalso; have := Hops.out.1; omega
          · exact absurd (show rdR S (runsM M) ≤ 2000000 by have := Hops.out.2.1; omega) g2
          have hk9 : (txO 512 0 (recsM S B M)).length ≤ 2000000 - rdR S (runsM M) := by have := Hops.out; omega
          have hcd : cod (txO 512 0 (recsM (⟨S, S, []⟩ : A3).S B M)).length (2000000 - rdR (⟨S, S, []⟩ : A3).S (runsM M)) = 0 := cod_ok hk9
          rw [hcd]
          have hf2 := hf
          rw [show recsM (⟨S, S, []⟩ : A3).S B M = recsM S B M from rfl, List.take_of_length_le hk9, txQ_state] at hf2
          generalize txQ S (recsM S B M) = Z at *
          have HF2 := hide hf2
          have HmC : Hid (OwnJ wq w2.heap.size (.slice (some ⟨w5.heap.size, 0, none⟩) H H) m) := hide (Hm4.out.chg hc (by
            rintro (e | e | e)
            · exact HPl.out.rx e
            · exact HPl.out.rj e.symm
            · exact HPl.out.rt e))
          have HbC : Hid (Below w2.heap.size w2 wq) := hide (Hb9.out.trans (hc.below _ Hb9.out.size (fun q hq e => by
            have h1 := HPl.out.j
            have h2 := HPl.out.t
            rcases e with e | e | e
            · have := e.1; omega
            · omega
            · omega)))
          have HWc : Hid (wq.heap[gW]? = w5.heap[gW]?) := hide (by
            obtain ⟨cs, t, hh⟩ := HgO.out
            obtain ⟨_, k1, k2, k3, k4⟩ := HKp.out gW (.cells cs t (0, 0)) (by rw [HKK.out]; simpa using hh)
            refine (hc.block gW (Array.getElem?_eq_some_iff.1 k4).1 ?_).trans (k4.trans hh.symm)
            rintro (e | e | e)
            · exact k2 e
            · have := hJ4.out; omega
            · exact k1 e)
          clear hc hf hf2 hx hj hxj ht HCm Hm4 Hb9 HKp Hops g1 g2 hk9 hcd
          have HWo : Hid (Own wq w4b.heap.size (.slice (some ⟨gW, 0, none⟩) S.length cW) S) := hide (by
            refine ⟨HOW.out.1, ?_⟩
            rcases HOW.out.2 with h0 | ⟨g, cap, cur, e, hg, hh, hr⟩
            · exact Or.inl h0
            · have eg : g = gW := by
                simp only [Value.slice.injEq, Option.some.injEq, Addr.mk.injEq] at e
                exact e.1.1.symm
              refine Or.inr ⟨g, cap, cur, e, hg, ?_, hr⟩
              rw [eg] at hh ⊢
              exact HWc.out.trans hh)
          have hgc : gW < wq.heap.size := by
            obtain ⟨cs, t, hh⟩ := HgO.out
            exact (Array.getElem?_eq_some_iff.1 (HWc.out.trans hh)).1
          go_wp2_with fail
          go_loopw [15, 16] (fun v i wr' => ∃ n : Nat, n ≤ H ∧ i = .int .i64 (n : Int) ∧ Own wr' wq.heap.size v (wantL (m.take n)) ∧ Below wq.heap.size wq wr') (fun _ i _ => H - (intOf i).toNat)
          case atStart => exact ⟨0, by omega, rfl, by simpa [wantL] using Own.nil _ _, Below.refl _ _⟩
          case round =>
            obtain ⟨n, hn, rfl, ho, hb⟩ := hrel
            have HO := hide ho
            have HB := hide hb
            by_cases hlt3 : n < H
            · have cc := (HmC.out.below hb).cell HmH.out.symm n hlt3
              have hbd := HBd.out n
              have HSt : Hid (wantL (m.take (n + 1)) = wantL (m.take n) ++ bytesOf (m.getD n 0) 2) := hide (by
                have hl : n < m.length := by rw [HmH.out]; exact hlt3
                unfold wantL
                rw [List.take_succ_eq_append_getElem hl, List.flatMap_append]
                simp [hl])
              have hwl : (wantL (m.take n)).length = 2 * n := by
                rw [want_len, List.length_take, HmH.out]
                omega
              generalize m.getD n 0 = c at *
              generalize hw9 : wantL (m.take n) = wl at *
              clear hw9
              obtain ⟨av, cv, rfl, _, _⟩ := ho.sl
              have HBy := fun u => hide (Bytes_any c 2 u (by omega) hbd.1 (by omega))
              rw [show ((2 : Nat) : Int) = 2 from rfl] at HBy
              have Hwl := hide hwl
              clear ho hb hwl
              go_wp2_with fail
              refine ((HBy _).out).mono ?_
              rintro e9 w7 ⟨v7, rfl, ho7, hb7⟩
              have hl7 : (bytesOf c 2).length = 2 := by rw [want_two]; rfl
              obtain ⟨a7, c7, rfl, hs7, _⟩ := ho7.sl
              have HS7 := hide hs7
              have HO7 := hide (HO.out.below hb7)
              have HB7 := hide (HB.out.trans (hb7.mono HB.out.size))
              have Hl7 := hide hl7
              clear ho7 hs7 hb7 HBy hl7
              go_wp2_with (at_builtin; refine wpList_append_bytes rfl _ _ 35 rfl Tryz.underlying35 info5 wq.heap.size _ wl rfl (by exact HO7.out) _ _ _ (bytesOf c 2) rfl rfl (by exact HS7.out.lies) (by rw [Hl7.out, Hwl.out]; omega) (by exact HB7.out.size) ?_; intro v8 w8 ho8 hg8; have HO8 := hide ho8; have HG8 := hide hg8; clear ho8 hg8)
              exact ⟨⟨n + 1, by omega, by go_num, by rw [HSt.out]; exact HO8.out, HB7.out.grown HG8.out HB7.out.size (fun q hq => (World.ownsRow.lt HO7.out q hq).1)⟩, by simp [intOf]; omega⟩
            · obtain rfl : n = H := by omega
              have hmt : m.take n = m := by rw [List.take_of_length_le (by rw [HmH.out]; exact Nat.le_refl _)]
              rw [hmt] at ho
              have HO := hide ho
              have HB := hide hb
              clear ho hb hmt hlt3
              obtain ⟨WR, hWR⟩ : ∃ WR, WR = wr := ⟨_, rfl⟩
              subst hWR
              have HbR : Hid (Below w2.heap.size w2 WR) := hide (HbC.out.trans (HB.out.mono HbC.out.size))
              have HRa := fun u => hide (refsAt9 n u)
              have HJa := fun u => hide (journal9 n u)
              have HBox : ∀ u, Below w2.heap.size w2 u → Hid (u.cell? ⟨w1.heap.size, 0, none⟩ = some (.int .i64 9) ∧ u.cell? ⟨w1.heap.size, 1, none⟩ = some (.int .i64 32768) ∧ u.cell? ⟨w1.heap.size, 2, none⟩ = some (.int .i64 (n : Int)) ∧ u.cell? ⟨w1.heap.size, 3, none⟩ = some (.int .i64 29) ∧ u.cell? ⟨w1.heap.size, 4, none⟩ = some (.bool false)) := fun u hu => hide (HX1.out.below hu).cell
              obtain ⟨av, cv, rfl, hsv, _⟩ := HO.out.sl
              have Hsv := hide hsv
              clear hsv
              go_upto_region 28 with fail
              go_cut [17, 18] from 93 (fun v17 v18 wx => ∃ g1 g2 : Nat, v17 = .pointer (some ⟨g1, 0, none⟩) ∧ v18 = .pointer (some ⟨g2, 0, none⟩) ∧ wx.cell? ⟨g1, 0, none⟩ = some (.int .i64 15360) ∧ wx.cell? ⟨g2, 0, none⟩ = some (.int .i64 512) ∧ wx.cell? ⟨g2, 1, none⟩ = some (.int .i64 15360) ∧ g1 < wx.heap.size ∧ g2 < wx.heap.size ∧ Below WR.heap.size WR wx)
              case first =>
                have hS0 : (fun u : World => u.cell? ⟨w1.heap.size, 0, none⟩ = some (.int .i64 9) ∧ u.cell? ⟨w1.heap.size, 1, none⟩ = some (.int .i64 32768) ∧ u.cell? ⟨w1.heap.size, 2, none⟩ = some (.int .i64 (n : Int)) ∧ u.cell? ⟨w1.heap.size, 3, none⟩ = some (.int .i64 29) ∧ u.cell? ⟨w1.heap.size, 4, none⟩ = some (.bool false)) WR.drew := (HBox _ HbR.out.drew).out
                have hB0 : Below WR.heap.size WR WR.drew := (Below.refl _ _).drew
                refine wp_region_held_drew (S := (fun u : World => u.cell? ⟨w1.heap.size, 0, none⟩ = some (.int .i64 9) ∧ u.cell? ⟨w1.heap.size, 1, none⟩ = some (.int .i64 32768) ∧ u.cell? ⟨w1.heap.size, 2, none⟩ = some (.int .i64 (n : Int)) ∧ u.cell? ⟨w1.heap.size, 3, none⟩ = some (.int .i64 29) ∧ u.cell? ⟨w1.heap.size, 4, none⟩ = some (.bool false))) (by kernel_rfl) hS0 (fun _ => ?_)
                refine any_take 0 (some 93) (.agg #[.int .i64 9, .int .i64 32768, .int .i64 (n : Int), .int .i64 29, .bool false]) rfl rfl (by kernel_rfl) (by kernel_rfl) (by kernel_rfl) (fun _ _ _ h => h) (by rfl) hS0 ?_ ?_
                · intro u hSu
                  obtain ⟨s0, s1, s2, s3, s4⟩ := hSu
                  go_simp
                simp only [Act.put, List.setIfInBounds_toArray, List.set_cons_zero, List.set_cons_succ]
                refine any_take 2 (some 95) (.agg #[.int .i64 9, .int .i64 32768, .int .i64 (n : Int), .int .i64 29, .bool false]) rfl rfl (by kernel_rfl) (by kernel_rfl) (by kernel_rfl) (fun _ _ _ h => h) (by rfl) hS0 ?_ ?_
                · intro u hSu
                  obtain ⟨s0, s1, s2, s3, s4⟩ := hSu
                  go_simp
                simp only [Act.put, List.setIfInBounds_toArray, List.set_cons_zero, List.set_cons_succ]
                generalize WR.drew = U0 at *
                refine wpAnyH_ready (rs := [1, 4, 5]) (by kernel_rfl) (by simp) ?_
                refine AllReadyH.cons (i := 1) rfl (fun K hK => ?_) (AllReadyH.cons (i := 4) rfl (fun K hK => ?_) (AllReadyH.cons (i := 5) rfl (fun K hK => ?_) (AllReadyH.nil)))
                · go_simp
                  refine ((HRa _).out).mono ?_
                  rintro e9 U1 ⟨z, rfl, hb1⟩
                  have hB1 : Below WR.heap.size WR U1 := hB0.trans (hb1.mono hB0.size)
                  go_simp
                  refine hK.out _ _ (by first | exact (HBox _ (HbR.out.trans (hB1.mono HbR.out.size))).out | skip) (fun _ => ?_)
                  clear hK K
                  try simp only [Act.put, List.setIfInBounds_toArray, List.set_cons_zero, List.set_cons_succ]
                  refine wpAnyH_ready (rs := [3, 4, 5]) (by kernel_rfl) (by simp) ?_
                  refine AllReadyH.cons (i := 3) rfl (fun K hK => ?_) (AllReadyH.cons (i := 4) rfl (fun K hK => ?_) (AllReadyH.cons (i := 5) rfl (fun K hK => ?_) (AllReadyH.nil)))
                  · go_simp
                    refine ((HJa _).out).mono ?_
                    rintro e9 U2 ⟨rfl, hb2⟩
                    have hB2 : Below WR.heap.size WR U2 := hB1.trans (hb2.mono hB1.size)
                    go_simp
                    refine hK.out _ _ (by first | exact (HBox _ (HbR.out.trans (hB2.mono HbR.out.size))).out | skip) (fun _ => ?_)
                    clear hK K
                    try simp only [Act.put, List.setIfInBounds_toArray, List.set_cons_zero, List.set_cons_succ]
                    refine wpAnyH_ready (rs := [4, 5]) (by kernel_rfl) (by simp) ?_
                    refine AllReadyH.cons (i := 4) rfl (fun K hK => ?_) (AllReadyH.cons (i := 5) rfl (fun K hK => ?_) (AllReadyH.nil))
                    · go_simp
                      have hb3 : Below U2.heap.size U2 (U2.alloc (.cells #[.int .i64 0, .int .i64 0] 46)) := (Below.refl _ _).alloc (Nat.le_refl _) _
                      have hk4_3 := Blk.new U2 #[.int .i64 0, .int .i64 0] 46
                      have hB3 : Below WR.heap.size WR (U2.alloc (.cells #[.int .i64 0, .int .i64 0] 46)) := hB2.trans (hb3.mono hB2.size)
                      have hlo4 : WR.heap.size ≤ U2.heap.size := hB2.size
                      refine hK.out _ _ (by first | exact (HBox _ (HbR.out.trans (hB3.mono HbR.out.size))).out | skip) (fun _ => ?_)
                      clear hK K
                      try simp only [Act.put, List.setIfInBounds_toArray, List.set_cons_zero, List.set_cons_succ]
                      generalize U2.alloc (.cells #[.int .i64 0, .int .i64 0] 46) = U3 at *
                      refine wpAnyH_ready (rs := [5]) (by kernel_rfl) (by simp) ?_
                      refine AllReadyH.cons (i := 5) rfl (fun K hK => ?_) (AllReadyH.nil)
                      · go_simp
                        have hb4 : Below U3.heap.size U3 (U3.alloc (.cells #[.int .i64 0, .int .i64 0] 46)) := (Below.refl _ _).alloc (Nat.le_refl _) _
                        have hk5_4 := Blk.new U3 #[.int .i64 0, .int .i64 0] 46
                        have hB4 : Below WR.heap.size WR (U3.alloc (.cells #[.int .i64 0, .int .i64 0] 46)) := hB3.trans (hb4.mono hB3.size)
                        have hlo5 : WR.heap.size ≤ U3.heap.size := hB3.size
                        have hk4_4 := hk4_3.below hb4
                        have hne : U2.heap.size < U3.heap.size := hk4_3.lt
                        refine hK.out _ _ (by first | exact (HBox _ (HbR.out.trans (hB4.mono HbR.out.size))).out | skip) (fun _ => ?_)
                        clear hK K
                        try simp only [Act.put, List.setIfInBounds_toArray, List.set_cons_zero, List.set_cons_succ]
                        generalize U3.alloc (.cells #[.int .i64 0, .int .i64 0] 46) = U4 at *
                        as_aux_lemma =>
                          have kA := hk4_4
                          have kB := hk5_4
                          refine wpAnyH_ready (rs := [6]) (by kernel_rfl) (by simp) ?_
                          refine AllReadyH.cons (i := 6) rfl (fun K hK => ?_) AllReadyH.nil
                          have c0 := kA.cell 0 _ rfl
                          have c1 := kA.cell 1 _ rfl
                          have f0 := kA.frozen 0
                          have f1 := (kA.set 0 (.int .i64 15360)).frozen 1
                          have f1' := kA.frozen 1
                          have kA2 := (kA.set 0 (.int .i64 15360)).set 1 (.int .i64 z)
                          have hcA : Chg (fun i => i = U2.heap.size) U4 ((U4.setCell ⟨U2.heap.size, 0, none⟩ (.int .i64 15360)).setCell ⟨U2.heap.size, 1, none⟩ (.int .i64 z)) := ((Chg.refl (fun i => i = U2.heap.size) U4).setCell U2.heap.size 0 _ (fun _ => rfl)).setCell U2.heap.size 1 _ (fun _ => rfl)
                          have hB5 : Below WR.heap.size WR ((U4.setCell ⟨U2.heap.size, 0, none⟩ (.int .i64 15360)).setCell ⟨U2.heap.size, 1, none⟩ (.int .i64 z)) := (hB4.setCell (p := ⟨U2.heap.size, 0, none⟩) hlo4 _).setCell (p := ⟨U2.heap.size, 1, none⟩) hlo4 _
                          have kB2 := kB.chg hcA (by omega)
                          go_simp
                          refine hK.out _ _ (by first | exact (HBox _ (HbR.out.trans (hB5.mono HbR.out.size))).out | skip) (fun _ => ?_)
                          clear hK K
                          try simp only [Act.put, List.setIfInBounds_toArray, List.set_cons_zero, List.set_cons_succ]
                          clear c0 c1 f0 f1 f1' hcA
                          generalize (U4.setCell ⟨U2.heap.size, 0, none⟩ (.int .i64 15360)).setCell ⟨U2.heap.size, 1, none⟩ (.int .i64 z) = V1 at *
                          refine wpAnyH_ready (rs := [7]) (by kernel_rfl) (by simp) ?_
                          refine AllReadyH.cons (i := 7) rfl (fun K hK => ?_) AllReadyH.nil
                          have c0 := kB2.cell 0 _ rfl
                          have c1 := kB2.cell 1 _ rfl
                          have f0 := kB2.frozen 0
                          have f1 := (kB2.set 0 (.int .i64 512)).frozen 1
                          have f1' := kB2.frozen 1
                          have kB3 := (kB2.set 0 (.int .i64 512)).set 1 (.int .i64 15360)
                          have hcB : Chg (fun i => i = U3.heap.size) V1 ((V1.setCell ⟨U3.heap.size, 0, none⟩ (.int .i64 512)).setCell ⟨U3.heap.size, 1, none⟩ (.int .i64 15360)) := ((Chg.refl (fun i => i = U3.heap.size) V1).setCell U3.heap.size 0 _ (fun _ => rfl)).setCell U3.heap.size 1 _ (fun _ => rfl)
                          have hB6 : Below WR.heap.size WR ((V1.setCell ⟨U3.heap.size, 0, none⟩ (.int .i64 512)).setCell ⟨U3.heap.size, 1, none⟩ (.int .i64 15360)) := (hB5.setCell (p := ⟨U3.heap.size, 0, none⟩) hlo5 _).setCell (p := ⟨U3.heap.size, 1, none⟩) hlo5 _
                          have kA3 := kA2.chg hcB (by omega)
                          go_simp
                          refine hK.out _ _ (by first | exact (HBox _ (HbR.out.trans (hB6.mono HbR.out.size))).out | skip) (fun _ => ?_)
                          clear hK K
                          try simp only [Act.put, List.setIfInBounds_toArray, List.set_cons_zero, List.set_cons_succ]
                          clear c0 c1 f0 f1 f1' hcB
                          generalize (V1.setCell ⟨U3.heap.size, 0, none⟩ (.int .i64 512)).setCell ⟨U3.heap.size, 1, none⟩ (.int .i64 15360) = V2 at *
                          refine wpAnyH_done (by kernel_rfl) ?_ _
                          go_wp2_with fail
                          go_meet
                          exact ⟨U2.heap.size, U3.heap.size, rfl, rfl, kA3.cell 0 _ rfl, kB3.cell 0 _ rfl, kB3.cell 1 _ rfl, kA3.lt, kB3.lt, hB6⟩
                    · go_simp
                      have hb3 : Below U2.heap.size U2 (U2.alloc (.cells #[.int .i64 0, .int .i64 0] 46)) := (Below.refl _ _).alloc (Nat.le_refl _) _
                      have hk5_3 := Blk.new U2 #[.int .i64 0, .int .i64 0] 46
                      have hB3 : Below WR.heap.size WR (U2.alloc (.cells #[.int .i64 0, .int .i64 0] 46)) := hB2.trans (hb3.mono hB2.size)
                      have hlo5 : WR.heap.size ≤ U2.heap.size := hB2.size
                      refine hK.out _ _ (by first | exact (HBox _ (HbR.out.trans (hB3.mono HbR.out.size))).out | skip) (fun _ => ?_)
                      clear hK K
                      try simp only [Act.put, List.setIfInBounds_toArray, List.set_cons_zero, List.set_cons_succ]
                      generalize U2.alloc (.cells #[.int .i64 0, .int .i64 0] 46) = U3 at *
                      refine wpAnyH_ready (rs := [4]) (by kernel_rfl) (by simp) ?_
                      refine AllReadyH.cons (i := 4) rfl (fun K hK => ?_) (AllReadyH.nil)
                      · go_simp
                        have hb4 : Below U3.heap.size U3 (U3.alloc (.cells #[.int .i64 0, .int .i64 0] 46)) := (Below.refl _ _).alloc (Nat.le_refl _) _
                        have hk4_4 := Blk.new U3 #[.int .i64 0, .int .i64 0] 46
                        have hB4 : Below WR.heap.size WR (U3.alloc (.cells #[.int .i64 0, .int .i64 0] 46)) := hB3.trans (hb4.mono hB3.size)
                        have hlo4 : WR.heap.size ≤ U3.heap.size := hB3.size
                        have hk5_4 := hk5_3.below hb4
                        have hne : U2.heap.size < U3.heap.size := hk5_3.lt
                        refine hK.out _ _ (by first | exact (HBox _ (HbR.out.trans (hB4.mono HbR.out.size))).out | skip) (fun _ => ?_)
                        clear hK K
                        try simp only [Act.put, List.setIfInBounds_toArray, List.set_cons_zero, List.set_cons_succ]
                        generalize U3.alloc (.cells #[.int .i64 0, .int .i64 0] 46) = U4 at *
                        as_aux_lemma =>
                          have kA := hk4_4
                          have kB := hk5_4
                          refine wpAnyH_ready (rs := [6]) (by kernel_rfl) (by simp) ?_
                          refine AllReadyH.cons (i := 6) rfl (fun K hK => ?_) AllReadyH.nil
                          have c0 := kA.cell 0 _ rfl
                          have c1 := kA.cell 1 _ rfl
                          have f0 := kA.frozen 0
                          have f1 := (kA.set 0 (.int .i64 15360)).frozen 1
                          have f1' := kA.frozen 1
                          have kA2 := (kA.set 0 (.int .i64 15360)).set 1 (.int .i64 z)
                          have hcA : Chg (fun i => i = U3.heap.size) U4 ((U4.setCell ⟨U3.heap.size, 0, none⟩ (.int .i64 15360)).setCell ⟨U3.heap.size, 1, none⟩ (.int .i64 z)) := ((Chg.refl (fun i => i = U3.heap.size) U4).setCell U3.heap.size 0 _ (fun _ => rfl)).setCell U3.heap.size 1 _ (fun _ => rfl)
                          have hB5 : Below WR.heap.size WR ((U4.setCell ⟨U3.heap.size, 0, none⟩ (.int .i64 15360)).setCell ⟨U3.heap.size, 1, none⟩ (.int .i64 z)) := (hB4.setCell (p := ⟨U3.heap.size, 0, none⟩) hlo4 _).setCell (p := ⟨U3.heap.size, 1, none⟩) hlo4 _
                          have kB2 := kB.chg hcA (by omega)
                          go_simp
                          refine hK.out _ _ (by first | exact (HBox _ (HbR.out.trans (hB5.mono HbR.out.size))).out | skip) (fun _ => ?_)
                          clear hK K
                          try simp only [Act.put, List.setIfInBounds_toArray, List.set_cons_zero, List.set_cons_succ]
                          clear c0 c1 f0 f1 f1' hcA
                          generalize (U4.setCell ⟨U3.heap.size, 0, none⟩ (.int .i64 15360)).setCell ⟨U3.heap.size, 1, none⟩ (.int .i64 z) = V1 at *
                          refine wpAnyH_ready (rs := [7]) (by kernel_rfl) (by simp) ?_
                          refine AllReadyH.cons (i := 7) rfl (fun K hK => ?_) AllReadyH.nil
                          have c0 := kB2.cell 0 _ rfl
                          have c1 := kB2.cell 1 _ rfl
                          have f0 := kB2.frozen 0
                          have f1 := (kB2.set 0 (.int .i64 512)).frozen 1
                          have f1' := kB2.frozen 1
                          have kB3 := (kB2.set 0 (.int .i64 512)).set 1 (.int .i64 15360)
                          have hcB : Chg (fun i => i = U2.heap.size) V1 ((V1.setCell ⟨U2.heap.size, 0, none⟩ (.int .i64 512)).setCell ⟨U2.heap.size, 1, none⟩ (.int .i64 15360)) := ((Chg.refl (fun i => i = U2.heap.size) V1).setCell U2.heap.size 0 _ (fun _ => rfl)).setCell U2.heap.size 1 _ (fun _ => rfl)
                          have hB6 : Below WR.heap.size WR ((V1.setCell ⟨U2.heap.size, 0, none⟩ (.int .i64 512)).setCell ⟨U2.heap.size, 1, none⟩ (.int .i64 15360)) := (hB5.setCell (p := ⟨U2.heap.size, 0, none⟩) hlo5 _).setCell (p := ⟨U2.heap.size, 1, none⟩) hlo5 _
                          have kA3 := kA2.chg hcB (by omega)
                          go_simp
                          refine hK.out _ _ (by first | exact (HBox _ (HbR.out.trans (hB6.mono HbR.out.size))).out | skip) (fun _ => ?_)
                          clear hK K
                          try simp only [Act.put, List.setIfInBounds_toArray, List.set_cons_zero, List.set_cons_succ]
                          clear c0 c1 f0 f1 f1' hcB
                          generalize (V1.setCell ⟨U2.heap.size, 0, none⟩ (.int .i64 512)).setCell ⟨U2.heap.size, 1, none⟩ (.int .i64 15360) = V2 at *
                          refine wpAnyH_done (by kernel_rfl) ?_ _
                          go_wp2_with fail
                          go_meet
                          exact ⟨U3.heap.size, U2.heap.size, rfl, rfl, kA3.cell 0 _ rfl, kB3.cell 0 _ rfl, kB3.cell 1 _ rfl, kA3.lt, kB3.lt, hB6⟩
                  · go_simp
                    have hb2 : Below U1.heap.size U1 (U1.alloc (.cells #[.int .i64 0, .int .i64 0] 46)) := (Below.refl _ _).alloc (Nat.le_refl _) _
                    have hk4_2 := Blk.new U1 #[.int .i64 0, .int .i64 0] 46
                    have hB2 : Below WR.heap.size WR (U1.alloc (.cells #[.int .i64 0, .int .i64 0] 46)) := hB1.trans (hb2.mono hB1.size)
                    have hlo4 : WR.heap.size ≤ U1.heap.size := hB1.size
                    refine hK.out _ _ (by first | exact (HBox _ (HbR.out.trans (hB2.mono HbR.out.size))).out | skip) (fun _ => ?_)
                    clear hK K
                    try simp only [Act.put, List.setIfInBounds_toArray, List.set_cons_zero, List.set_cons_succ]
                    generalize U1.alloc (.cells #[.int .i64 0, .int .i64 0] 46) = U2 at *
                    refine wpAnyH_ready (rs := [3, 5]) (by kernel_rfl) (by simp) ?_
                    refine AllReadyH.cons (i := 3) rfl (fun K hK => ?_) (AllReadyH.cons (i := 5) rfl (fun K hK => ?_) (AllReadyH.nil))
                    · go_simp
                      refine ((HJa _).out).mono ?_
                      rintro e9 U3 ⟨rfl, hb3⟩
                      have hB3 : Below WR.heap.size WR U3 := hB2.trans (hb3.mono hB2.size)
                      have hk4_3 := hk4_2.below hb3
                      go_simp
                      refine hK.out _ _ (by first | exact (HBox _ (HbR.out.trans (hB3.mono HbR.out.size))).out | skip) (fun _ => ?_)
                      clear hK K
                      try simp only [Act.put, List.setIfInBounds_toArray, List.set_cons_zero, List.set_cons_succ]
                      refine wpAnyH_ready (rs := [5]) (by kernel_rfl) (by simp) ?_
                      refine AllReadyH.cons (i := 5) rfl (fun K hK => ?_) (AllReadyH.nil)
                      · go_simp
                        have hb4 : Below U3.heap.size U3 (U3.alloc (.cells #[.int .i64 0, .int .i64 0] 46)) := (Below.refl _ _).alloc (Nat.le_refl _) _
                        have hk5_4 := Blk.new U3 #[.int .i64 0, .int .i64 0] 46
                        have hB4 : Below WR.heap.size WR (U3.alloc (.cells #[.int .i64 0, .int .i64 0] 46)) := hB3.trans (hb4.mono hB3.size)
                        have hlo5 : WR.heap.size ≤ U3.heap.size := hB3.size
                        have hk4_4 := hk4_3.below hb4
                        have hne : U1.heap.size < U3.heap.size := hk4_3.lt
                        refine hK.out _ _ (by first | exact (HBox _ (HbR.out.trans (hB4.mono HbR.out.size))).out | skip) (fun _ => ?_)
                        clear hK K
                        try simp only [Act.put, List.setIfInBounds_toArray, List.set_cons_zero, List.set_cons_succ]
                        generalize U3.alloc (.cells #[.int .i64 0, .int .i64 0] 46) = U4 at *
                        as_aux_lemma =>
                          have kA := hk4_4
                          have kB := hk5_4
                          refine wpAnyH_ready (rs := [6]) (by kernel_rfl) (by simp) ?_
                          refine AllReadyH.cons (i := 6) rfl (fun K hK => ?_) AllReadyH.nil
                          have c0 := kA.cell 0 _ rfl
                          have c1 := kA.cell 1 _ rfl
                          have f0 := kA.frozen 0
                          have f1 := (kA.set 0 (.int .i64 15360)).frozen 1
                          have f1' := kA.frozen 1
                          have kA2 := (kA.set 0 (.int .i64 15360)).set 1 (.int .i64 z)
                          have hcA : Chg (fun i => i = U1.heap.size) U4 ((U4.setCell ⟨U1.heap.size, 0, none⟩ (.int .i64 15360)).setCell ⟨U1.heap.size, 1, none⟩ (.int .i64 z)) := ((Chg.refl (fun i => i = U1.heap.size) U4).setCell U1.heap.size 0 _ (fun _ => rfl)).setCell U1.heap.size 1 _ (fun _ => rfl)
                          have hB5 : Below WR.heap.size WR ((U4.setCell ⟨U1.heap.size, 0, none⟩ (.int .i64 15360)).setCell ⟨U1.heap.size, 1, none⟩ (.int .i64 z)) := (hB4.setCell (p := ⟨U1.heap.size, 0, none⟩) hlo4 _).setCell (p := ⟨U1.heap.size, 1, none⟩) hlo4 _
                          have kB2 := kB.chg hcA (by omega)
                          go_simp
                          refine hK.out _ _ (by first | exact (HBox _ (HbR.out.trans (hB5.mono HbR.out.size))).out | skip) (fun _ => ?_)
                          clear hK K
                          try simp only [Act.put, List.setIfInBounds_toArray, List.set_cons_zero, List.set_cons_succ]
                          clear c0 c1 f0 f1 f1' hcA
                          generalize (U4.setCell ⟨U1.heap.size, 0, none⟩ (.int .i64 15360)).setCell ⟨U1.heap.size, 1, none⟩ (.int .i64 z) = V1 at *
                          refine wpAnyH_ready (rs := [7]) (by kernel_rfl) (by simp) ?_
                          refine AllReadyH.cons (i := 7) rfl (fun K hK => ?_) AllReadyH.nil
                          have c0 := kB2.cell 0 _ rfl
                          have c1 := kB2.cell 1 _ rfl
                          have f0 := kB2.frozen 0
                          have f1 := (kB2.set 0 (.int .i64 512)).frozen 1
                          have f1' := kB2.frozen 1
                          have kB3 := (kB2.set 0 (.int .i64 512)).set 1 (.int .i64 15360)
                          have hcB : Chg (fun i => i = U3.heap.size) V1 ((V1.setCell ⟨U3.heap.size, 0, none⟩ (.int .i64 512)).setCell ⟨U3.heap.size, 1, none⟩ (.int .i64 15360)) := ((Chg.refl (fun i => i = U3.heap.size) V1).setCell U3.heap.size 0 _ (fun _ => rfl)).setCell U3.heap.size 1 _ (fun _ => rfl)
                          have hB6 : Below WR.heap.size WR ((V1.setCell ⟨U3.heap.size, 0, none⟩ (.int .i64 512)).setCell ⟨U3.heap.size, 1, none⟩ (.int .i64 15360)) := (hB5.setCell (p := ⟨U3.heap.size, 0, none⟩) hlo5 _).setCell (p := ⟨U3.heap.size, 1, none⟩) hlo5 _
                          have kA3 := kA2.chg hcB (by omega)
                          go_simp
                          refine hK.out _ _ (by first | exact (HBox _ (HbR.out.trans (hB6.mono HbR.out.size))).out | skip) (fun _ => ?_)
                          clear hK K
                          try simp only [Act.put, List.setIfInBounds_toArray, List.set_cons_zero, List.set_cons_succ]
                          clear c0 c1 f0 f1 f1' hcB
                          generalize (V1.setCell ⟨U3.heap.size, 0, none⟩ (.int .i64 512)).setCell ⟨U3.heap.size, 1, none⟩ (.int .i64 15360) = V2 at *
                          refine wpAnyH_done (by kernel_rfl) ?_ _
                          go_wp2_with fail
                          go_meet
                          exact ⟨U1.heap.size, U3.heap.size, rfl, rfl, kA3.cell 0 _ rfl, kB3.cell 0 _ rfl, kB3.cell 1 _ rfl, kA3.lt, kB3.lt, hB6⟩
                    · go_simp
                      have hb3 : Below U2.heap.size U2 (U2.alloc (.cells #[.int .i64 0, .int .i64 0] 46)) := (Below.refl _ _).alloc (Nat.le_refl _) _
                      have hk5_3 := Blk.new U2 #[.int .i64 0, .int .i64 0] 46
                      have hB3 : Below WR.heap.size WR (U2.alloc (.cells #[.int .i64 0, .int .i64 0] 46)) := hB2.trans (hb3.mono hB2.size)
                      have hlo5 : WR.heap.size ≤ U2.heap.size := hB2.size
                      have hk4_3 := hk4_2.below hb3
                      have hne : U1.heap.size < U2.heap.size := hk4_2.lt
                      refine hK.out _ _ (by first | exact (HBox _ (HbR.out.trans (hB3.mono HbR.out.size))).out | skip) (fun _ => ?_)
                      clear hK K
                      try simp only [Act.put, List.setIfInBounds_toArray, List.set_cons_zero, List.set_cons_succ]
                      generalize U2.alloc (.cells #[.int .i64 0, .int .i64 0] 46) = U3 at *
                      refine wpAnyH_ready (rs := [3]) (by kernel_rfl) (by simp) ?_
                      refine AllReadyH.cons (i := 3) rfl (fun K hK => ?_) (AllReadyH.nil)
                      · go_simp
                        refine ((HJa _).out).mono ?_
                        rintro e9 U4 ⟨rfl, hb4⟩
                        have hB4 : Below WR.heap.size WR U4 := hB3.trans (hb4.mono hB3.size)
                        have hk4_4 := hk4_3.below hb4
                        have hk5_4 := hk5_3.below hb4
                        go_simp
                        refine hK.out _ _ (by first | exact (HBox _ (HbR.out.trans (hB4.mono HbR.out.size))).out | skip) (fun _ => ?_)
                        clear hK K
                        try simp only [Act.put, List.setIfInBounds_toArray, List.set_cons_zero, List.set_cons_succ]
                        as_aux_lemma =>
                          have kA := hk4_4
                          have kB := hk5_4
                          refine wpAnyH_ready (rs := [6]) (by kernel_rfl) (by simp) ?_
                          refine AllReadyH.cons (i := 6) rfl (fun K hK => ?_) AllReadyH.nil
                          have c0 := kA.cell 0 _ rfl
                          have c1 := kA.cell 1 _ rfl
                          have f0 := kA.frozen 0
                          have f1 := (kA.set 0 (.int .i64 15360)).frozen 1
                          have f1' := kA.frozen 1
                          have kA2 := (kA.set 0 (.int .i64 15360)).set 1 (.int .i64 z)
                          have hcA : Chg (fun i => i = U1.heap.size) U4 ((U4.setCell ⟨U1.heap.size, 0, none⟩ (.int .i64 15360)).setCell ⟨U1.heap.size, 1, none⟩ (.int .i64 z)) := ((Chg.refl (fun i => i = U1.heap.size) U4).setCell U1.heap.size 0 _ (fun _ => rfl)).setCell U1.heap.size 1 _ (fun _ => rfl)
                          have hB5 : Below WR.heap.size WR ((U4.setCell ⟨U1.heap.size, 0, none⟩ (.int .i64 15360)).setCell ⟨U1.heap.size, 1, none⟩ (.int .i64 z)) := (hB4.setCell (p := ⟨U1.heap.size, 0, none⟩) hlo4 _).setCell (p := ⟨U1.heap.size, 1, none⟩) hlo4 _
                          have kB2 := kB.chg hcA (by omega)
                          go_simp
                          refine hK.out _ _ (by first | exact (HBox _ (HbR.out.trans (hB5.mono HbR.out.size))).out | skip) (fun _ => ?_)
                          clear hK K
                          try simp only [Act.put, List.setIfInBounds_toArray, List.set_cons_zero, List.set_cons_succ]
                          clear c0 c1 f0 f1 f1' hcA
                          generalize (U4.setCell ⟨U1.heap.size, 0, none⟩ (.int .i64 15360)).setCell ⟨U1.heap.size, 1, none⟩ (.int .i64 z) = V1 at *
                          refine wpAnyH_ready (rs := [7]) (by kernel_rfl) (by simp) ?_
                          refine AllReadyH.cons (i := 7) rfl (fun K hK => ?_) AllReadyH.nil
                          have c0 := kB2.cell 0 _ rfl
                          have c1 := kB2.cell 1 _ rfl
                          have f0 := kB2.frozen 0
                          have f1 := (kB2.set 0 (.int .i64 512)).frozen 1
                          have f1' := kB2.frozen 1
                          have kB3 := (kB2.set 0 (.int .i64 512)).set 1 (.int .i64 15360)
                          have hcB : Chg (fun i => i = U2.heap.size) V1 ((V1.setCell ⟨U2.heap.size, 0, none⟩ (.int .i64 512)).setCell ⟨U2.heap.size, 1, none⟩ (.int .i64 15360)) := ((Chg.refl (fun i => i = U2.heap.size) V1).setCell U2.heap.size 0 _ (fun _ => rfl)).setCell U2.heap.size 1 _ (fun _ => rfl)
                          have hB6 : Below WR.heap.size WR ((V1.setCell ⟨U2.heap.size, 0, none⟩ (.int .i64 512)).setCell ⟨U2.heap.size, 1, none⟩ (.int .i64 15360)) := (hB5.setCell (p := ⟨U2.heap.size, 0, none⟩) hlo5 _).setCell (p := ⟨U2.heap.size, 1, none⟩) hlo5 _
                          have kA3 := kA2.chg hcB (by omega)
                          go_simp
                          refine hK.out _ _ (by first | exact (HBox _ (HbR.out.trans (hB6.mono HbR.out.size))).out | skip) (fun _ => ?_)
                          clear hK K
                          try simp only [Act.put, List.setIfInBounds_toArray, List.set_cons_zero, List.set_cons_succ]
                          clear c0 c1 f0 f1 f1' hcB
                          generalize (V1.setCell ⟨U2.heap.size, 0, none⟩ (.int .i64 512)).setCell ⟨U2.heap.size, 1, none⟩ (.int .i64 15360) = V2 at *
                          refine wpAnyH_done (by kernel_rfl) ?_ _
                          go_wp2_with fail
                          go_meet
                          exact ⟨U1.heap.size, U2.heap.size, rfl, rfl, kA3.cell 0 _ rfl, kB3.cell 0 _ rfl, kB3.cell 1 _ rfl, kA3.lt, kB3.lt, hB6⟩
                  · go_simp
                    have hb2 : Below U1.heap.size U1 (U1.alloc (.cells #[.int .i64 0, .int .i64 0] 46)) := (Below.refl _ _).alloc (Nat.le_refl _) _
                    have hk5_2 := Blk.new U1 #[.int .i64 0, .int .i64 0] 46
                    have hB2 : Below WR.heap.size WR (U1.alloc (.cells #[.int .i64 0, .int .i64 0] 46)) := hB1.trans (hb2.mono hB1.size)
                    have hlo5 : WR.heap.size ≤ U1.heap.size := hB1.size
                    refine hK.out _ _ (by first | exact (HBox _ (HbR.out.trans (hB2.mono HbR.out.size))).out | skip) (fun _ => ?_)
                    clear hK K
                    try simp only [Act.put, List.setIfInBounds_toArray, List.set_cons_zero, List.set_cons_succ]
                    generalize U1.alloc (.cells #[.int .i64 0, .int .i64 0] 46) = U2 at *
                    refine wpAnyH_ready (rs := [3, 4]) (by kernel_rfl) (by simp) ?_
                    refine AllReadyH.cons (i := 3) rfl (fun K hK => ?_) (AllReadyH.cons (i := 4) rfl (fun K hK => ?_) (AllReadyH.nil))
                    · go_simp
                      refine ((HJa _).out).mono ?_
                      rintro e9 U3 ⟨rfl, hb3⟩
                      have hB3 : Below WR.heap.size WR U3 := hB2.trans (hb3.mono hB2.size)
                      have hk5_3 := hk5_2.below hb3
                      go_simp
                      refine hK.out _ _ (by first | exact (HBox _ (HbR.out.trans (hB3.mono HbR.out.size))).out | skip) (fun _ => ?_)
                      clear hK K
                      try simp only [Act.put, List.setIfInBounds_toArray, List.set_cons_zero, List.set_cons_succ]
                      refine wpAnyH_ready (rs := [4]) (by kernel_rfl) (by simp) ?_
                      refine AllReadyH.cons (i := 4) rfl (fun K hK => ?_) (AllReadyH.nil)
                      · go_simp
                        have hb4 : Below U3.heap.size U3 (U3.alloc (.cells #[.int .i64 0, .int .i64 0] 46)) := (Below.refl _ _).alloc (Nat.le_refl _) _
                        have hk4_4 := Blk.new U3 #[.int .i64 0, .int .i64 0] 46
                        have hB4 : Below WR.heap.size WR (U3.alloc (.cells #[.int .i64 0, .int .i64 0] 46)) := hB3.trans (hb4.mono hB3.size)
                        have hlo4 : WR.heap.size ≤ U3.heap.size := hB3.size
                        have hk5_4 := hk5_3.below hb4
                        have hne : U1.heap.size < U3.heap.size := hk5_3.lt
                        refine hK.out _ _ (by first | exact (HBox _ (HbR.out.trans (hB4.mono HbR.out.size))).out | skip) (fun _ => ?_)
                        clear hK K
                        try simp only [Act.put, List.setIfInBounds_toArray, List.set_cons_zero, List.set_cons_succ]
                        generalize U3.alloc (.cells #[.int .i64 0, .int .i64 0] 46) = U4 at *
                        as_aux_lemma =>
                          have kA := hk4_4
                          have kB := hk5_4
                          refine wpAnyH_ready (rs := [6]) (by kernel_rfl) (by simp) ?_
                          refine AllReadyH.cons (i := 6) rfl (fun K hK => ?_) AllReadyH.nil
                          have c0 := kA.cell 0 _ rfl
                          have c1 := kA.cell 1 _ rfl
                          have f0 := kA.frozen 0
                          have f1 := (kA.set 0 (.int .i64 15360)).frozen 1
                          have f1' := kA.frozen 1
                          have kA2 := (kA.set 0 (.int .i64 15360)).set 1 (.int .i64 z)
                          have hcA : Chg (fun i => i = U3.heap.size) U4 ((U4.setCell ⟨U3.heap.size, 0, none⟩ (.int .i64 15360)).setCell ⟨U3.heap.size, 1, none⟩ (.int .i64 z)) := ((Chg.refl (fun i => i = U3.heap.size) U4).setCell U3.heap.size 0 _ (fun _ => rfl)).setCell U3.heap.size 1 _ (fun _ => rfl)
                          have hB5 : Below WR.heap.size WR ((U4.setCell ⟨U3.heap.size, 0, none⟩ (.int .i64 15360)).setCell ⟨U3.heap.size, 1, none⟩ (.int .i64 z)) := (hB4.setCell (p := ⟨U3.heap.size, 0, none⟩) hlo4 _).setCell (p := ⟨U3.heap.size, 1, none⟩) hlo4 _
                          have kB2 := kB.chg hcA (by omega)
                          go_simp
                          refine hK.out _ _ (by first | exact (HBox _ (HbR.out.trans (hB5.mono HbR.out.size))).out | skip) (fun _ => ?_)
                          clear hK K
                          try simp only [Act.put, List.setIfInBounds_toArray, List.set_cons_zero, List.set_cons_succ]
                          clear c0 c1 f0 f1 f1' hcA
                          generalize (U4.setCell ⟨U3.heap.size, 0, none⟩ (.int .i64 15360)).setCell ⟨U3.heap.size, 1, none⟩ (.int .i64 z) = V1 at *
                          refine wpAnyH_ready (rs := [7]) (by kernel_rfl) (by simp) ?_
                          refine AllReadyH.cons (i := 7) rfl (fun K hK => ?_) AllReadyH.nil
                          have c0 := kB2.cell 0 _ rfl
                          have c1 := kB2.cell 1 _ rfl
                          have f0 := kB2.frozen 0
                          have f1 := (kB2.set 0 (.int .i64 512)).frozen 1
                          have f1' := kB2.frozen 1
                          have kB3 := (kB2.set 0 (.int .i64 512)).set 1 (.int .i64 15360)
                          have hcB : Chg (fun i => i = U1.heap.size) V1 ((V1.setCell ⟨U1.heap.size, 0, none⟩ (.int .i64 512)).setCell ⟨U1.heap.size, 1, none⟩ (.int .i64 15360)) := ((Chg.refl (fun i => i = U1.heap.size) V1).setCell U1.heap.size 0 _ (fun _ => rfl)).setCell U1.heap.size 1 _ (fun _ => rfl)
                          have hB6 : Below WR.heap.size WR ((V1.setCell ⟨U1.heap.size, 0, none⟩ (.int .i64 512)).setCell ⟨U1.heap.size, 1, none⟩ (.int .i64 15360)) := (hB5.setCell (p := ⟨U1.heap.size, 0, none⟩) hlo5 _).setCell (p := ⟨U1.heap.size, 1, none⟩) hlo5 _
                          have kA3 := kA2.chg hcB (by omega)
                          go_simp
                          refine hK.out _ _ (by first | exact (HBox _ (HbR.out.trans (hB6.mono HbR.out.size))).out | skip) (fun _ => ?_)
                          clear hK K
                          try simp only [Act.put, List.setIfInBounds_toArray, List.set_cons_zero, List.set_cons_succ]
                          clear c0 c1 f0 f1 f1' hcB
                          generalize (V1.setCell ⟨U1.heap.size, 0, none⟩ (.int .i64 512)).setCell ⟨U1.heap.size, 1, none⟩ (.int .i64 15360) = V2 at *
                          refine wpAnyH_done (by kernel_rfl) ?_ _
                          go_wp2_with fail
                          go_meet
                          exact ⟨U3.heap.size, U1.heap.size, rfl, rfl, kA3.cell 0 _ rfl, kB3.cell 0 _ rfl, kB3.cell 1 _ rfl, kA3.lt, kB3.lt, hB6⟩
                    · go_simp
                      have hb3 : Below U2.heap.size U2 (U2.alloc (.cells #[.int .i64 0, .int .i64 0] 46)) := (Below.refl _ _).alloc (Nat.le_refl _) _
                      have hk4_3 := Blk.new U2 #[.int .i64 0, .int .i64 0] 46
                      have hB3 : Below WR.heap.size WR (U2.alloc (.cells #[.int .i64 0, .int .i64 0] 46)) := hB2.trans (hb3.mono hB2.size)
                      have hlo4 : WR.heap.size ≤ U2.heap.size := hB2.size
                      have hk5_3 := hk5_2.below hb3
                      have hne : U1.heap.size < U2.heap.size := hk5_2.lt
                      refine hK.out _ _ (by first | exact (HBox _ (HbR.out.trans (hB3.mono HbR.out.size))).out | skip) (fun _ => ?_)
                      clear hK K
                      try simp only [Act.put, List.setIfInBounds_toArray, List.set_cons_zero, List.set_cons_succ]
                      generalize U2.alloc (.cells #[.int .i64 0, .int .i64 0] 46) = U3 at *
                      refine wpAnyH_ready (rs := [3]) (by kernel_rfl) (by simp) ?_
                      refine AllReadyH.cons (i := 3) rfl (fun K hK => ?_) (AllReadyH.nil)
                      · go_simp
                        refine ((HJa _).out).mono ?_
                        rintro e9 U4 ⟨rfl, hb4⟩
                        have hB4 : Below WR.heap.size WR U4 := hB3.trans (hb4.mono hB3.size)
                        have hk5_4 := hk5_3.below hb4
                        have hk4_4 := hk4_3.below hb4
                        go_simp
                        refine hK.out _ _ (by first | exact (HBox _ (HbR.out.trans (hB4.mono HbR.out.size))).out | skip) (fun _ => ?_)
                        clear hK K
                        try simp only [Act.put, List.setIfInBounds_toArray, List.set_cons_zero, List.set_cons_succ]
                        as_aux_lemma =>
                          have kA := hk4_4
                          have kB := hk5_4
                          refine wpAnyH_ready (rs := [6]) (by kernel_rfl) (by simp) ?_
                          refine AllReadyH.cons (i := 6) rfl (fun K hK => ?_) AllReadyH.nil
                          have c0 := kA.cell 0 _ rfl
                          have c1 := kA.cell 1 _ rfl
                          have f0 := kA.frozen 0
                          have f1 := (kA.set 0 (.int .i64 15360)).frozen 1
                          have f1' := kA.frozen 1
                          have kA2 := (kA.set 0 (.int .i64 15360)).set 1 (.int .i64 z)
                          have hcA : Chg (fun i => i = U2.heap.size) U4 ((U4.setCell ⟨U2.heap.size, 0, none⟩ (.int .i64 15360)).setCell ⟨U2.heap.size, 1, none⟩ (.int .i64 z)) := ((Chg.refl (fun i => i = U2.heap.size) U4).setCell U2.heap.size 0 _ (fun _ => rfl)).setCell U2.heap.size 1 _ (fun _ => rfl)
                          have hB5 : Below WR.heap.size WR ((U4.setCell ⟨U2.heap.size, 0, none⟩ (.int .i64 15360)).setCell ⟨U2.heap.size, 1, none⟩ (.int .i64 z)) := (hB4.setCell (p := ⟨U2.heap.size, 0, none⟩) hlo4 _).setCell (p := ⟨U2.heap.size, 1, none⟩) hlo4 _
                          have kB2 := kB.chg hcA (by omega)
                          go_simp
                          refine hK.out _ _ (by first | exact (HBox _ (HbR.out.trans (hB5.mono HbR.out.size))).out | skip) (fun _ => ?_)
                          clear hK K
                          try simp only [Act.put, List.setIfInBounds_toArray, List.set_cons_zero, List.set_cons_succ]
                          clear c0 c1 f0 f1 f1' hcA
                          generalize (U4.setCell ⟨U2.heap.size, 0, none⟩ (.int .i64 15360)).setCell ⟨U2.heap.size, 1, none⟩ (.int .i64 z) = V1 at *
                          refine wpAnyH_ready (rs := [7]) (by kernel_rfl) (by simp) ?_
                          refine AllReadyH.cons (i := 7) rfl (fun K hK => ?_) AllReadyH.nil
                          have c0 := kB2.cell 0 _ rfl
                          have c1 := kB2.cell 1 _ rfl
                          have f0 := kB2.frozen 0
                          have f1 := (kB2.set 0 (.int .i64 512)).frozen 1
                          have f1' := kB2.frozen 1
                          have kB3 := (kB2.set 0 (.int .i64 512)).set 1 (.int .i64 15360)
                          have hcB : Chg (fun i => i = U1.heap.size) V1 ((V1.setCell ⟨U1.heap.size, 0, none⟩ (.int .i64 512)).setCell ⟨U1.heap.size, 1, none⟩ (.int .i64 15360)) := ((Chg.refl (fun i => i = U1.heap.size) V1).setCell U1.heap.size 0 _ (fun _ => rfl)).setCell U1.heap.size 1 _ (fun _ => rfl)
                          have hB6 : Below WR.heap.size WR ((V1.setCell ⟨U1.heap.size, 0, none⟩ (.int .i64 512)).setCell ⟨U1.heap.size, 1, none⟩ (.int .i64 15360)) := (hB5.setCell (p := ⟨U1.heap.size, 0, none⟩) hlo5 _).setCell (p := ⟨U1.heap.size, 1, none⟩) hlo5 _
                          have kA3 := kA2.chg hcB (by omega)
                          go_simp
                          refine hK.out _ _ (by first | exact (HBox _ (HbR.out.trans (hB6.mono HbR.out.size))).out | skip) (fun _ => ?_)
                          clear hK K
                          try simp only [Act.put, List.setIfInBounds_toArray, List.set_cons_zero, List.set_cons_succ]
                          clear c0 c1 f0 f1 f1' hcB
                          generalize (V1.setCell ⟨U1.heap.size, 0, none⟩ (.int .i64 512)).setCell ⟨U1.heap.size, 1, none⟩ (.int .i64 15360) = V2 at *
                          refine wpAnyH_done (by kernel_rfl) ?_ _
                          go_wp2_with fail
                          go_meet
                          exact ⟨U2.heap.size, U1.heap.size, rfl, rfl, kA3.cell 0 _ rfl, kB3.cell 0 _ rfl, kB3.cell 1 _ rfl, kA3.lt, kB3.lt, hB6⟩
                · go_simp
                  have hb1 : Below U0.heap.size U0 (U0.alloc (.cells #[.int .i64 0, .int .i64 0] 46)) := (Below.refl _ _).alloc (Nat.le_refl _) _
                  have hk4_1 := Blk.new U0 #[.int .i64 0, .int .i64 0] 46
                  have hB1 : Below WR.heap.size WR (U0.alloc (.cells #[.int .i64 0, .int .i64 0] 46)) := hB0.trans (hb1.mono hB0.size)
                  have hlo4 : WR.heap.size ≤ U0.heap.size := hB0.size
                  refine hK.out _ _ (by first | exact (HBox _ (HbR.out.trans (hB1.mono HbR.out.size))).out | skip) (fun _ => ?_)
                  clear hK K
                  try simp only [Act.put, List.setIfInBounds_toArray, List.set_cons_zero, List.set_cons_succ]
                  generalize U0.alloc (.cells #[.int .i64 0, .int .i64 0] 46) = U1 at *
                  refine wpAnyH_ready (rs := [1, 5]) (by kernel_rfl) (by simp) ?_
                  refine AllReadyH.cons (i := 1) rfl (fun K hK => ?_) (AllReadyH.cons (i := 5) rfl (fun K hK => ?_) (AllReadyH.nil))
                  · go_simp
                    refine ((HRa _).out).mono ?_
                    rintro e9 U2 ⟨z, rfl, hb2⟩
                    have hB2 : Below WR.heap.size WR U2 := hB1.trans (hb2.mono hB1.size)
                    have hk4_2 := hk4_1.below hb2
                    go_simp
                    refine hK.out _ _ (by first | exact (HBox _ (HbR.out.trans (hB2.mono HbR.out.size))).out | skip) (fun _ => ?_)
                    clear hK K
                    try simp only [Act.put, List.setIfInBounds_toArray, List.set_cons_zero, List.set_cons_succ]
                    refine wpAnyH_ready (rs := [3, 5]) (by kernel_rfl) (by simp) ?_
                    refine AllReadyH.cons (i := 3) rfl (fun K hK => ?_) (AllReadyH.cons (i := 5) rfl (fun K hK => ?_) (AllReadyH.nil))
                    · go_simp
                      refine ((HJa _).out).mono ?_
                      rintro e9 U3 ⟨rfl, hb3⟩
                      have hB3 : Below WR.heap.size WR U3 := hB2.trans (hb3.mono hB2.size)
                      have hk4_3 := hk4_2.below hb3
                      go_simp
                      refine hK.out _ _ (by first | exact (HBox _ (HbR.out.trans (hB3.mono HbR.out.size))).out | skip) (fun _ => ?_)
                      clear hK K
                      try simp only [Act.put, List.setIfInBounds_toArray, List.set_cons_zero, List.set_cons_succ]
                      refine wpAnyH_ready (rs := [5]) (by kernel_rfl) (by simp) ?_
                      refine AllReadyH.cons (i := 5) rfl (fun K hK => ?_) (AllReadyH.nil)
                      · go_simp
                        have hb4 : Below U3.heap.size U3 (U3.alloc (.cells #[.int .i64 0, .int .i64 0] 46)) := (Below.refl _ _).alloc (Nat.le_refl _) _
                        have hk5_4 := Blk.new U3 #[.int .i64 0, .int .i64 0] 46
                        have hB4 : Below WR.heap.size WR (U3.alloc (.cells #[.int .i64 0, .int .i64 0] 46)) := hB3.trans (hb4.mono hB3.size)
                        have hlo5 : WR.heap.size ≤ U3.heap.size := hB3.size
                        have hk4_4 := hk4_3.below hb4
                        have hne : U0.heap.size < U3.heap.size := hk4_3.lt
                        refine hK.out _ _ (by first | exact (HBox _ (HbR.out.trans (hB4.mono HbR.out.size))).out | skip) (fun _ => ?_)
                        clear hK K
                        try simp only [Act.put, List.setIfInBounds_toArray, List.set_cons_zero, List.set_cons_succ]
                        generalize U3.alloc (.cells #[.int .i64 0, .int .i64 0] 46) = U4 at *
                        as_aux_lemma =>
                          have kA := hk4_4
                          have kB := hk5_4
                          refine wpAnyH_ready (rs := [6]) (by kernel_rfl) (by simp) ?_
                          refine AllReadyH.cons (i := 6) rfl (fun K hK => ?_) AllReadyH.nil
                          have c0 := kA.cell 0 _ rfl
                          have c1 := kA.cell 1 _ rfl
                          have f0 := kA.frozen 0
                          have f1 := (kA.set 0 (.int .i64 15360)).frozen 1
                          have f1' := kA.frozen 1
                          have kA2 := (kA.set 0 (.int .i64 15360)).set 1 (.int .i64 z)
                          have hcA : Chg (fun i => i = U0.heap.size) U4 ((U4.setCell ⟨U0.heap.size, 0, none⟩ (.int .i64 15360)).setCell ⟨U0.heap.size, 1, none⟩ (.int .i64 z)) := ((Chg.refl (fun i => i = U0.heap.size) U4).setCell U0.heap.size 0 _ (fun _ => rfl)).setCell U0.heap.size 1 _ (fun _ => rfl)
                          have hB5 : Below WR.heap.size WR ((U4.setCell ⟨U0.heap.size, 0, none⟩ (.int .i64 15360)).setCell ⟨U0.heap.size, 1, none⟩ (.int .i64 z)) := (hB4.setCell (p := ⟨U0.heap.size, 0, none⟩) hlo4 _).setCell (p := ⟨U0.heap.size, 1, none⟩) hlo4 _
                          have kB2 := kB.chg hcA (by omega)
                          go_simp
                          refine hK.out _ _ (by first | exact (HBox _ (HbR.out.trans (hB5.mono HbR.out.size))).out | skip) (fun _ => ?_)
                          clear hK K
                          try simp only [Act.put, List.setIfInBounds_toArray, List.set_cons_zero, List.set_cons_succ]
                          clear c0 c1 f0 f1 f1' hcA
                          generalize (U4.setCell ⟨U0.heap.size, 0, none⟩ (.int .i64 15360)).setCell ⟨U0.heap.size, 1, none⟩ (.int .i64 z) = V1 at *
                          refine wpAnyH_ready (rs := [7]) (by kernel_rfl) (by simp) ?_
                          refine AllReadyH.cons (i := 7) rfl (fun K hK => ?_) AllReadyH.nil
                          have c0 := kB2.cell 0 _ rfl
                          have c1 := kB2.cell 1 _ rfl
                          have f0 := kB2.frozen 0
                          have f1 := (kB2.set 0 (.int .i64 512)).frozen 1
                          have f1' := kB2.frozen 1
                          have kB3 := (kB2.set 0 (.int .i64 512)).set 1 (.int .i64 15360)
                          have hcB : Chg (fun i => i = U3.heap.size) V1 ((V1.setCell ⟨U3.heap.size, 0, none⟩ (.int .i64 512)).setCell ⟨U3.heap.size, 1, none⟩ (.int .i64 15360)) := ((Chg.refl (fun i => i = U3.heap.size) V1).setCell U3.heap.size 0 _ (fun _ => rfl)).setCell U3.heap.size 1 _ (fun _ => rfl)
                          have hB6 : Below WR.heap.size WR ((V1.setCell ⟨U3.heap.size, 0, none⟩ (.int .i64 512)).setCell ⟨U3.heap.size, 1, none⟩ (.int .i64 15360)) := (hB5.setCell (p := ⟨U3.heap.size, 0, none⟩) hlo5 _).setCell (p := ⟨U3.heap.size, 1, none⟩) hlo5 _
                          have kA3 := kA2.chg hcB (by omega)
                          go_simp
                          refine hK.out _ _ (by first | exact (HBox _ (HbR.out.trans (hB6.mono HbR.out.size))).out | skip) (fun _ => ?_)
                          clear hK K
                          try simp only [Act.put, List.setIfInBounds_toArray, List.set_cons_zero, List.set_cons_succ]
                          clear c0 c1 f0 f1 f1' hcB
                          generalize (V1.setCell ⟨U3.heap.size, 0, none⟩ (.int .i64 512)).setCell ⟨U3.heap.size, 1, none⟩ (.int .i64 15360) = V2 at *
                          refine wpAnyH_done (by kernel_rfl) ?_ _
                          go_wp2_with fail
                          go_meet
                          exact ⟨U0.heap.size, U3.heap.size, rfl, rfl, kA3.cell 0 _ rfl, kB3.cell 0 _ rfl, kB3.cell 1 _ rfl, kA3.lt, kB3.lt, hB6⟩
                    · go_simp
                      have hb3 : Below U2.heap.size U2 (U2.alloc (.cells #[.int .i64 0, .int .i64 0] 46)) := (Below.refl _ _).alloc (Nat.le_refl _) _
                      have hk5_3 := Blk.new U2 #[.int .i64 0, .int .i64 0] 46
                      have hB3 : Below WR.heap.size WR (U2.alloc (.cells #[.int .i64 0, .int .i64 0] 46)) := hB2.trans (hb3.mono hB2.size)
                      have hlo5 : WR.heap.size ≤ U2.heap.size := hB2.size
                      have hk4_3 := hk4_2.below hb3
                      have hne : U0.heap.size < U2.heap.size := hk4_2.lt
                      refine hK.out _ _ (by first | exact (HBox _ (HbR.out.trans (hB3.mono HbR.out.size))).out | skip) (fun _ => ?_)
                      clear hK K
                      try simp only [Act.put, List.setIfInBounds_toArray, List.set_cons_zero, List.set_cons_succ]
                      generalize U2.alloc (.cells #[.int .i64 0, .int .i64 0] 46) = U3 at *
                      refine wpAnyH_ready (rs := [3]) (by kernel_rfl) (by simp) ?_
                      refine AllReadyH.cons (i := 3) rfl (fun K hK => ?_) (AllReadyH.nil)
                      · go_simp
                        refine ((HJa _).out).mono ?_
                        rintro e9 U4 ⟨rfl, hb4⟩
                        have hB4 : Below WR.heap.size WR U4 := hB3.trans (hb4.mono hB3.size)
                        have hk4_4 := hk4_3.below hb4
                        have hk5_4 := hk5_3.below hb4
                        go_simp
                        refine hK.out _ _ (by first | exact (HBox _ (HbR.out.trans (hB4.mono HbR.out.size))).out | skip) (fun _ => ?_)
                        clear hK K
                        try simp only [Act.put, List.setIfInBounds_toArray, List.set_cons_zero, List.set_cons_succ]
                        as_aux_lemma =>
                          have kA := hk4_4
                          have kB := hk5_4
                          refine wpAnyH_ready (rs := [6]) (by kernel_rfl) (by simp) ?_
                          refine AllReadyH.cons (i := 6) rfl (fun K hK => ?_) AllReadyH.nil
                          have c0 := kA.cell 0 _ rfl
                          have c1 := kA.cell 1 _ rfl
                          have f0 := kA.frozen 0
                          have f1 := (kA.set 0 (.int .i64 15360)).frozen 1
                          have f1' := kA.frozen 1
                          have kA2 := (kA.set 0 (.int .i64 15360)).set 1 (.int .i64 z)
                          have hcA : Chg (fun i => i = U0.heap.size) U4 ((U4.setCell ⟨U0.heap.size, 0, none⟩ (.int .i64 15360)).setCell ⟨U0.heap.size, 1, none⟩ (.int .i64 z)) := ((Chg.refl (fun i => i = U0.heap.size) U4).setCell U0.heap.size 0 _ (fun _ => rfl)).setCell U0.heap.size 1 _ (fun _ => rfl)
                          have hB5 : Below WR.heap.size WR ((U4.setCell ⟨U0.heap.size, 0, none⟩ (.int .i64 15360)).setCell ⟨U0.heap.size, 1, none⟩ (.int .i64 z)) := (hB4.setCell (p := ⟨U0.heap.size, 0, none⟩) hlo4 _).setCell (p := ⟨U0.heap.size, 1, none⟩) hlo4 _
                          have kB2 := kB.chg hcA (by omega)
                          go_simp
                          refine hK.out _ _ (by first | exact (HBox _ (HbR.out.trans (hB5.mono HbR.out.size))).out | skip) (fun _ => ?_)
                          clear hK K
                          try simp only [Act.put, List.setIfInBounds_toArray, List.set_cons_zero, List.set_cons_succ]
                          clear c0 c1 f0 f1 f1' hcA
                          generalize (U4.setCell ⟨U0.heap.size, 0, none⟩ (.int .i64 15360)).setCell ⟨U0.heap.size, 1, none⟩ (.int .i64 z) = V1 at *
                          refine wpAnyH_ready (rs := [7]) (by kernel_rfl) (by simp) ?_
                          refine AllReadyH.cons (i := 7) rfl (fun K hK => ?_) AllReadyH.nil
                          have c0 := kB2.cell 0 _ rfl
                          have c1 := kB2.cell 1 _ rfl
                          have f0 := kB2.frozen 0
                          have f1 := (kB2.set 0 (.int .i64 512)).frozen 1
                          have f1' := kB2.frozen 1
                          have kB3 := (kB2.set 0 (.int .i64 512)).set 1 (.int .i64 15360)
                          have hcB : Chg (fun i => i = U2.heap.size) V1 ((V1.setCell ⟨U2.heap.size, 0, none⟩ (.int .i64 512)).setCell ⟨U2.heap.size, 1, none⟩ (.int .i64 15360)) := ((Chg.refl (fun i => i = U2.heap.size) V1).setCell U2.heap.size 0 _ (fun _ => rfl)).setCell U2.heap.size 1 _ (fun _ => rfl)
                          have hB6 : Below WR.heap.size WR ((V1.setCell ⟨U2.heap.size, 0, none⟩ (.int .i64 512)).setCell ⟨U2.heap.size, 1, none⟩ (.int .i64 15360)) := (hB5.setCell (p := ⟨U2.heap.size, 0, none⟩) hlo5 _).setCell (p := ⟨U2.heap.size, 1, none⟩) hlo5 _
                          have kA3 := kA2.chg hcB (by omega)
                          go_simp
                          refine hK.out _ _ (by first | exact (HBox _ (HbR.out.trans (hB6.mono HbR.out.size))).out | skip) (fun _ => ?_)
                          clear hK K
                          try simp only [Act.put, List.setIfInBounds_toArray, List.set_cons_zero, List.set_cons_succ]
                          clear c0 c1 f0 f1 f1' hcB
                          generalize (V1.setCell ⟨U2.heap.size, 0, none⟩ (.int .i64 512)).setCell ⟨U2.heap.size, 1, none⟩ (.int .i64 15360) = V2 at *
                          refine wpAnyH_done (by kernel_rfl) ?_ _
                          go_wp2_with fail
                          go_meet
                          exact ⟨U0.heap.size, U2.heap.size, rfl, rfl, kA3.cell 0 _ rfl, kB3.cell 0 _ rfl, kB3.cell 1 _ rfl, kA3.lt, kB3.lt, hB6⟩
                  · go_simp
                    have hb2 : Below U1.heap.size U1 (U1.alloc (.cells #[.int .i64 0, .int .i64 0] 46)) := (Below.refl _ _).alloc (Nat.le_refl _) _
                    have hk5_2 := Blk.new U1 #[.int .i64 0, .int .i64 0] 46
                    have hB2 : Below WR.heap.size WR (U1.alloc (.cells #[.int .i64 0, .int .i64 0] 46)) := hB1.trans (hb2.mono hB1.size)
                    have hlo5 : WR.heap.size ≤ U1.heap.size := hB1.size
                    have hk4_2 := hk4_1.below hb2
                    have hne : U0.heap.size < U1.heap.size := hk4_1.lt
                    refine hK.out _ _ (by first | exact (HBox _ (HbR.out.trans (hB2.mono HbR.out.size))).out | skip) (fun _ => ?_)
                    clear hK K
                    try simp only [Act.put, List.setIfInBounds_toArray, List.set_cons_zero, List.set_cons_succ]
                    generalize U1.alloc (.cells #[.int .i64 0, .int .i64 0] 46) = U2 at *
                    refine wpAnyH_ready (rs := [1]) (by kernel_rfl) (by simp) ?_
                    refine AllReadyH.cons (i := 1) rfl (fun K hK => ?_) (AllReadyH.nil)
                    · go_simp
                      refine ((HRa _).out).mono ?_
                      rintro e9 U3 ⟨z, rfl, hb3⟩
                      have hB3 : Below WR.heap.size WR U3 := hB2.trans (hb3.mono hB2.size)
                      have hk4_3 := hk4_2.below hb3
                      have hk5_3 := hk5_2.below hb3
                      go_simp
                      refine hK.out _ _ (by first | exact (HBox _ (HbR.out.trans (hB3.mono HbR.out.size))).out | skip) (fun _ => ?_)
                      clear hK K
                      try simp only [Act.put, List.setIfInBounds_toArray, List.set_cons_zero, List.set_cons_succ]
                      refine wpAnyH_ready (rs := [3]) (by kernel_rfl) (by simp) ?_
                      refine AllReadyH.cons (i := 3) rfl (fun K hK => ?_) (AllReadyH.nil)
                      · go_simp
                        refine ((HJa _).out).mono ?_
                        rintro e9 U4 ⟨rfl, hb4⟩
                        have hB4 : Below WR.heap.size WR U4 := hB3.trans (hb4.mono hB3.size)
                        have hk4_4 := hk4_3.below hb4
                        have hk5_4 := hk5_3.below hb4
                        go_simp
                        refine hK.out _ _ (by first | exact (HBox _ (HbR.out.trans (hB4.mono HbR.out.size))).out | skip) (fun _ => ?_)
                        clear hK K
                        try simp only [Act.put, List.setIfInBounds_toArray, List.set_cons_zero, List.set_cons_succ]
                        as_aux_lemma =>
                          have kA := hk4_4
                          have kB := hk5_4
                          refine wpAnyH_ready (rs := [6]) (by kernel_rfl) (by simp) ?_
                          refine AllReadyH.cons (i := 6) rfl (fun K hK => ?_) AllReadyH.nil
                          have c0 := kA.cell 0 _ rfl
                          have c1 := kA.cell 1 _ rfl
                          have f0 := kA.frozen 0
                          have f1 := (kA.set 0 (.int .i64 15360)).frozen 1
                          have f1' := kA.frozen 1
                          have kA2 := (kA.set 0 (.int .i64 15360)).set 1 (.int .i64 z)
                          have hcA : Chg (fun i => i = U0.heap.size) U4 ((U4.setCell ⟨U0.heap.size, 0, none⟩ (.int .i64 15360)).setCell ⟨U0.heap.size, 1, none⟩ (.int .i64 z)) := ((Chg.refl (fun i => i = U0.heap.size) U4).setCell U0.heap.size 0 _ (fun _ => rfl)).setCell U0.heap.size 1 _ (fun _ => rfl)
                          have hB5 : Below WR.heap.size WR ((U4.setCell ⟨U0.heap.size, 0, none⟩ (.int .i64 15360)).setCell ⟨U0.heap.size, 1, none⟩ (.int .i64 z)) := (hB4.setCell (p := ⟨U0.heap.size, 0, none⟩) hlo4 _).setCell (p := ⟨U0.heap.size, 1, none⟩) hlo4 _
                          have kB2 := kB.chg hcA (by omega)
                          go_simp
                          refine hK.out _ _ (by first | exact (HBox _ (HbR.out.trans (hB5.mono HbR.out.size))).out | skip) (fun _ => ?_)
                          clear hK K
                          try simp only [Act.put, List.setIfInBounds_toArray, List.set_cons_zero, List.set_cons_succ]
                          clear c0 c1 f0 f1 f1' hcA
                          generalize (U4.setCell ⟨U0.heap.size, 0, none⟩ (.int .i64 15360)).setCell ⟨U0.heap.size, 1, none⟩ (.int .i64 z) = V1 at *
                          refine wpAnyH_ready (rs := [7]) (by kernel_rfl) (by simp) ?_
                          refine AllReadyH.cons (i := 7) rfl (fun K hK => ?_) AllReadyH.nil
                          have c0 := kB2.cell 0 _ rfl
                          have c1 := kB2.cell 1 _ rfl
                          have f0 := kB2.frozen 0
                          have f1 := (kB2.set 0 (.int .i64 512)).frozen 1
                          have f1' := kB2.frozen 1
                          have kB3 := (kB2.set 0 (.int .i64 512)).set 1 (.int .i64 15360)
                          have hcB : Chg (fun i => i = U1.heap.size) V1 ((V1.setCell ⟨U1.heap.size, 0, none⟩ (.int .i64 512)).setCell ⟨U1.heap.size, 1, none⟩ (.int .i64 15360)) := ((Chg.refl (fun i => i = U1.heap.size) V1).setCell U1.heap.size 0 _ (fun _ => rfl)).setCell U1.heap.size 1 _ (fun _ => rfl)
                          have hB6 : Below WR.heap.size WR ((V1.setCell ⟨U1.heap.size, 0, none⟩ (.int .i64 512)).setCell ⟨U1.heap.size, 1, none⟩ (.int .i64 15360)) := (hB5.setCell (p := ⟨U1.heap.size, 0, none⟩) hlo5 _).setCell (p := ⟨U1.heap.size, 1, none⟩) hlo5 _
                          have kA3 := kA2.chg hcB (by omega)
                          go_simp
                          refine hK.out _ _ (by first | exact (HBox _ (HbR.out.trans (hB6.mono HbR.out.size))).out | skip) (fun _ => ?_)
                          clear hK K
                          try simp only [Act.put, List.setIfInBounds_toArray, List.set_cons_zero, List.set_cons_succ]
                          clear c0 c1 f0 f1 f1' hcB
                          generalize (V1.setCell ⟨U1.heap.size, 0, none⟩ (.int .i64 512)).setCell ⟨U1.heap.size, 1, none⟩ (.int .i64 15360) = V2 at *
                          refine wpAnyH_done (by kernel_rfl) ?_ _
                          go_wp2_with fail
                          go_meet
                          exact ⟨U0.heap.size, U1.heap.size, rfl, rfl, kA3.cell 0 _ rfl, kB3.cell 0 _ rfl, kB3.cell 1 _ rfl, kA3.lt, kB3.lt, hB6⟩
                · go_simp
                  have hb1 : Below U0.heap.size U0 (U0.alloc (.cells #[.int .i64 0, .int .i64 0] 46)) := (Below.refl _ _).alloc (Nat.le_refl _) _
                  have hk5_1 := Blk.new U0 #[.int .i64 0, .int .i64 0] 46
                  have hB1 : Below WR.heap.size WR (U0.alloc (.cells #[.int .i64 0, .int .i64 0] 46)) := hB0.trans (hb1.mono hB0.size)
                  have hlo5 : WR.heap.size ≤ U0.heap.size := hB0.size
                  refine hK.out _ _ (by first | exact (HBox _ (HbR.out.trans (hB1.mono HbR.out.size))).out | skip) (fun _ => ?_)
                  clear hK K
                  try simp only [Act.put, List.setIfInBounds_toArray, List.set_cons_zero, List.set_cons_succ]
                  generalize U0.alloc (.cells #[.int .i64 0, .int .i64 0] 46) = U1 at *
                  refine wpAnyH_ready (rs := [1, 4]) (by kernel_rfl) (by simp) ?_
                  refine AllReadyH.cons (i := 1) rfl (fun K hK => ?_) (AllReadyH.cons (i := 4) rfl (fun K hK => ?_) (AllReadyH.nil))
                  · go_simp
                    refine ((HRa _).out).mono ?_
                    rintro e9 U2 ⟨z, rfl, hb2⟩
                    have hB2 : Below WR.heap.size WR U2 := hB1.trans (hb2.mono hB1.size)
                    have hk5_2 := hk5_1.below hb2
                    go_simp
                    refine hK.out _ _ (by first | exact (HBox _ (HbR.out.trans (hB2.mono HbR.out.size))).out | skip) (fun _ => ?_)
                    clear hK K
                    try simp only [Act.put, List.setIfInBounds_toArray, List.set_cons_zero, List.set_cons_succ]
                    refine wpAnyH_ready (rs := [3, 4]) (by kernel_rfl) (by simp) ?_
                    refine AllReadyH.cons (i := 3) rfl (fun K hK => ?_) (AllReadyH.cons (i := 4) rfl (fun K hK => ?_) (AllReadyH.nil))
                    · go_simp
                      refine ((HJa _).out).mono ?_
                      rintro e9 U3 ⟨rfl, hb3⟩
                      have hB3 : Below WR.heap.size WR U3 := hB2.trans (hb3.mono hB2.size)
                      have hk5_3 := hk5_2.below hb3
                      go_simp
                      refine hK.out _ _ (by first | exact (HBox _ (HbR.out.trans (hB3.mono HbR.out.size))).out | skip) (fun _ => ?_)
                      clear hK K
                      try simp only [Act.put, List.setIfInBounds_toArray, List.set_cons_zero, List.set_cons_succ]
                      refine wpAnyH_ready (rs := [4]) (by kernel_rfl) (by simp) ?_
                      refine AllReadyH.cons (i := 4) rfl (fun K hK => ?_) (AllReadyH.nil)
                      · go_simp
                        have hb4 : Below U3.heap.size U3 (U3.alloc (.cells #[.int .i64 0, .int .i64 0] 46)) := (Below.refl _ _).alloc (Nat.le_refl _) _
                        have hk4_4 := Blk.new U3 #[.int .i64 0, .int .i64 0] 46
                        have hB4 : Below WR.heap.size WR (U3.alloc (.cells #[.int .i64 0, .int .i64 0] 46)) := hB3.trans (hb4.mono hB3.size)
                        have hlo4 : WR.heap.size ≤ U3.heap.size := hB3.size
                        have hk5_4 := hk5_3.below hb4
                        have hne : U0.heap.size < U3.heap.size := hk5_3.lt
                        refine hK.out _ _ (by first | exact (HBox _ (HbR.out.trans (hB4.mono HbR.out.size))).out | skip) (fun _ => ?_)
                        clear hK K
                        try simp only [Act.put, List.setIfInBounds_toArray, List.set_cons_zero, List.set_cons_succ]
                        generalize U3.alloc (.cells #[.int .i64 0, .int .i64 0] 46) = U4 at *
                        as_aux_lemma =>
                          have kA := hk4_4
                          have kB := hk5_4
                          refine wpAnyH_ready (rs := [6]) (by kernel_rfl) (by simp) ?_
                          refine AllReadyH.cons (i := 6) rfl (fun K hK => ?_) AllReadyH.nil
                          have c0 := kA.cell 0 _ rfl
                          have c1 := kA.cell 1 _ rfl
                          have f0 := kA.frozen 0
                          have f1 := (kA.set 0 (.int .i64 15360)).frozen 1
                          have f1' := kA.frozen 1
                          have kA2 := (kA.set 0 (.int .i64 15360)).set 1 (.int .i64 z)
                          have hcA : Chg (fun i => i = U3.heap.size) U4 ((U4.setCell ⟨U3.heap.size, 0, none⟩ (.int .i64 15360)).setCell ⟨U3.heap.size, 1, none⟩ (.int .i64 z)) := ((Chg.refl (fun i => i = U3.heap.size) U4).setCell U3.heap.size 0 _ (fun _ => rfl)).setCell U3.heap.size 1 _ (fun _ => rfl)
                          have hB5 : Below WR.heap.size WR ((U4.setCell ⟨U3.heap.size, 0, none⟩ (.int .i64 15360)).setCell ⟨U3.heap.size, 1, none⟩ (.int .i64 z)) := (hB4.setCell (p := ⟨U3.heap.size, 0, none⟩) hlo4 _).setCell (p := ⟨U3.heap.size, 1, none⟩) hlo4 _
                          have kB2 := kB.chg hcA (by omega)
                          go_simp
                          refine hK.out _ _ (by first | exact (HBox _ (HbR.out.trans (hB5.mono HbR.out.size))).out | skip) (fun _ => ?_)
                          clear hK K
                          try simp only [Act.put, List.setIfInBounds_toArray, List.set_cons_zero, List.set_cons_succ]
                          clear c0 c1 f0 f1 f1' hcA
                          generalize (U4.setCell ⟨U3.heap.size, 0, none⟩ (.int .i64 15360)).setCell ⟨U3.heap.size, 1, none⟩ (.int .i64 z) = V1 at *
                          refine wpAnyH_ready (rs := [7]) (by kernel_rfl) (by simp) ?_
                          refine AllReadyH.cons (i := 7) rfl (fun K hK => ?_) AllReadyH.nil
                          have c0 := kB2.cell 0 _ rfl
                          have c1 := kB2.cell 1 _ rfl
                          have f0 := kB2.frozen 0
                          have f1 := (kB2.set 0 (.int .i64 512)).frozen 1
                          have f1' := kB2.frozen 1
                          have kB3 := (kB2.set 0 (.int .i64 512)).set 1 (.int .i64 15360)
                          have hcB : Chg (fun i => i = U0.heap.size) V1 ((V1.setCell ⟨U0.heap.size, 0, none⟩ (.int .i64 512)).setCell ⟨U0.heap.size, 1, none⟩ (.int .i64 15360)) := ((Chg.refl (fun i => i = U0.heap.size) V1).setCell U0.heap.size 0 _ (fun _ => rfl)).setCell U0.heap.size 1 _ (fun _ => rfl)
                          have hB6 : Below WR.heap.size WR ((V1.setCell ⟨U0.heap.size, 0, none⟩ (.int .i64 512)).setCell ⟨U0.heap.size, 1, none⟩ (.int .i64 15360)) := (hB5.setCell (p := ⟨U0.heap.size, 0, none⟩) hlo5 _).setCell (p := ⟨U0.heap.size, 1, none⟩) hlo5 _
                          have kA3 := kA2.chg hcB (by omega)
                          go_simp
                          refine hK.out _ _ (by first | exact (HBox _ (HbR.out.trans (hB6.mono HbR.out.size))).out | skip) (fun _ => ?_)
                          clear hK K
                          try simp only [Act.put, List.setIfInBounds_toArray, List.set_cons_zero, List.set_cons_succ]
                          clear c0 c1 f0 f1 f1' hcB
                          generalize (V1.setCell ⟨U0.heap.size, 0, none⟩ (.int .i64 512)).setCell ⟨U0.heap.size, 1, none⟩ (.int .i64 15360) = V2 at *
                          refine wpAnyH_done (by kernel_rfl) ?_ _
                          go_wp2_with fail
                          go_meet
                          exact ⟨U3.heap.size, U0.heap.size, rfl, rfl, kA3.cell 0 _ rfl, kB3.cell 0 _ rfl, kB3.cell 1 _ rfl, kA3.lt, kB3.lt, hB6⟩
                    · go_simp
                      have hb3 : Below U2.heap.size U2 (U2.alloc (.cells #[.int .i64 0, .int .i64 0] 46)) := (Below.refl _ _).alloc (Nat.le_refl _) _
                      have hk4_3 := Blk.new U2 #[.int .i64 0, .int .i64 0] 46
                      have hB3 : Below WR.heap.size WR (U2.alloc (.cells #[.int .i64 0, .int .i64 0] 46)) := hB2.trans (hb3.mono hB2.size)
                      have hlo4 : WR.heap.size ≤ U2.heap.size := hB2.size
                      have hk5_3 := hk5_2.below hb3
                      have hne : U0.heap.size < U2.heap.size := hk5_2.lt
                      refine hK.out _ _ (by first | exact (HBox _ (HbR.out.trans (hB3.mono HbR.out.size))).out | skip) (fun _ => ?_)
                      clear hK K
                      try simp only [Act.put, List.setIfInBounds_toArray, List.set_cons_zero, List.set_cons_succ]
                      generalize U2.alloc (.cells #[.int .i64 0, .int .i64 0] 46) = U3 at *
                      refine wpAnyH_ready (rs := [3]) (by kernel_rfl) (by simp) ?_
                      refine AllReadyH.cons (i := 3) rfl (fun K hK => ?_) (AllReadyH.nil)
                      · go_simp
                        refine ((HJa _).out).mono ?_
                        rintro e9 U4 ⟨rfl, hb4⟩
                        have hB4 : Below WR.heap.size WR U4 := hB3.trans (hb4.mono hB3.size)
                        have hk5_4 := hk5_3.below hb4
                        have hk4_4 := hk4_3.below hb4
                        go_simp
                        refine hK.out _ _ (by first | exact (HBox _ (HbR.out.trans (hB4.mono HbR.out.size))).out | skip) (fun _ => ?_)
                        clear hK K
                        try simp only [Act.put, List.setIfInBounds_toArray, List.set_cons_zero, List.set_cons_succ]
                        as_aux_lemma =>
                          have kA := hk4_4
                          have kB := hk5_4
                          refine wpAnyH_ready (rs := [6]) (by kernel_rfl) (by simp) ?_
                          refine AllReadyH.cons (i := 6) rfl (fun K hK => ?_) AllReadyH.nil
                          have c0 := kA.cell 0 _ rfl
                          have c1 := kA.cell 1 _ rfl
                          have f0 := kA.frozen 0
                          have f1 := (kA.set 0 (.int .i64 15360)).frozen 1
                          have f1' := kA.frozen 1
                          have kA2 := (kA.set 0 (.int .i64 15360)).set 1 (.int .i64 z)
                          have hcA : Chg (fun i => i = U2.heap.size) U4 ((U4.setCell ⟨U2.heap.size, 0, none⟩ (.int .i64 15360)).setCell ⟨U2.heap.size, 1, none⟩ (.int .i64 z)) := ((Chg.refl (fun i => i = U2.heap.size) U4).setCell U2.heap.size 0 _ (fun _ => rfl)).setCell U2.heap.size 1 _ (fun _ => rfl)
                          have hB5 : Below WR.heap.size WR ((U4.setCell ⟨U2.heap.size, 0, none⟩ (.int .i64 15360)).setCell ⟨U2.heap.size, 1, none⟩ (.int .i64 z)) := (hB4.setCell (p := ⟨U2.heap.size, 0, none⟩) hlo4 _).setCell (p := ⟨U2.heap.size, 1, none⟩) hlo4 _
                          have kB2 := kB.chg hcA (by omega)
                          go_simp
                          refine hK.out _ _ (by first | exact (HBox _ (HbR.out.trans (hB5.mono HbR.out.size))).out | skip) (fun _ => ?_)
                          clear hK K
                          try simp only [Act.put, List.setIfInBounds_toArray, List.set_cons_zero, List.set_cons_succ]
                          clear c0 c1 f0 f1 f1' hcA
                          generalize (U4.setCell ⟨U2.heap.size, 0, none⟩ (.int .i64 15360)).setCell ⟨U2.heap.size, 1, none⟩ (.int .i64 z) = V1 at *
                          refine wpAnyH_ready (rs := [7]) (by kernel_rfl) (by simp) ?_
                          refine AllReadyH.cons (i := 7) rfl (fun K hK => ?_) AllReadyH.nil
                          have c0 := kB2.cell 0 _ rfl
                          have c1 := kB2.cell 1 _ rfl
                          have f0 := kB2.frozen 0
                          have f1 := (kB2.set 0 (.int .i64 512)).frozen 1
                          have f1' := kB2.frozen 1
                          have kB3 := (kB2.set 0 (.int .i64 512)).set 1 (.int .i64 15360)
                          have hcB : Chg (fun i => i = U0.heap.size) V1 ((V1.setCell ⟨U0.heap.size, 0, none⟩ (.int .i64 512)).setCell ⟨U0.heap.size, 1, none⟩ (.int .i64 15360)) := ((Chg.refl (fun i => i = U0.heap.size) V1).setCell U0.heap.size 0 _ (fun _ => rfl)).setCell U0.heap.size 1 _ (fun _ => rfl)
                          have hB6 : Below WR.heap.size WR ((V1.setCell ⟨U0.heap.size, 0, none⟩ (.int .i64 512)).setCell ⟨U0.heap.size, 1, none⟩ (.int .i64 15360)) := (hB5.setCell (p := ⟨U0.heap.size, 0, none⟩) hlo5 _).setCell (p := ⟨U0.heap.size, 1, none⟩) hlo5 _
                          have kA3 := kA2.chg hcB (by omega)
                          go_simp
                          refine hK.out _ _ (by first | exact (HBox _ (HbR.out.trans (hB6.mono HbR.out.size))).out | skip) (fun _ => ?_)
                          clear hK K
                          try simp only [Act.put, List.setIfInBounds_toArray, List.set_cons_zero, List.set_cons_succ]
                          clear c0 c1 f0 f1 f1' hcB
                          generalize (V1.setCell ⟨U0.heap.size, 0, none⟩ (.int .i64 512)).setCell ⟨U0.heap.size, 1, none⟩ (.int .i64 15360) = V2 at *
                          refine wpAnyH_done (by kernel_rfl) ?_ _
                          go_wp2_with fail
                          go_meet
                          exact ⟨U2.heap.size, U0.heap.size, rfl, rfl, kA3.cell 0 _ rfl, kB3.cell 0 _ rfl, kB3.cell 1 _ rfl, kA3.lt, kB3.lt, hB6⟩
                  · go_simp
                    have hb2 : Below U1.heap.size U1 (U1.alloc (.cells #[.int .i64 0, .int .i64 0] 46)) := (Below.refl _ _).alloc (Nat.le_refl _) _
                    have hk4_2 := Blk.new U1 #[.int .i64 0, .int .i64 0] 46
                    have hB2 : Below WR.heap.size WR (U1.alloc (.cells #[.int .i64 0, .int .i64 0] 46)) := hB1.trans (hb2.mono hB1.size)
                    have hlo4 : WR.heap.size ≤ U1.heap.size := hB1.size
                    have hk5_2 := hk5_1.below hb2
                    have hne : U0.heap.size < U1.heap.size := hk5_1.lt
                    refine hK.out _ _ (by first | exact (HBox _ (HbR.out.trans (hB2.mono HbR.out.size))).out | skip) (fun _ => ?_)
                    clear hK K
                    try simp only [Act.put, List.setIfInBounds_toArray, List.set_cons_zero, List.set_cons_succ]
                    generalize U1.alloc (.cells #[.int .i64 0, .int .i64 0] 46) = U2 at *
                    refine wpAnyH_ready (rs := [1]) (by kernel_rfl) (by simp) ?_
                    refine AllReadyH.cons (i := 1) rfl (fun K hK => ?_) (AllReadyH.nil)
                    · go_simp
                      refine ((HRa _).out).mono ?_
                      rintro e9 U3 ⟨z, rfl, hb3⟩
                      have hB3 : Below WR.heap.size WR U3 := hB2.trans (hb3.mono hB2.size)
                      have hk5_3 := hk5_2.below hb3
                      have hk4_3 := hk4_2.below hb3
                      go_simp
                      refine hK.out _ _ (by first | exact (HBox _ (HbR.out.trans (hB3.mono HbR.out.size))).out | skip) (fun _ => ?_)
                      clear hK K
                      try simp only [Act.put, List.setIfInBounds_toArray, List.set_cons_zero, List.set_cons_succ]
                      refine wpAnyH_ready (rs := [3]) (by kernel_rfl) (by simp) ?_
                      refine AllReadyH.cons (i := 3) rfl (fun K hK => ?_) (AllReadyH.nil)
                      · go_simp
                        refine ((HJa _).out).mono ?_
                        rintro e9 U4 ⟨rfl, hb4⟩
                        have hB4 : Below WR.heap.size WR U4 := hB3.trans (hb4.mono hB3.size)
                        have hk5_4 := hk5_3.below hb4
                        have hk4_4 := hk4_3.below hb4
                        go_simp
                        refine hK.out _ _ (by first | exact (HBox _ (HbR.out.trans (hB4.mono HbR.out.size))).out | skip) (fun _ => ?_)
                        clear hK K
                        try simp only [Act.put, List.setIfInBounds_toArray, List.set_cons_zero, List.set_cons_succ]
                        as_aux_lemma =>
                          have kA := hk4_4
                          have kB := hk5_4
                          refine wpAnyH_ready (rs := [6]) (by kernel_rfl) (by simp) ?_
                          refine AllReadyH.cons (i := 6) rfl (fun K hK => ?_) AllReadyH.nil
                          have c0 := kA.cell 0 _ rfl
                          have c1 := kA.cell 1 _ rfl
                          have f0 := kA.frozen 0
                          have f1 := (kA.set 0 (.int .i64 15360)).frozen 1
                          have f1' := kA.frozen 1
                          have kA2 := (kA.set 0 (.int .i64 15360)).set 1 (.int .i64 z)
                          have hcA : Chg (fun i => i = U1.heap.size) U4 ((U4.setCell ⟨U1.heap.size, 0, none⟩ (.int .i64 15360)).setCell ⟨U1.heap.size, 1, none⟩ (.int .i64 z)) := ((Chg.refl (fun i => i = U1.heap.size) U4).setCell U1.heap.size 0 _ (fun _ => rfl)).setCell U1.heap.size 1 _ (fun _ => rfl)
                          have hB5 : Below WR.heap.size WR ((U4.setCell ⟨U1.heap.size, 0, none⟩ (.int .i64 15360)).setCell ⟨U1.heap.size, 1, none⟩ (.int .i64 z)) := (hB4.setCell (p := ⟨U1.heap.size, 0, none⟩) hlo4 _).setCell (p := ⟨U1.heap.size, 1, none⟩) hlo4 _
                          have kB2 := kB.chg hcA (by omega)
                          go_simp
                          refine hK.out _ _ (by first | exact (HBox _ (HbR.out.trans (hB5.mono HbR.out.size))).out | skip) (fun _ => ?_)
                          clear hK K
                          try simp only [Act.put, List.setIfInBounds_toArray, List.set_cons_zero, List.set_cons_succ]
                          clear c0 c1 f0 f1 f1' hcA
                          generalize (U4.setCell ⟨U1.heap.size, 0, none⟩ (.int .i64 15360)).setCell ⟨U1.heap.size, 1, none⟩ (.int .i64 z) = V1 at *
                          refine wpAnyH_ready (rs := [7]) (by kernel_rfl) (by simp) ?_
                          refine AllReadyH.cons (i := 7) rfl (fun K hK => ?_) AllReadyH.nil
                          have c0 := kB2.cell 0 _ rfl
                          have c1 := kB2.cell 1 _ rfl
                          have f0 := kB2.frozen 0
                          have f1 := (kB2.set 0 (.int .i64 512)).frozen 1
                          have f1' := kB2.frozen 1
                          have kB3 := (kB2.set 0 (.int .i64 512)).set 1 (.int .i64 15360)
                          have hcB : Chg (fun i => i = U0.heap.size) V1 ((V1.setCell ⟨U0.heap.size, 0, none⟩ (.int .i64 512)).setCell ⟨U0.heap.size, 1, none⟩ (.int .i64 15360)) := ((Chg.refl (fun i => i = U0.heap.size) V1).setCell U0.heap.size 0 _ (fun _ => rfl)).setCell U0.heap.size 1 _ (fun _ => rfl)
                          have hB6 : Below WR.heap.size WR ((V1.setCell ⟨U0.heap.size, 0, none⟩ (.int .i64 512)).setCell ⟨U0.heap.size, 1, none⟩ (.int .i64 15360)) := (hB5.setCell (p := ⟨U0.heap.size, 0, none⟩) hlo5 _).setCell (p := ⟨U0.heap.size, 1, none⟩) hlo5 _
                          have kA3 := kA2.chg hcB (by omega)
                          go_simp
                          refine hK.out _ _ (by first | exact (HBox _ (HbR.out.trans (hB6.mono HbR.out.size))).out | skip) (fun _ => ?_)
                          clear hK K
                          try simp only [Act.put, List.setIfInBounds_toArray, List.set_cons_zero, List.set_cons_succ]
                          clear c0 c1 f0 f1 f1' hcB
                          generalize (V1.setCell ⟨U0.heap.size, 0, none⟩ (.int .i64 512)).setCell ⟨U0.heap.size, 1, none⟩ (.int .i64 15360) = V2 at *
                          refine wpAnyH_done (by kernel_rfl) ?_ _
                          go_wp2_with fail
                          go_meet
                          exact ⟨U1.heap.size, U0.heap.size, rfl, rfl, kA3.cell 0 _ rfl, kB3.cell 0 _ rfl, kB3.cell 1 _ rfl, kA3.lt, kB3.lt, hB6⟩
              case rest =>
                as_aux_lemma =>
                  obtain ⟨g1, g2, rfl, rfl, q1, q2, q3, hg1, hg2, hbx⟩ := hcut
                  obtain ⟨WX, hWX⟩ : ∃ WX, WX = wc := ⟨_, rfl⟩
                  subst hWX
                  have HG2 : ∀ u, Below WX.heap.size WX u → Hid (u.cell? ⟨g2, 0, none⟩ = some (.int .i64 512) ∧ u.cell? ⟨g2, 1, none⟩ = some (.int .i64 15360)) := fun u hu => hide ⟨(hu.cell (p := ⟨g2, 0, none⟩) hg2).trans q2, (hu.cell (p := ⟨g2, 1, none⟩) hg2).trans q3⟩
                  have hqX : Below wq.heap.size wq WX := HB.out.trans (hbx.mono HB.out.size)
                  have HsW : Hid (Sl WX (some ⟨gW, 0, none⟩) cW S) := hide (by
                    obtain ⟨a9, c9, e, hs, _⟩ := HWo.out.sl
                    simp only [Value.slice.injEq, true_and] at e
                    obtain ⟨rfl, rfl⟩ := e
                    exact hs.below hqX)
                  have HsV : Hid (Sl WX av cv (wantL m)) := hide (Hsv.out.below hbx)
                  have HbX : Hid (Below w2.heap.size w2 WX) := hide (HbR.out.trans (hbx.mono HbR.out.size))
                  have HFX := hide (HF2.out.below hqX)
                  have hwl : (wantL m).length = 2 * n := by rw [want_len, HmH.out]
                  have hSn := HSn.out
                  have HWi := hide (With_any (some ⟨gW, 0, none⟩) cW S av cv (wantL m) 15360 WX (by omega) (by omega) (by omega) HsW.out HsV.out)
                  rw [show ((15360 : Nat) : Int) = 15360 from rfl] at HWi
                  have HSn' := hide hSn
                  have Hwl := hide hwl
                  clear hSn hwl hqX hbx q2 q3
                  apply_assumption
                  go_wp2_with fail
                  refine HWi.out.mono ?_
                  rintro e9 Y1 ⟨v1, rfl, ho1, hb1⟩
                  have hXY1 : Below WX.heap.size WX Y1 := hb1
                  obtain ⟨a1', c1', rfl, hs1', _⟩ := ho1.sl
                  have hl1 : (over S 15360 (wantL m)).length = 16896 := by rw [over_length (by rw [Hwl.out, HSn'.out]; omega)]; exact HSn'.out
                  have Hl1 := hide hl1
                  have HS1 := hide hs1'
                  obtain ⟨O1, hO1⟩ : ∃ O1, O1 = over S 15360 (wantL m) := ⟨_, rfl⟩
                  rw [← hO1] at HS1 Hl1 ⊢
                  have HO1 := hide hO1
                  have HZe := fun u => hide (Zeros_any 14848 u (by omega))
                  obtain ⟨ZZ, hZZ⟩ : ∃ ZZ : List Int, ZZ = List.replicate 14848 0 := ⟨_, rfl⟩
                  have hZl : ZZ.length = 14848 := by rw [hZZ]; exact List.length_replicate
                  have HZz : Hid (∀ i, ZZ.getD i 0 = 0) := hide (fun i => by
                    rw [hZZ, List.getD_eq_getElem?_getD, List.getElem?_replicate]
                    split <;> rfl)
                  rw [← hZZ, show ((14848 : Nat) : Int) = 14848 from rfl] at HZe
                  have HZl := hide hZl
                  clear hZl hZZ hO1 hl1 hs1' ho1 hb1 HWi q1
                  go_wp2_with fail
                  have hXW : Below WX.heap.size WX Y1.drew := hXY1.drew
                  have hS0 : (fun u : World => u.cell? ⟨g2, 0, none⟩ = some (.int .i64 512) ∧ u.cell? ⟨g2, 1, none⟩ = some (.int .i64 15360)) Y1.drew := (HG2 _ hXW).out
                  refine wp_region_held_drew (S := (fun u : World => u.cell? ⟨g2, 0, none⟩ = some (.int .i64 512) ∧ u.cell? ⟨g2, 1, none⟩ = some (.int .i64 15360))) (by kernel_rfl) hS0 (fun _ => ?_)
                  refine any_take 0 (some 102) (.slice a1' O1.length c1') rfl rfl (by kernel_rfl) (by kernel_rfl) (by kernel_rfl) (fun _ _ _ h => h) (by rfl) hS0 ?_ ?_
                  · intro u hSu
                    have hSu1 : u.cell? ⟨g2, 0, none⟩ = some (.int .i64 512) := hSu.1
                    have hSu2 : u.cell? ⟨g2, 1, none⟩ = some (.int .i64 15360) := hSu.2
                    clear hSu
                    go_simp
                    try rfl
                  simp only [Act.put, List.setIfInBounds_toArray, List.set_cons_zero, List.set_cons_succ]
                  refine any_take 1 (some 103) (.pointer (some ⟨g2, 0, none⟩)) rfl rfl (by kernel_rfl) (by kernel_rfl) (by kernel_rfl) (fun _ _ _ h => h) (by rfl) hS0 ?_ ?_
                  · intro u hSu
                    have hSu1 : u.cell? ⟨g2, 0, none⟩ = some (.int .i64 512) := hSu.1
                    have hSu2 : u.cell? ⟨g2, 1, none⟩ = some (.int .i64 15360) := hSu.2
                    clear hSu
                    go_simp
                    try rfl
                  simp only [Act.put, List.setIfInBounds_toArray, List.set_cons_zero, List.set_cons_succ]
                  refine any_take 2 (some 104) (.int .i64 512) rfl rfl (by kernel_rfl) (by kernel_rfl) (by kernel_rfl) (fun _ _ _ h => h) (by rfl) hS0 ?_ ?_
                  · intro u hSu
                    have hSu1 : u.cell? ⟨g2, 0, none⟩ = some (.int .i64 512) := hSu.1
                    have hSu2 : u.cell? ⟨g2, 1, none⟩ = some (.int .i64 15360) := hSu.2
                    clear hSu
                    go_simp
                    try rfl
                  simp only [Act.put, List.setIfInBounds_toArray, List.set_cons_zero, List.set_cons_succ]
                  refine any_take 3 (some 105) (.pointer (some ⟨g2, 1, none⟩)) rfl rfl (by kernel_rfl) (by kernel_rfl) (by kernel_rfl) (fun _ _ _ h => h) (by rfl) hS0 ?_ ?_
                  · intro u hSu
                    have hSu1 : u.cell? ⟨g2, 0, none⟩ = some (.int .i64 512) := hSu.1
                    have hSu2 : u.cell? ⟨g2, 1, none⟩ = some (.int .i64 15360) := hSu.2
                    clear hSu
                    go_simp
                    try rfl
                  simp only [Act.put, List.setIfInBounds_toArray, List.set_cons_zero, List.set_cons_succ]
                  refine any_take 4 (some 106) (.int .i64 15360) rfl rfl (by kernel_rfl) (by kernel_rfl) (by kernel_rfl) (fun _ _ _ h => h) (by rfl) hS0 ?_ ?_
                  · intro u hSu
                    have hSu1 : u.cell? ⟨g2, 0, none⟩ = some (.int .i64 512) := hSu.1
                    have hSu2 : u.cell? ⟨g2, 1, none⟩ = some (.int .i64 15360) := hSu.2
                    clear hSu
                    go_simp
                    try rfl
                  simp only [Act.put, List.setIfInBounds_toArray, List.set_cons_zero, List.set_cons_succ]
                  refine any_take 5 (some 107) (.pointer (some ⟨g2, 0, none⟩)) rfl rfl (by kernel_rfl) (by kernel_rfl) (by kernel_rfl) (fun _ _ _ h => h) (by rfl) hS0 ?_ ?_
                  · intro u hSu
                    have hSu1 : u.cell? ⟨g2, 0, none⟩ = some (.int .i64 512) := hSu.1
                    have hSu2 : u.cell? ⟨g2, 1, none⟩ = some (.int .i64 15360) := hSu.2
                    clear hSu
                    go_simp
                    try rfl
                  simp only [Act.put, List.setIfInBounds_toArray, List.set_cons_zero, List.set_cons_succ]
                  refine any_take 6 (some 108) (.int .i64 512) rfl rfl (by kernel_rfl) (by kernel_rfl) (by kernel_rfl) (fun _ _ _ h => h) (by rfl) hS0 ?_ ?_
                  · intro u hSu
                    have hSu1 : u.cell? ⟨g2, 0, none⟩ = some (.int .i64 512) := hSu.1
                    have hSu2 : u.cell? ⟨g2, 1, none⟩ = some (.int .i64 15360) := hSu.2
                    clear hSu
                    go_simp
                    try rfl
                  simp only [Act.put, List.setIfInBounds_toArray, List.set_cons_zero, List.set_cons_succ]
                  refine any_take 7 (some 109) (.int .i64 14848) rfl rfl (by kernel_rfl) (by kernel_rfl) (by kernel_rfl) (fun _ _ _ h => h) (by rfl) hS0 ?_ ?_
                  · intro u hSu
                    have hSu1 : u.cell? ⟨g2, 0, none⟩ = some (.int .i64 512) := hSu.1
                    have hSu2 : u.cell? ⟨g2, 1, none⟩ = some (.int .i64 15360) := hSu.2
                    clear hSu
                    go_simp
                    try rfl
                  simp only [Act.put, List.setIfInBounds_toArray, List.set_cons_zero, List.set_cons_succ]
                  refine wpAnyH_ready (rs := [8]) (by kernel_rfl) (by simp) ?_
                  refine AllReadyH.cons (i := 8) rfl (fun K hK => ?_) AllReadyH.nil
                  go_simp
                  refine ((HZe _).out).mono ?_
                  rintro e9 Y2 ⟨v2, rfl, ho2, hb2⟩
                  have hXY2 : Below WX.heap.size WX Y2 := hXW.trans (hb2.mono hXW.size)
                  have hSk := (HG2 _ hXY2).out
                  obtain ⟨a2', c2', rfl, hs2', _⟩ := ho2.sl
                  have HS1b := hide ((HS1.out.below (Below.refl _ _).drew).below hb2)
                  have HS2 := hide hs2'
                  clear hs2' ho2
                  rw [HZl.out]
                  go_simp
                  refine hK.out _ _ hSk (fun _ => ?_)
                  clear hK K
                  try simp only [Act.put, List.setIfInBounds_toArray, List.set_cons_zero, List.set_cons_succ]
                  refine wpAnyH_ready (rs := [9]) (by kernel_rfl) (by simp) ?_
                  refine AllReadyH.cons (i := 9) rfl (fun K hK => ?_) AllReadyH.nil
                  go_simp
                  rw [show (512 : Int) = ((512 : Nat) : Int) from rfl, ← HZl.out]
                  refine ((With_any a1' c1' O1 a2' c2' ZZ 512 Y2 (by rw [Hl1.out]; omega) (by rw [HZl.out]; omega) (by rw [Hl1.out, HZl.out]; omega) HS1b.out HS2.out)).mono ?_
                  rintro e9 Y3 ⟨v3, rfl, ho3, hb3⟩
                  have hXY3 : Below WX.heap.size WX Y3 := hXY2.trans (hb3.mono hXY2.size)
                  clear hSk
                  have hSk := (HG2 _ hXY3).out
                  go_simp
                  refine hK.out _ _ hSk (fun _ => ?_)
                  clear hK K
                  try simp only [Act.put, List.setIfInBounds_toArray, List.set_cons_zero, List.set_cons_succ]
                  refine any_take 10 (some 11) (v3) rfl rfl (by kernel_rfl) (by kernel_rfl) (by kernel_rfl) (fun _ _ _ h => h) (by rfl) hSk ?_ ?_
                  · intro u hSu
                    have hSu1 : u.cell? ⟨g2, 0, none⟩ = some (.int .i64 512) := hSu.1
                    have hSu2 : u.cell? ⟨g2, 1, none⟩ = some (.int .i64 15360) := hSu.2
                    clear hSu
                    go_simp
                    try rfl
                  simp only [Act.put, List.setIfInBounds_toArray, List.set_cons_zero, List.set_cons_succ]
                  refine wpAnyH_done (by kernel_rfl) ?_ _
                  obtain ⟨a3'', c3'', rfl, hs3'', _⟩ := ho3.sl
                  have HS3 := hide hs3''
                  have HXY3 := hide hXY3
                  clear ho3 hs3'' hSk hS0 hXW hXY2 hb2 hb3 HS1b HS2 HS1 hXY1
                  apply_assumption
                  go_wp2_with fail
                  have hX3 : Below WX.heap.size WX Y3.drew := HXY3.out.drew
                  have hS0 : (fun u : World => u.cell? ⟨g2, 0, none⟩ = some (.int .i64 512) ∧ u.cell? ⟨g2, 1, none⟩ = some (.int .i64 15360)) Y3.drew := (HG2 _ hX3).out
                  refine wp_region_held_drew (S := (fun u : World => u.cell? ⟨g2, 0, none⟩ = some (.int .i64 512) ∧ u.cell? ⟨g2, 1, none⟩ = some (.int .i64 15360))) (by kernel_rfl) hS0 (fun _ => ?_)
                  refine any_take 0 (some 112) (.pointer (some ⟨F, 0, none⟩)) rfl rfl (by kernel_rfl) (by kernel_rfl) (by kernel_rfl) (fun _ _ _ h => h) (by rfl) hS0 ?_ ?_
                  · intro u hSu
                    have hSu1 : u.cell? ⟨g2, 0, none⟩ = some (.int .i64 512) := hSu.1
                    have hSu2 : u.cell? ⟨g2, 1, none⟩ = some (.int .i64 15360) := hSu.2
                    clear hSu
                    go_simp
                    try rfl
                  simp only [Act.put, List.setIfInBounds_toArray, List.set_cons_zero, List.set_cons_succ]
                  refine any_take 2 (some 114) (.pointer (some ⟨g2, 0, none⟩)) rfl rfl (by kernel_rfl) (by kernel_rfl) (by kernel_rfl) (fun _ _ _ h => h) (by rfl) hS0 ?_ ?_
                  · intro u hSu
                    have hSu1 : u.cell? ⟨g2, 0, none⟩ = some (.int .i64 512) := hSu.1
                    have hSu2 : u.cell? ⟨g2, 1, none⟩ = some (.int .i64 15360) := hSu.2
                    clear hSu
                    go_simp
                    try rfl
                  simp only [Act.put, List.setIfInBounds_toArray, List.set_cons_zero, List.set_cons_succ]
                  refine any_take 3 (some 115) (.int .i64 512) rfl rfl (by kernel_rfl) (by kernel_rfl) (by kernel_rfl) (fun _ _ _ h => h) (by rfl) hS0 ?_ ?_
                  · intro u hSu
                    have hSu1 : u.cell? ⟨g2, 0, none⟩ = some (.int .i64 512) := hSu.1
                    have hSu2 : u.cell? ⟨g2, 1, none⟩ = some (.int .i64 15360) := hSu.2
                    clear hSu
                    go_simp
                    try rfl
                  simp only [Act.put, List.setIfInBounds_toArray, List.set_cons_zero, List.set_cons_succ]
                  refine any_take 4 (some 116) (.pointer (some ⟨g2, 1, none⟩)) rfl rfl (by kernel_rfl) (by kernel_rfl) (by kernel_rfl) (fun _ _ _ h => h) (by rfl) hS0 ?_ ?_
                  · intro u hSu
                    have hSu1 : u.cell? ⟨g2, 0, none⟩ = some (.int .i64 512) := hSu.1
                    have hSu2 : u.cell? ⟨g2, 1, none⟩ = some (.int .i64 15360) := hSu.2
                    clear hSu
                    go_simp
                    try rfl
                  simp only [Act.put, List.setIfInBounds_toArray, List.set_cons_zero, List.set_cons_succ]
                  refine any_take 5 (some 117) (.int .i64 15360) rfl rfl (by kernel_rfl) (by kernel_rfl) (by kernel_rfl) (fun _ _ _ h => h) (by rfl) hS0 ?_ ?_
                  · intro u hSu
                    have hSu1 : u.cell? ⟨g2, 0, none⟩ = some (.int .i64 512) := hSu.1
                    have hSu2 : u.cell? ⟨g2, 1, none⟩ = some (.int .i64 15360) := hSu.2
                    clear hSu
                    go_simp
                    try rfl
                  simp only [Act.put, List.setIfInBounds_toArray, List.set_cons_zero, List.set_cons_succ]
                  refine any_take 6 (some 118) (.pointer (some ⟨g2, 0, none⟩)) rfl rfl (by kernel_rfl) (by kernel_rfl) (by kernel_rfl) (fun _ _ _ h => h) (by rfl) hS0 ?_ ?_
                  · intro u hSu
                    have hSu1 : u.cell? ⟨g2, 0, none⟩ = some (.int .i64 512) := hSu.1
                    have hSu2 : u.cell? ⟨g2, 1, none⟩ = some (.int .i64 15360) := hSu.2
                    clear hSu
                    go_simp
                    try rfl
                  simp only [Act.put, List.setIfInBounds_toArray, List.set_cons_zero, List.set_cons_succ]
                  refine any_take 7 (some 119) (.int .i64 512) rfl rfl (by kernel_rfl) (by kernel_rfl) (by kernel_rfl) (fun _ _ _ h => h) (by rfl) hS0 ?_ ?_
                  · intro u hSu
                    have hSu1 : u.cell? ⟨g2, 0, none⟩ = some (.int .i64 512) := hSu.1
                    have hSu2 : u.cell? ⟨g2, 1, none⟩ = some (.int .i64 15360) := hSu.2
                    clear hSu
                    go_simp
                    try rfl
                  simp only [Act.put, List.setIfInBounds_toArray, List.set_cons_zero, List.set_cons_succ]
                  refine any_take 8 (some 120) (.int .i64 14848) rfl rfl (by kernel_rfl) (by kernel_rfl) (by kernel_rfl) (fun _ _ _ h => h) (by rfl) hS0 ?_ ?_
                  · intro u hSu
                    have hSu1 : u.cell? ⟨g2, 0, none⟩ = some (.int .i64 512) := hSu.1
                    have hSu2 : u.cell? ⟨g2, 1, none⟩ = some (.int .i64 15360) := hSu.2
                    clear hSu
                    go_simp
                    try rfl
                  simp only [Act.put, List.setIfInBounds_toArray, List.set_cons_zero, List.set_cons_succ]
                  refine wpAnyH_ready (rs := [1]) (by kernel_rfl) (by simp) ?_
                  refine AllReadyH.cons (i := 1) rfl (fun K hK => ?_) AllReadyH.nil
                  go_simp
                  refine ((bytes_fl Y3.drew X' F f' _ _ _ (HFX.out.below hX3))).mono ?_
                  rintro e9 Y4 ⟨v4, rfl, ho4, hb4⟩
                  have hXY4 : Below WX.heap.size WX Y4 := hX3.trans (hb4.mono hX3.size)
                  have hSk := (HG2 _ hXY4).out
                  have ho4' : Own Y4 Y3.drew.heap.size v4 Z := ho4
                  obtain ⟨a4', c4', rfl, hs4', _⟩ := ho4'.sl
                  have HS4 := hide hs4'
                  clear ho4 ho4' hs4'
                  go_simp
                  refine hK.out _ _ hSk (fun _ => ?_)
                  clear hK K
                  try simp only [Act.put, List.setIfInBounds_toArray, List.set_cons_zero, List.set_cons_succ]
                  refine wpAnyH_ready (rs := [9]) (by kernel_rfl) (by simp) ?_
                  refine AllReadyH.cons (i := 9) rfl (fun K hK => ?_) AllReadyH.nil
                  go_simp
                  refine ((HZe _).out).mono ?_
                  rintro e9 Y5 ⟨v5, rfl, ho5, hb5⟩
                  have hXY5 : Below WX.heap.size WX Y5 := hXY4.trans (hb5.mono hXY4.size)
                  clear hSk
                  have hSk := (HG2 _ hXY5).out
                  obtain ⟨a5', c5', rfl, hs5', _⟩ := ho5.sl
                  have HS4b := hide (HS4.out.below hb5)
                  have HS5 := hide hs5'
                  clear hs5' ho5
                  rw [HZl.out]
                  go_simp
                  refine hK.out _ _ hSk (fun _ => ?_)
                  clear hK K
                  try simp only [Act.put, List.setIfInBounds_toArray, List.set_cons_zero, List.set_cons_succ]
                  refine wpAnyH_ready (rs := [10]) (by kernel_rfl) (by simp) ?_
                  refine AllReadyH.cons (i := 10) rfl (fun K hK => ?_) AllReadyH.nil
                  go_simp
                  rw [show (512 : Int) = ((512 : Nat) : Int) from rfl, ← HZl.out]
                  refine ((With_any a4' c4' Z a5' c5' ZZ 512 Y5 (by rw [HZn.out]; omega) (by rw [HZl.out]; omega) (by rw [HZn.out, HZl.out]; omega) HS4b.out HS5.out)).mono ?_
                  rintro e9 Y6 ⟨v6, rfl, ho6, hb6⟩
                  have hXY6 : Below WX.heap.size WX Y6 := hXY5.trans (hb6.mono hXY5.size)
                  clear hSk
                  have hSk := (HG2 _ hXY6).out
                  go_simp
                  refine hK.out _ _ hSk (fun _ => ?_)
                  clear hK K
                  try simp only [Act.put, List.setIfInBounds_toArray, List.set_cons_zero, List.set_cons_succ]
                  refine any_take 11 (some 19) (v6) rfl rfl (by kernel_rfl) (by kernel_rfl) (by kernel_rfl) (fun _ _ _ h => h) (by rfl) hSk ?_ ?_
                  · intro u hSu
                    have hSu1 : u.cell? ⟨g2, 0, none⟩ = some (.int .i64 512) := hSu.1
                    have hSu2 : u.cell? ⟨g2, 1, none⟩ = some (.int .i64 15360) := hSu.2
                    clear hSu
                    go_simp
                    try rfl
                  simp only [Act.put, List.setIfInBounds_toArray, List.set_cons_zero, List.set_cons_succ]
                  refine wpAnyH_done (by kernel_rfl) ?_ _
                  obtain ⟨a6', c6', rfl, hs6', _⟩ := ho6.sl
                  have hb36 : Below Y3.heap.size Y3 Y6 := (((Below.refl Y3.heap.size Y3).drew).trans (hb4.mono (Nat.le_refl _))).trans ((hb5.trans (hb6.mono hb5.size)).mono hb4.size)
                  have hle1 : 512 + ZZ.length ≤ Z.length := by rw [HZn.out, HZl.out]; omega
                  have hle2 : 512 + ZZ.length ≤ O1.length := by rw [Hl1.out, HZl.out]; omega
                  have hle3 : 15360 + (wantL m).length ≤ S.length := by rw [Hwl.out, HSn'.out]; omega
                  have HEq : Hid (over Z 512 ZZ = over O1 512 ZZ) := hide (by
                    refine ext_getD (by rw [over_length hle1, over_length hle2, HZn.out, Hl1.out]) (fun i _ => ?_)
                    rw [overP_get _ _ _ hle1, overP_get _ _ _ hle2, HZl.out]
                    split
                    · rfl
                    · next h9 =>
                      rw [HZg.out i (by omega), HO1.out, overP_get _ _ _ hle3, Hwl.out])
                  have HBO : Hid (Byts (over O1 512 ZZ)) := hide (by
                    refine over_bytsQ hle2 ?_ (fun i => by rw [HZz.out i]; omega)
                    rw [HO1.out]
                    exact over_bytsQ hle3 HSb.out (want_byts m))
                  have HSa := hide (Same_any a6' a3'' c6' c3'' (over Z 512 ZZ) (over O1 512 ZZ) Y6 hs6'.lies (HS3.out.below hb36).lies (by rw [HEq.out]; exact HBO.out) HBO.out)
                  rw [decide_eq_true HEq.out] at HSa
                  have HBf : Hid (Below w.heap.size w Y6) := hide (HB1.out.trans ((HbX.out.trans (hXY6.mono HbX.out.size)).mono HB1.out.size))
                  clear ho6 hs6' hSk hS0 hX3 hXY4 hXY5 hXY6 hb4 hb5 hb6 hb36
                  apply_assumption
                  go_wp2_with fail
                  refine HSa.out.mono ?_
                  rintro e9 Y7 ⟨rfl, h7⟩
                  rw [h7]
                  clear h7
                  go_wp2_with fail
                  go_ret
                  exact ⟨rfl, HBf.out⟩

set_option maxRecDepth 100000 in
theorem refsStays_lifted (os : Os) (started : os.Started) (H : Type) (enc : TypeId × Value → H) :
    ReturnsInHanded {} Tryz.checked os 3 .any (Rows.refsStaysSpec.pre6 enc Tryz.prog Tryz.f3 Rows.refsStaysRow.domain false) (Rows.refsStaysSpec.post enc Tryz.prog Tryz.f3 false true false false) := by
  refine returnsInHanded_of_change (C := Tryz.checked) own started (by kernel_rfl) Tryz.func3
    (ChangeSpec.witness6 (enc := enc) (C := Tryz.checked) false ⟨#[], #[.int .i64 0, .slice none 0 0], []⟩ 8 (by kernel_rfl) (by kernel_rfl) (by kernel_rfl) (by kernel_rfl)) ?_
  intro W base args ds gs before hval0 hW _ _
  have hval : ∀ (j : Nat) t v, Tryz.f3.params[j]? = some t → args[j]? = some v → Value.okWide Tryz.prog W .any base t v := hval0
  have hW' := hW
  obtain ⟨p, q, hA0, hV, rfl, hfz, hnd⟩ := hW
  have hA : DataW.TrodAll enc Tryz.prog W 0 (fun _ => true) true Tryz.f3.params.toList args.toList ds p := hA0
  rw [Tryz.params3] at hA hval
  obtain ⟨v0, vs0, d0, ds0, p0, q0, hargs0, rfl, rfl, h0, r0⟩ := trodAll_cons hA
  obtain ⟨v1, vs1, d1, ds1, p1, q1, hargs1, rfl, rfl, h1, r1⟩ := trodAll_cons r0
  obtain ⟨rfl, rfl, rfl⟩ := trodAll_nil r1
  subst hargs1
  obtain rfl : args = #[v0, v1] := by cases args; simp_all
  obtain ⟨rfl, rfl⟩ := trodVars_none hV
  simp only [List.append_nil] at hW'
  have hlt1 : ∀ x ∈ p1, x.block < W.heap.size := fun x hx => by simpa using hW'.lt x (by simp [hx])
  obtain ⟨x0, rfl, rfl, rfl, w0⟩ := open_int Tryz.underlying3 (hval 0 3 v0 rfl rfl) h0
  obtain ⟨a1, cap1, l1, rfl, hn1, hl1⟩ := open_ops8 (hval 1 22 v1 rfl rfl) h1
  clear hA0
  refine (rstays_walk x0 a1 cap1 l1 W hl1 hn1).mono fun e W' ⟨he, hb⟩ => ?_
  subst he
  refine ⟨_, rfl, _, _, _, [], ([] ++ (p1 ++ [])), [], hW', ?_, ?_, rfl, hb.frame _, fun h => by cases h⟩
  · exact trodAll_cons_mk (shut_bool Tryz.underlying4 _) trodAll_mk0
  · exact trodAll_cons_mk (shut_int Tryz.underlying3 w0) (trodAll_cons_mk (Below.trod laidOut (by kernel_rfl) (of_decide_eq_true (by kernel_rfl)) h1 hb hlt1) (trodAll_mk0))

theorem refsStays_holds : Rows.RefsStaysSaid :=
  OpenClaim.holds_of_wide 3 Tryz.f3 rfl rfl rfl rfl rfl rfl rfl ⟨rfl, rfl, rfl, rfl, rfl⟩ rfl rfl rfl rfl rfl (by kernel_rfl) Tryz.func3 (by kernel_rfl)
    (of_decide_eq_true (by kernel_rfl)) (by unfold Func.isWrapper; first | (rw [if_pos (by decide +kernel)]; kernel_rfl) | (rw [if_neg (by decide +kernel)]; exact ⟨rfl, rfl⟩))
    (fun os started H enc _ => refsStays_lifted os started H enc)
end Go.Proofs.YtiokjlckngkhnaaGreat.Oct
