/- For every number and all operations the statement RefsPlays answers true and changes nothing that was there: whatever is done to the counts, each answer, all of them, and the ends, are the document's. No condition (the statement itself lets go more than 150 operations). -/
import Derived.Test.YtnfbhgahkajhnaaRpc
namespace Go.Proofs.Ytnfbhgahkajhnaa.Oct
open Go.RowKit Go.Deep Go.ChangeShapes Go.WideShapes Go.ChangeAt

theorem ctsR_first {S : List Int} (H : Nat) (h : Cts S 33) : CtsR S (fun _ => Z5) (fun _ => Z5) H (ones H 33) := by
  have h5 : ∀ i, Z5.getD i 0 = 0 := fun i => by
    unfold Z5
    rw [List.getD_eq_getElem?_getD, List.getElem?_replicate]
    split <;> rfl
  refine ⟨ones_len H 33, fun n hn => by rw [ones_get H 33 n hn, cts_cnt h], cts_by h, fun x y _ => ?_⟩
  unfold valT
  rw [h5, if_pos rfl]

theorem eight {u : World} {P H b off k : Nat} {x y z : Int} {w0 : World} (hx : Bx8 u P H) (h : ∀ u, Below w0.heap.size w0 u → u.cell? ⟨b, off + k * 3, none⟩ = some (.int .i64 x) ∧ u.cell? ⟨b, off + k * 3 + 1, none⟩ = some (.int .i64 y) ∧ u.cell? ⟨b, off + k * 3 + 2, none⟩ = some (.int .i64 z)) (hb : Below w0.heap.size w0 u) :
    u.cell? ⟨P, 0, none⟩ = some (.int .i64 9) ∧ u.cell? ⟨P, 1, none⟩ = some (.int .i64 32768) ∧ u.cell? ⟨P, 2, none⟩ = some (.int .i64 (H : Int)) ∧ u.cell? ⟨P, 3, none⟩ = some (.int .i64 29) ∧ u.cell? ⟨P, 4, none⟩ = some (.bool false) ∧ u.cell? ⟨b, off + k * 3, none⟩ = some (.int .i64 x) ∧ u.cell? ⟨b, off + k * 3 + 1, none⟩ = some (.int .i64 y) ∧ u.cell? ⟨b, off + k * 3 + 2, none⟩ = some (.int .i64 z) :=
  ⟨hx.cell.1, hx.cell.2.1, hx.cell.2.2.1, hx.cell.2.2.2.1, hx.cell.2.2.2.2, (h u hb).1, (h u hb).2.1, (h u hb).2.2⟩

set_option maxRecDepth 100000 in
set_option maxHeartbeats 16000000 in
theorem rplays_walk (x : Int) (a1 : Option Addr) (cap1 : Nat) (L : List O3) (w : World) (hL : LiesO w a1 L) (hLm : L.length ≤ maxLen) :
    Calls Try.prog 3 #[.int .i64 x, .slice a1 L.length cap1] w fun e w' => e = .returned (.bool true) ∧ Below w.heap.size w w' := by
  have HCt := fun u => hide (counted_any u)
  unfold maxLen at hLm
  obtain ⟨nl, hnl⟩ : ∃ nl, nl = L.length := ⟨_, rfl⟩
  have HNl := hide hnl
  have HL := hide hL
  rw [← hnl] at hLm ⊢
  clear hL hnl
  go_enter Try.func3, Try.ntmps3
  by_cases h150 : 150 < nl
  · have hd : decide ((150 : Int) < nl) = true := by simp; omega
    go_wp2_with fail
    refine ((HCt _).out).mono ?_
    rintro e9 w3 ⟨rfl, hb3⟩
    have HB3 := hide hb3
    clear hb3
    go_wp2_with fail
    go_ret
    exact ⟨rfl, HB3.out⟩
  have hd : decide ((150 : Int) < nl) = false := by simp; omega
  go_wp2_with fail
  refine (head8_any x _).mono ?_
  rintro e9 w1 ⟨H, hH0, hH, rfl, hb1⟩
  have HBg := fun u => hide (begun8_any H hH0 hH u)
  have HNw : ∀ T u, Hid (Calls Try.prog 7 #[.agg #[.int .i64 9, .int .i64 32768, .int .i64 (H : Int), .int .i64 29, .bool false], .pointer (some ⟨T, 0, none⟩)] u fun e w' => ∃ A, e = .returned (.tuple #[.pointer (some ⟨A, 0, none⟩), .int .i64 0]) ∧ u.heap.size ≤ A ∧ Rfs w' A T H ∧ Below u.heap.size u w') := fun T u => hide (by
    refine (rnew_any 9 32768 H 29 false T u).mono ?_
    rintro e9 w2 (⟨h, _⟩ | ⟨_, A, rfl, hA, hc, hb⟩)
    · exact absurd (check9 H hH0 hH) h
    · exact ⟨A, rfl, hA, hc, hb⟩)
  have HFi := fun u => hide (first9 H hH0 hH u)
  have HX1 : Hid (Bx8 (w1.alloc (.cells #[.int .i64 9, .int .i64 32768, .int .i64 (H : Int), .int .i64 29, .bool false] 25)) w1.heap.size H) := hide (heap_new9 w1 _)
  have HB1 := hide (hb1.alloc hb1.size (.cells #[.int .i64 9, .int .i64 32768, .int .i64 (H : Int), .int .i64 29, .bool false] 25))
  have hs1 := hb1.size
  obtain ⟨x0, x1, x2, x3, x4⟩ := HX1.out.cell
  clear hb1
  go_wp2_with fail
  have hs2 : w1.heap.size < (w1.alloc (.cells #[.int .i64 9, .int .i64 32768, .int .i64 (H : Int), .int .i64 29, .bool false] 25)).heap.size := by simp
  clear x0 x1 x2 x3 x4
  generalize w1.alloc (.cells #[.int .i64 9, .int .i64 32768, .int .i64 (H : Int), .int .i64 29, .bool false] 25) = w2 at *
  refine ((HBg _).out).mono ?_
  rintro e9 w3 ⟨T, J, F, S, rfl, hSl, hSc, hbg⟩
  have HSl : Hid (S.length ≤ 4194304) := hide (by rw [hSl]; omega)
  have HSc := hide (ctsR_first H hSc)
  have HB23 := hide hbg.below
  have hTl := hbg.tx.lt
  have hjt := hbg.jt
  have hwj := hbg.wj
  obtain ⟨v1, v2, hf⟩ := hbg.fil
  have hFx : w2.heap.size ≤ F ∧ F < J := hf.xF
  have HT3 : Hid (Tst w3 T J F (fun k => w2.heap.size ≤ k ∧ k < J) ⟨v1, v2, .slice none 0 0, 0, 0, 0, 0, false⟩ S (.map none) (.map none) (fun _ => Z5) (fun _ => Z5) 512 15360) := hide ⟨hbg.tx, ⟨Or.inl ⟨rfl, fun _ => rfl⟩, Or.inl ⟨rfl, fun _ => rfl⟩, fun _ => Z5_len, fun _ => Z5_len⟩, Or.inl ⟨rfl, rfl⟩, hbg.jr, hf, by omega, by omega, (fun r hr => (by rcases hr with h | h <;> cases h)), by omega, ⟨rfl, rfl⟩, by simp⟩
  clear hbg hSl hSc hf
  go_wp2_with fail
  refine ((HCt _).out).mono ?_
  rintro e9 w4 ⟨rfl, hb4⟩
  have HT4 := hide (HT3.out.below hb4)
  have HB24 := hide (HB23.out.trans (hb4.mono HB23.out.size))
  have HX4 := hide (HX1.out.below HB24.out)
  have hs34 := hb4.size
  obtain ⟨x0, x1, x2, x3, x4⟩ := HX4.out.cell
  clear hb4
  go_wp2_with fail
  refine ((HNw T _).out).mono ?_
  rintro e9 w5 ⟨A, rfl, hA4, hA5, hb5⟩
  have HA5 := hide hA5
  have HT5 := hide (HT4.out.below hb5)
  have HB25 := hide (HB24.out.trans (hb5.mono HB24.out.size))
  have HX5 := hide (HX1.out.below HB25.out)
  have hA5l := hA5.lt
  have hs45 := hb5.size
  clear hb5 hA5 x0 x1 x2 x3 x4
  obtain ⟨x0, x1, x2, x3, x4⟩ := HX5.out.cell
  have hmk := run_make_ints w5 H (by omega)
  have hbm : Below w5.heap.size w5 (w5.alloc (.cells (madeCells #[.int .i64 0] H) 3)) := (Below.refl _ _).alloc (Nat.le_refl _) _
  have HOm := hide (OwnJ.made w5 H (by unfold maxLen; omega))
  rw [← ones_zero] at HOm
  have HPl : Hid (PlcR w2.heap.size T J F A w5.heap.size (fun k => w2.heap.size ≤ k ∧ k < J)) := hide ⟨fun k h => h, by omega, by omega, by omega, by omega, by omega, by omega, by omega, by omega, by omega, by omega⟩
  have HIn : Hid (RInv w2 (w5.alloc (.cells (madeCells #[.int .i64 0] H) 3)) T J F A w5.heap.size H (fun k => w2.heap.size ≤ k ∧ k < J) S (ones H 33) (ones H 0) 0) := hide ⟨_, _, _, _, _, HT5.out.below hbm, by simp, HA5.out.below hbm, HOm.out.mono HB25.out.size, ones_len H 0, HSc.out, fun r hr => (by rcases hr with h | h <;> cases h), HB25.out.trans (hbm.mono HB25.out.size)⟩
  clear hbm
  go_wp2_with fail
  clear hmk x0 x1 x2 x3 x4
  generalize w5.alloc (.cells (madeCells #[.int .i64 0] H) 3) = w6 at *
  go_loopw [12] (fun v wr => ∃ (k : Nat), k ≤ 33 ∧ v = .int .i64 (k : Int) ∧ RInv w2 wr T J F A w5.heap.size H (fun k => w2.heap.size ≤ k ∧ k < J) S (ones H 33) (ones H k) 0) (fun v _ => 33 - (intOf v).toNat)
  case atStart => exact ⟨0, by omega, rfl, HIn.out⟩
  case round =>
    obtain ⟨k, hk, rfl, hin⟩ := hrel
    have HI := hide hin
    clear hin
    obtain ⟨x0, x1, x2, x3, x4⟩ := (HX1.out.below HI.out.below0).cell
    go_wp2_with fail
    refine ((HFi _).out).mono ?_
    rintro e9 w7 ⟨rfl, hb7⟩
    have HI7 := hide (HI.out.below hb7)
    clear hb7 x0 x1 x2 x3 x4
    by_cases hlt : k < 33
    · have cc := HI7.out.cell k (by omega)
      have ff := HI7.out.free k
      have HR := hide (HI7.out.row HPl.out k 1)
      rw [ones_set] at HR
      generalize (ones H k).getD k 0 = z at *
      have hkH : k < H := by omega
      go_wp2_with fail
      exact ⟨⟨k + 1, by omega, by congr 1 <;> omega, HR.out⟩, by simp [intOf]; omega⟩
    · obtain rfl : k = 33 := by omega
      go_wp2_with fail
      clear HI HIn
      go_loopw [13] (fun v wr => ∃ (k : Nat) (m : List Int), k ≤ nl ∧ v = .int .i64 (k : Int) ∧ RInv w2 wr T J F A w5.heap.size H (fun k => w2.heap.size ≤ k ∧ k < J) S m m k) (fun v _ => nl - (intOf v).toNat)
      case atStart => exact ⟨0, _, by omega, rfl, HI7.out⟩
      case round =>
        obtain ⟨k, m, hk, rfl, hin⟩ := hrel
        have HI := hide hin
        clear hin
        by_cases hlt : k < nl
        · obtain ⟨b, off, rfl, hcc⟩ : ∃ b off, a1 = some ⟨b, off, none⟩ ∧ ∀ u, Below w.heap.size w u → u.cell? ⟨b, off + k * 3, none⟩ = some (.int .i64 (L.getD k o3).1) ∧ u.cell? ⟨b, off + k * 3 + 1, none⟩ = some (.int .i64 (L.getD k o3).2.1) ∧ u.cell? ⟨b, off + k * 3 + 2, none⟩ = some (.int .i64 (L.getD k o3).2.2) := by
            rcases HL.out with h | ⟨b, off, rfl, hb, hcc⟩
            · exfalso
              have := HNl.out
              rw [h] at this
              simp at this
              omega
            · refine ⟨b, off, rfl, fun u hu => ?_⟩
              have h3 := hcc k (by rw [← HNl.out]; exact hlt)
              exact ⟨(hu.cell (p := ⟨b, off + k * 3, none⟩) hb).trans h3.1, (hu.cell (p := ⟨b, off + k * 3 + 1, none⟩) hb).trans h3.2.1, (hu.cell (p := ⟨b, off + k * 3 + 2, none⟩) hb).trans h3.2.2⟩
          generalize L.getD k o3 = o at *
          obtain ⟨c, n, v⟩ := o
          simp only at hcc
          have HCc := hide hcc
          have HI := hide (HI.out.below (Below.refl _ _).drew)
          have HPy : ∀ u, RInv w2 u T J F A w5.heap.size H (fun k => w2.heap.size ≤ k ∧ k < J) S m m k → Hid (Calls Try.prog 9 #[.pointer (some ⟨A, 0, none⟩), .slice (some ⟨w5.heap.size, 0, none⟩) H H, .int .i64 33, .agg #[.int .i64 c, .int .i64 n, .int .i64 v]] u fun e w' => e = .returned (.bool true) ∧ ∃ m', RInv w2 w' T J F A w5.heap.size H (fun k => w2.heap.size ≤ k ∧ k < J) S m' m' (k + 1)) := fun u hu => hide (play_any hu HPl.out HSl.out (by omega) hH0 hH c n v)
          clear hcc
          go_wp2_with fail
          have HEi := fun u (hu : Below w2.heap.size w2 u) => hide (eight (HX1.out.below hu) HCc.out (HB1.out.trans (hu.mono HB1.out.size)))
          obtain ⟨s0, s1, s2, s3, s4, s5, s6, s7⟩ := (HEi _ HI.out.below0).out
          go_region_held3 (fun u => u.cell? ⟨w1.heap.size, 0, none⟩ = some (.int .i64 9) ∧ u.cell? ⟨w1.heap.size, 1, none⟩ = some (.int .i64 32768) ∧ u.cell? ⟨w1.heap.size, 2, none⟩ = some (.int .i64 (H : Int)) ∧ u.cell? ⟨w1.heap.size, 3, none⟩ = some (.int .i64 29) ∧ u.cell? ⟨w1.heap.size, 4, none⟩ = some (.bool false) ∧ u.cell? ⟨b, off + k * 3, none⟩ = some (.int .i64 c) ∧ u.cell? ⟨b, off + k * 3 + 1, none⟩ = some (.int .i64 n) ∧ u.cell? ⟨b, off + k * 3 + 2, none⟩ = some (.int .i64 v)) (first | go_keep | exact (HEi _ HI.out.below0).out | exact (HEi _ HI9.out.below0).out) (first
            | (go_at_call 8; refine ((HFi _).out).mono ?_; rintro e9 w8 ⟨rfl, hb8⟩; have HI := hide (HI.out.below hb8); clear hb8)
            | (go_at_call 9; refine ((HPy _ HI.out).out).mono ?_; rintro e9 w9 ⟨rfl, m', hi9⟩; have HI9 := hide hi9; clear hi9))
          all_goals
            go_wp2_with fail
            exact ⟨⟨k + 1, m', by omega, by congr 1 <;> omega, HI9.out⟩, by simp [intOf]; omega⟩
        · obtain rfl : k = nl := by omega
          have HAl := hide (rinv_all HI.out HPl.out HSl.out (by omega) hH0 hH)
          go_wp2_with fail
          refine HAl.out.mono ?_
          rintro e9 w8 ⟨v, rfl, hoL, hi8, _⟩
          have HI8 := hide hi8
          have HLm := hide hi8.len
          obtain ⟨g, cap, rfl, hgw⟩ : ∃ g cap, v = .slice (some ⟨g, 0, none⟩) H cap ∧ wr.heap.size ≤ g := by
            rcases hoL.2 with ⟨_, hn⟩ | ⟨g, cap, cur, e, hg, _⟩
            · exfalso; rw [hi8.len] at hn; omega
            · exact ⟨g, cap, by rw [e, hi8.len], hg⟩
          have hJw : J < wr.heap.size := by
            obtain ⟨f, vb, vm, B, M, h1, _⟩ := HI.out
            exact h1.jr.lt
          have HO := hide hoL
          have HEn := hide (rinv_ends hi8 HPl.out HSl.out (by omega) hH0 hH)
          clear hi8 hoL
          go_wp2_with fail
          refine HEn.out.mono ?_
          rintro e9 w9 ⟨rfl, hi9, _, hc9⟩
          have HI9 := hide hi9
          have HO9 := hide (HO.out.chg hc9 (show g ≠ F by omega))
          clear hi9 hc9 HEn HAl
          have hHH : ((H : Int) != (H : Int)) = false := by simp
          have HBn := hide (fun n => HI9.out.bd n)
          go_wp2_with fail
          go_loopw [18, 19, 20] (fun v1 v2 i wr => ∃ (k2 : Nat), k2 ≤ H ∧ v1 = .int .i64 (hiR (fun n => m.getD n 0) k2) ∧ v2 = .int .i64 (loR (fun n => m.getD n 0) k2) ∧ i = .int .i64 (k2 : Int) ∧ Below w9.heap.size w9 wr) (fun _ _ i _ => H - (intOf i).toNat)
          case atStart => exact ⟨0, by omega, rfl, rfl, rfl, Below.refl _ _⟩
          case round =>
            obtain ⟨k2, hk2, rfl, rfl, rfl, hbel⟩ := hrel
            have HBl := hide hbel
            clear hbel
            by_cases hlt2 : k2 < H
            · have cc := (HI9.out.below HBl.out).cell k2 hlt2
              have cd := (HO9.out.below HBl.out).cell HLm.out.symm k2 hlt2
              have HH1 : Hid (hiR (fun n => m.getD n 0) (k2 + 1) = if m.getD k2 0 = 0 then hiR (fun n => m.getD n 0) k2 else k2) := hide rfl
              have HL1 : Hid (loR (fun n => m.getD n 0) (k2 + 1) = if m.getD k2 0 = 0 ∧ 33 ≤ k2 ∧ loR (fun n => m.getD n 0) k2 = -1 then (k2 : Int) else loR (fun n => m.getD n 0) k2) := hide rfl
              have hng := loR_neg (fun n => m.getD n 0) k2
              have hx0 := (HBn.out k2).1
              generalize hx : m.getD k2 0 = x at *
              generalize hy : hiR (fun n => m.getD n 0) k2 = y at *
              generalize hz : loR (fun n => m.getD n 0) k2 = z at *
              clear hx hy hz
              have HD : Hid (∀ (y2 z2 : Int) (wr' : World), y2 = hiR (fun n => m.getD n 0) (k2 + 1) → z2 = loR (fun n => m.getD n 0) (k2 + 1) → Below w9.heap.size w9 wr' → ∃ (k' : Nat), k' ≤ H ∧ Value.int .i64 y2 = .int .i64 (hiR (fun n => m.getD n 0) k') ∧ Value.int .i64 z2 = .int .i64 (loR (fun n => m.getD n 0) k') ∧ Value.int .i64 ((k2 : Int) + 1) = .int .i64 (k' : Int) ∧ Below w9.heap.size w9 wr') := hide (fun y2 z2 wr' h1 h2 h3 => ⟨k2 + 1, by omega, by rw [h1], by rw [h2], by congr 1, h3⟩)
              have hxx : (x != x) = false := by simp
              go_wp2_with fail
              go_quiet (fail)
              have HBq := hide (fun q => belowN HBl.out q)
              by_cases h0 : 0 < x
              · have h1 : ¬ x = 0 := by omega
                go_wp2_with fail
                exact ⟨HD.out _ _ _ (by rw [HH1.out, if_neg h1]) (by rw [HL1.out, if_neg (fun e => h1 e.1)]) (HBq.out _), by simp [intOf]; omega⟩
              · have h1 : x = 0 := by omega
                subst h1
                obtain ⟨x0, x1, x2, x3, x4⟩ := (HX1.out.below (HI9.out.below HBl.out).below0).cell
                by_cases h33 : 33 ≤ k2
                · have h33d : decide ((33 : Int) ≤ (k2 : Int)) = true := by simp; omega
                  by_cases hz1 : z = -1
                  · subst hz1
                    go_wp2_with fail
                    refine ((HFi _).out).mono ?_
                    rintro e9 w10 ⟨rfl, hb10⟩
                    have HB10 := hide ((HBq.out _).trans (hb10.mono (HBq.out _).size))
                    clear hb10 x0 x1 x2 x3 x4
                    go_wp2_with fail
                    exact ⟨HD.out _ _ _ (by rw [HH1.out]; simp) (by rw [HL1.out]; simp; omega) HB10.out, by simp [intOf]; omega⟩
                  · have hz2 : ¬ z < 0 := fun e => hz1 (hng.1 e)
                    have hz3 : decide (z < 0) = false := by simp; omega
                    go_wp2_with fail
                    refine ((HFi _).out).mono ?_
                    rintro e9 w10 ⟨rfl, hb10⟩
                    have HB10 := hide ((HBq.out _).trans (hb10.mono (HBq.out _).size))
                    clear hb10 x0 x1 x2 x3 x4
                    go_wp2_with fail
                    exact ⟨HD.out _ _ _ (by rw [HH1.out]; simp) (by rw [HL1.out, if_neg (fun e => hz1 e.2.2)]) HB10.out, by simp [intOf]; omega⟩
                · have h33d : decide ((33 : Int) ≤ (k2 : Int)) = false := by simp; omega
                  go_wp2_with fail
                  refine ((HFi _).out).mono ?_
                  rintro e9 w10 ⟨rfl, hb10⟩
                  have HB10 := hide ((HBq.out _).trans (hb10.mono (HBq.out _).size))
                  clear hb10 x0 x1 x2 x3 x4
                  go_wp2_with fail
                  exact ⟨HD.out _ _ _ (by rw [HH1.out]; simp) (by rw [HL1.out, if_neg (fun e => h33 e.2.1)]) HB10.out, by simp [intOf]; omega⟩
            · obtain rfl : k2 = H := by omega
              go_wp2_with fail
              go_ret
              exact ⟨rfl, HB1.out.trans ((HI9.out.below HBl.out).below0.mono HB1.out.size)⟩

set_option maxRecDepth 100000 in
theorem refsPlays_lifted (os : Os) (started : os.Started) (H : Type) (enc : TypeId × Value → H) :
    ReturnsInHanded {} Try.checked os 3 .any (Rows.refsPlaysSpec.pre6 enc Try.prog Try.f3 Rows.refsPlaysRow.domain false) (Rows.refsPlaysSpec.post enc Try.prog Try.f3 false true false false) := by
  refine returnsInHanded_of_change (C := Try.checked) own started (by kernel_rfl) Try.func3
    (ChangeSpec.witness6 (enc := enc) (C := Try.checked) false ⟨#[], #[.int .i64 0, .slice none 0 0], []⟩ 8 (by kernel_rfl) (by kernel_rfl) (by kernel_rfl) (by kernel_rfl)) ?_
  intro W base args ds gs before hval0 hW _ _
  have hval : ∀ (j : Nat) t v, Try.f3.params[j]? = some t → args[j]? = some v → Value.okWide Try.prog W .any base t v := hval0
  have hW' := hW
  obtain ⟨p, q, hA0, hV, rfl, hfz, hnd⟩ := hW
  have hA : DataW.TrodAll enc Try.prog W 0 (fun _ => true) true Try.f3.params.toList args.toList ds p := hA0
  rw [Try.params3] at hA hval
  obtain ⟨v0, vs0, d0, ds0, p0, q0, hargs0, rfl, rfl, h0, r0⟩ := trodAll_cons hA
  obtain ⟨v1, vs1, d1, ds1, p1, q1, hargs1, rfl, rfl, h1, r1⟩ := trodAll_cons r0
  obtain ⟨rfl, rfl, rfl⟩ := trodAll_nil r1
  subst hargs1
  obtain rfl : args = #[v0, v1] := by cases args; simp_all
  obtain ⟨rfl, rfl⟩ := trodVars_none hV
  simp only [List.append_nil] at hW'
  have hlt1 : ∀ x ∈ p1, x.block < W.heap.size := fun x hx => by simpa using hW'.lt x (by simp [hx])
  obtain ⟨x0, rfl, rfl, rfl, w0⟩ := open_int Try.underlying3 (hval 0 3 v0 rfl rfl) h0
  obtain ⟨a1, cap1, l1, rfl, hn1, hl1⟩ := open_ops8 (hval 1 22 v1 rfl rfl) h1
  clear hA0
  refine (rplays_walk x0 a1 cap1 l1 W hl1 hn1).mono fun e W' ⟨he, hb⟩ => ?_
  subst he
  refine ⟨_, rfl, _, _, _, [], ([] ++ (p1 ++ [])), [], hW', ?_, ?_, rfl, hb.frame _, fun h => by cases h⟩
  · exact trodAll_cons_mk (shut_bool Try.underlying4 _) trodAll_mk0
  · exact trodAll_cons_mk (shut_int Try.underlying3 w0) (trodAll_cons_mk (Below.trod laidOut (by kernel_rfl) (of_decide_eq_true (by kernel_rfl)) h1 hb hlt1) (trodAll_mk0))

theorem refsPlays_holds : Rows.RefsPlaysSaid :=
  OpenClaim.holds_of_wide 3 Try.f3 rfl rfl rfl rfl rfl rfl rfl ⟨rfl, rfl, rfl, rfl, rfl⟩ rfl rfl rfl rfl rfl (by kernel_rfl) Try.func3 (by kernel_rfl)
    (of_decide_eq_true (by kernel_rfl)) (by unfold Func.isWrapper; first | (rw [if_pos (by decide +kernel)]; kernel_rfl) | (rw [if_neg (by decide +kernel)]; exact ⟨rfl, rfl⟩))
    (fun os started H enc _ => refsPlays_lifted os started H enc)
end Go.Proofs.Ytnfbhgahkajhnaa.Oct
