/- PartsWindows: a part of a disk reads as those bytes, and no others; one that isn't in it is none. -/
import Derived.Test.YtjpdfchdgphdoaaGreatDoorPQwb
import Derived.Test.YtjpdfchdgphdoaaGreatDoorPQph
import Derived.Test.YtjpdfchdgphdoaaGreatDoorPQwa
import Derived.Test.YtjpdfchdgphdoaaGreatDoorPSrt
import Derived.Test.YtjpdfchdgphdoaaGreatDoorRows
import Derived.Test.YtjpdfchdgphdoaaGreatDoorCards
import Derived.Test.YtjpdfchdgphdoaaGreatDoorTie
import Derived.LaidMore
import Derived.Stop.Joined
import Derived.SevenTiedAt
namespace Go.Proofs.YtjpdfchdgphdoaaGreatDoor.Oct
open Go.RowKit Go.WideShapes Go.ChangeShapes Go.ChangeAt

set_option maxHeartbeats 16000000 in
set_option maxRecDepth 100000 in
theorem win_walk (a : Option Addr) (cap : Nat) (l : List Int) (x y t n : Int) (w : World) (hs : Sl w a cap l) (hx : -9223372036854775808 ≤ x ∧ x ≤ 9223372036854775807) (hy : -9223372036854775808 ≤ y ∧ y ≤ 9223372036854775807) (ht : -9223372036854775808 ≤ t ∧ t ≤ 9223372036854775807) (hn : -9223372036854775808 ≤ n ∧ n ≤ 9223372036854775807) :
    Calls Tryz.prog 3 #[.agg #[.slice a l.length cap, .int .i64 x, .int .i64 y, .int .i64 t, .int .i64 n]] w fun e w' => e = .returned (.bool true) ∧ Below w.heap.size w w' := by
  have HMp := fun u => hide (mapped_any sort_says u)
  obtain ⟨w1, hw1⟩ : ∃ w1, w1 = w.alloc (.cells #[.slice a l.length cap, .int .i64 x, .int .i64 y, .int .i64 t, .int .i64 n] 26) := ⟨_, rfl⟩
  have hk1 : Blk w1 w.heap.size #[.slice a l.length cap, .int .i64 x, .int .i64 y, .int .i64 t, .int .i64 n] 26 := by rw [hw1]; exact Blk.new _ _ _
  have hb1 : Below w.heap.size w w1 := by rw [hw1]; exact (Below.refl w.heap.size w).alloc (Nat.le_refl _) _
  have c0 : w1.cell? ⟨w.heap.size, 0, none⟩ = some (.slice a l.length cap) := hk1.cell 0 _ rfl
  have c1 : w1.cell? ⟨w.heap.size, 1, none⟩ = some (.int .i64 x) := hk1.cell 1 _ rfl
  have c2 : w1.cell? ⟨w.heap.size, 2, none⟩ = some (.int .i64 y) := hk1.cell 2 _ rfl
  have c3 : w1.cell? ⟨w.heap.size, 3, none⟩ = some (.int .i64 t) := hk1.cell 3 _ rfl
  have c4 : w1.cell? ⟨w.heap.size, 4, none⟩ = some (.int .i64 n) := hk1.cell 4 _ rfl
  have HW1 := hide hw1
  have HB1 := hide hb1
  have HS := hide hs
  obtain ⟨m, hm⟩ : ∃ m, m = l.length := ⟨_, rfl⟩
  rw [← hm] at c0 HW1 ⊢
  have HM := hide hm
  have HX := hide (And.intro hx (And.intro hy (And.intro ht hn)))
  have hlt1 := hk1.lt
  have hne := World.new_ne w1 ⟨w.heap.size, 0, none⟩ c0
  clear hk1 hw1 hb1 hs hm hx hy ht hn
  go_enter Tryz.func3, Tryz.ntmps3
  go_wp2_with fail
  rw [← HW1.out]
  go_region
  obtain ⟨w2, hw2⟩ : ∃ w2, w2 = (w1.alloc (.cells #[.int .i64 x, .int .i64 y] 24)).drew := ⟨_, rfl⟩
  rw [← hw2]
  have hk2 : Blk w2 w1.heap.size #[.int .i64 x, .int .i64 y] 24 := by rw [hw2]; exact (Blk.new w1 _ _).drew
  have HB2 : Hid (Below w.heap.size w w2) := hide (by rw [hw2]; exact (HB1.out.alloc HB1.out.size _).drew)
  have HK2 := hide hk2
  clear hk2 hw2 c0 c1 c2 c3 c4 hne hlt1 HB1 HW1
  apply_assumption
  go_wp2_with fail
  refine (HMp _).out.mono ?_
  rintro e9 w3 ⟨rfl, hb3⟩
  have HK3 := hide (HK2.out.below hb3)
  have HB3 := hide (HB2.out.trans (hb3.mono HB2.out.size))
  clear hb3 HK2 HB2
  by_cases hm2 : (2000 : Int) < (m : Int)
  · go_wp2_with fail
    refine (HMp _).out.mono ?_
    rintro e9 w4 ⟨rfl, hb4⟩
    have HB4 := hide (HB3.out.trans (hb4.mono HB3.out.size))
    clear hb4
    go_wp2_with fail
    go_ret
    exact ⟨rfl, HB4.out⟩
  have x0 : w3.cell? ⟨w1.heap.size, 0, none⟩ = some (.int .i64 x) := HK3.out.cell 0 _ rfl
  have x1 : w3.cell? ⟨w1.heap.size, 1, none⟩ = some (.int .i64 y) := HK3.out.cell 1 _ rfl
  have HWi := hide (window_any a m cap x y w3)
  cases hoff : offW x y (m : Int)
  · rw [hoff] at HWi
    simp only [Bool.false_eq_true, if_false] at HWi
    have hin : 0 ≤ x ∧ x ≤ y ∧ y ≤ (m : Int) := by unfold offW at hoff; simp at hoff; omega
    have HIn := hide hin
    have ho0 : ¬ x < 0 := by omega
    have ho1 : ¬ y < x := by omega
    have ho2 : ¬ (m : Int) < y := by omega
    have hw : IntKind.i64.wrap (y - x) = y - x := by rw [IntKind.wrap_i64]; omega
    have hmS : ∀ (u : World) (v : Value), (method 342 76 (.agg #[v, .int .i64 x, .int .i64 y]) "Size").run Tryz.prog u = .ok (163, .agg #[v, .int .i64 x, .int .i64 y]) u := fun u v => by kernel_rfl
    have hmR : ∀ (u : World) (v : Value), (method 342 76 (.agg #[v, .int .i64 x, .int .i64 y]) "Read").run Tryz.prog u = .ok (162, .agg #[v, .int .i64 x, .int .i64 y]) u := fun u v => by kernel_rfl
    clear hoff hin
    go_wp2_with fail
    refine HWi.out.mono ?_
    rintro e9 w4 ⟨rfl, hb4⟩
    have hk4 := HK3.out.below hb4
    have y0 : w4.cell? ⟨w1.heap.size, 0, none⟩ = some (.int .i64 x) := hk4.cell 0 _ rfl
    have y1 : w4.cell? ⟨w1.heap.size, 1, none⟩ = some (.int .i64 y) := hk4.cell 1 _ rfl
    have HK4 := hide hk4
    have HB4 := hide (HB3.out.trans (hb4.mono HB3.out.size))
    clear hb4 hk4 HK3 HB3 HWi x0 x1
    go_wp2_with fail
    have hin := HIn.out
    have hmm := HM.out
    refine (wsize_any w4 _ x y (by omega)).mono ?_
    rintro e9 w5 ⟨rfl, hb5⟩
    have HK5 := hide (HK4.out.below hb5)
    have HB5 := hide (HB4.out.trans (hb5.mono HB4.out.size))
    have HS5 := HS.out
    have HRd := hide (wread_any a cap l x y t n w5 (by omega) HS5.le HS5.none (HS5.lies.below HB5.out) (by omega) HX.out.2.2.1.2)
    rw [← HM.out] at HRd
    clear hb5 HK4 HB4 y0 y1 hin hmm HS5
    go_wp2_with fail
    refine HRd.out.mono ?_
    rintro e9 w6 ⟨h6, hb6⟩
    have hk6 := HK5.out.below hb6
    have z0 : w6.cell? ⟨w1.heap.size, 0, none⟩ = some (.int .i64 x) := hk6.cell 0 _ rfl
    have HK6 := hide hk6
    have HB6 := hide (HB5.out.trans (hb6.mono HB5.out.size))
    clear hb6 hk6 HK5 HB5 HRd
    rcases h6 with ⟨hk, v, rfl, a6, c6, rfl, hl6, hc6⟩ | ⟨hk, rfl⟩
    · obtain ⟨h0, h1, h2⟩ := lackN_false hk
      have hin := HIn.out
      obtain ⟨k, hkk⟩ : ∃ k : Nat, n = (k : Int) := ⟨n.toNat, by omega⟩
      subst hkk
      have hmm := HM.out
      have hln : ((l.drop (x + t).toNat).take (k : Int).toNat).length = k := by simp; omega
      rw [hln]
      have HL6 := hide hl6
      have hg0 : ¬ t < 0 := by omega
      have hg1 : ¬ (k : Int) < 0 := by omega
      have hg2 : ¬ (y - x) < t := by omega
      have hw3 : IntKind.i64.wrap (y - x - t) = y - x - t := by rw [IntKind.wrap_i64]; omega
      have hg3 : ¬ (y - x - t) < (k : Int) := by omega
      clear hk hl6 hc6 h0 h1 h2 hin hmm
      go_wp2_with fail
      refine (HMp _).out.mono ?_
      rintro e9 w7 ⟨rfl, hb7⟩
      have hk7 := HK6.out.below hb7
      have u0 : w7.cell? ⟨w1.heap.size, 0, none⟩ = some (.int .i64 x) := hk7.cell 0 _ rfl
      have HB7 := hide (HB6.out.trans (hb7.mono HB6.out.size))
      have HL7 := hide (HL6.out.below hb7)
      have hS7 := HS.out
      have hll := hS7.lies.below HB7.out
      have hin := HIn.out
      have hmm := HM.out
      have hle := hS7.le
      have hno := hS7.none
      obtain ⟨q, hq⟩ : ∃ q : Nat, x + t = (q : Int) := ⟨(x + t).toNat, by omega⟩
      rw [hq] at HL7 hln
      have hqe : (q : Int).toNat = q := by simp
      have hke : (k : Int).toNat = k := by simp
      rw [hqe, hke] at HL7 hln
      have hwA : IntKind.i64.wrap (x + t) = (q : Int) := by rw [IntKind.wrap_i64]; omega
      have hwB : IntKind.i64.wrap ((q : Int) + (k : Int)) = (q : Int) + (k : Int) := by rw [IntKind.wrap_i64]; omega
      have hqk : (q : Int) + (k : Int) ≤ (m : Int) := by omega
      have hSm : ∀ (a9 : Option Addr) (c9 : Nat), Lies w7 a9 ((l.drop q).take k) → Hid (Calls Tryz.prog 8 #[.slice a6 k c6, .slice a9 k c9] w7 fun e w' => e = .returned (.bool true) ∧ w' = w7) := fun a9 c9 h9 => hide (by
        have := same_self a6 a9 c6 c9 _ w7 HL7.out h9
        rw [hln] at this
        exact this)
      cases a with
      | none => as_aux_lemma =>
        have hl0 : l = [] := by
          rcases hll with h | ⟨b, off, h, _⟩
          · exact h
          · cases h
        have hc0 := hno rfl
        subst hl0
        simp at hmm
        subst hmm hc0
        obtain rfl : q = 0 := by omega
        obtain rfl : k = 0 := by omega
        obtain rfl : x = 0 := by omega
        obtain rfl : t = 0 := by omega
        have HSm := hSm none 0 (Or.inl (by simp))
        clear hln hqk hwA hwB hin hle hno hll hS7 hk7 hb7 z0 hSm hq hqe hke hg0 hg1 hg2 hg3 hw3 HX HIn
        go_wp2_with fail
        refine HSm.out.mono ?_
        rintro e9 w8 ⟨rfl, h8⟩
        rw [h8]
        clear h8
        go_wp2_with fail
        go_ret
        exact ⟨rfl, HB7.out⟩
      | some z => as_aux_lemma =>
        by_cases hk0 : k = 0
        · have hL0 : (l.drop q).take k = [] := by rw [hk0]; simp
          have HSm : ∀ (a9 : Option Addr) (c9 : Nat), Hid (Calls Tryz.prog 8 #[.slice a6 k c6, .slice a9 k c9] w7 fun e w' => e = .returned (.bool true) ∧ w' = w7) := fun a9 c9 => hSm a9 c9 (Or.inl hL0)
          have HSm0 : ∀ (a9 : Option Addr) (c9 : Nat), Hid (Calls Tryz.prog 8 #[.slice a6 k c6, .slice a9 0 c9] w7 fun e w' => e = .returned (.bool true) ∧ w' = w7) := fun a9 c9 => hide (by
            have := (HSm a9 c9).out
            rw [hk0] at this ⊢
            exact this)
          have hqm : q ≤ cap := by omega
          have hqk2 : q + k ≤ cap := by omega
          clear hL0 hk0 hin hmm hno hll hS7 hk7 hb7 z0 hSm hq hqe hke hg0 hg1 hg2 hg3 hw3 hln
          by_cases hqc : q = cap
          · subst hqc
            go_wp2_with fail
            with_reducible refine (HSm0 _ _).out.mono ?_
            rintro e9 w8 ⟨rfl, h8⟩
            rw [h8]
            clear h8
            go_wp2_with fail
            go_ret
            exact ⟨rfl, HB7.out⟩
          · go_wp2_with fail
            with_reducible refine (HSm _ _).out.mono ?_
            rintro e9 w8 ⟨rfl, h8⟩
            rw [h8]
            clear h8
            go_wp2_with fail
            go_ret
            exact ⟨rfl, HB7.out⟩
        · rcases hll with he | ⟨b, off, hz, hb, hc⟩
          · exfalso
            rw [he] at hmm
            simp at hmm
            omega
          cases hz
          have hqc : ¬ q = cap := by omega
          have hqk2 : q + k ≤ cap := by omega
          have HSm := hSm (some ⟨b, off + q, none⟩) (cap - q) ((Lies.mk (w := w7) (b := b) (off := off) (l := l) hc).of_part q k)
          clear hin hmm hno hS7 hk7 hb7 z0 hSm hq hqe hke hg0 hg1 hg2 hg3 hw3 hln hc hb
          go_wp2_with fail
          refine HSm.out.mono ?_
          rintro e9 w8 ⟨rfl, h8⟩
          rw [h8]
          clear h8
          go_wp2_with fail
          go_ret
          exact ⟨rfl, HB7.out⟩
    · as_aux_lemma =>
      have hK := hk
      unfold lackN at hK
      have hin := HIn.out
      have hmm := HM.out
      have HNo : Hid (t < 0 ∨ n < 0 ∨ (y - x) < t ∨ (y - x - t) < n) := hide (by simp at hK; omega)
      clear hk hK
      by_cases hg0 : t < 0
      · clear hin hmm
        go_wp2_with fail
        refine (HMp _).out.mono ?_
        rintro e9 w7 ⟨rfl, hb7⟩
        have HB7 := hide (HB6.out.trans (hb7.mono HB6.out.size))
        clear hb7
        go_wp2_with fail
        go_ret
        exact ⟨rfl, HB7.out⟩
      by_cases hg1 : n < 0
      · clear hin hmm
        go_wp2_with fail
        refine (HMp _).out.mono ?_
        rintro e9 w7 ⟨rfl, hb7⟩
        have HB7 := hide (HB6.out.trans (hb7.mono HB6.out.size))
        clear hb7
        go_wp2_with fail
        go_ret
        exact ⟨rfl, HB7.out⟩
      by_cases hg2 : (y - x) < t
      · clear hin hmm
        go_wp2_with fail
        refine (HMp _).out.mono ?_
        rintro e9 w7 ⟨rfl, hb7⟩
        have HB7 := hide (HB6.out.trans (hb7.mono HB6.out.size))
        clear hb7
        go_wp2_with fail
        go_ret
        exact ⟨rfl, HB7.out⟩
      have hg3 : (y - x - t) < n := by have := HNo.out; omega
      have hw3 : IntKind.i64.wrap (y - x - t) = y - x - t := by rw [IntKind.wrap_i64]; omega
      clear hin hmm HNo
      go_wp2_with fail
      refine (HMp _).out.mono ?_
      rintro e9 w7 ⟨rfl, hb7⟩
      have HB7 := hide (HB6.out.trans (hb7.mono HB6.out.size))
      clear hb7
      go_wp2_with fail
      go_ret
      exact ⟨rfl, HB7.out⟩
  · as_aux_lemma =>
    rw [hoff] at HWi
    simp only [if_true] at HWi
    have hno : x < 0 ∨ y < x ∨ (m : Int) < y := by unfold offW at hoff; simp at hoff; omega
    have HNo := hide hno
    clear hoff hno
    go_wp2_with fail
    refine HWi.out.mono ?_
    rintro e9 w4 ⟨rfl, hb4⟩
    have hk4 := HK3.out.below hb4
    have y0 : w4.cell? ⟨w1.heap.size, 0, none⟩ = some (.int .i64 x) := hk4.cell 0 _ rfl
    have y1 : w4.cell? ⟨w1.heap.size, 1, none⟩ = some (.int .i64 y) := hk4.cell 1 _ rfl
    have HB4 := hide (HB3.out.trans (hb4.mono HB3.out.size))
    clear hb4 hk4 HK3 HB3 HWi x0 x1
    by_cases ho0 : x < 0
    · go_wp2_with fail
      refine (HMp _).out.mono ?_
      rintro e9 w7 ⟨rfl, hb7⟩
      have HB7 := hide (HB4.out.trans (hb7.mono HB4.out.size))
      clear hb7
      go_wp2_with fail
      go_ret
      exact ⟨rfl, HB7.out⟩
    by_cases ho1 : y < x
    · go_wp2_with fail
      refine (HMp _).out.mono ?_
      rintro e9 w7 ⟨rfl, hb7⟩
      have HB7 := hide (HB4.out.trans (hb7.mono HB4.out.size))
      clear hb7
      go_wp2_with fail
      go_ret
      exact ⟨rfl, HB7.out⟩
    have ho2 : (m : Int) < y := by have := HNo.out; omega
    go_wp2_with fail
    refine (HMp _).out.mono ?_
    rintro e9 w7 ⟨rfl, hb7⟩
    have HB7 := hide (HB4.out.trans (hb7.mono HB4.out.size))
    clear hb7
    go_wp2_with fail
    go_ret
    exact ⟨rfl, HB7.out⟩

set_option maxRecDepth 100000 in
theorem partsWindows_door (os : Os) (args : Array Value) : laidMetH Tryz.prog Rows.partsWindowsRow.laid ((World.doorLaid Tryz.prog 400 os).forCall (fun _ _ => 0) ⟨#[], args, []⟩).memory :=
  laidMetH_of_parts3 (fuel := 8) (laidMet_of_run' 8 (by kernel_rfl) (by kernel_rfl)) (by kernel_rfl) (by kernel_rfl)

set_option maxRecDepth 100000 in
theorem partsWindows_lifted (os : Os) (started : os.Started) (H : Type) (enc : TypeId × Value → H) :
    ReturnsInHanded {} Tryz.checked os 3 .any (fun w args => (Rows.partsWindowsSpec.pre enc Tryz.prog Tryz.f3 [] false w args ∧ laidMetH Tryz.prog Rows.partsWindowsRow.laid w) ∧ sizedMet enc Tryz.prog Tryz.f3 (OpenSpec.ofChange Rows.partsWindowsSpec) false w args) (Rows.partsWindowsSpec.post enc Tryz.prog Tryz.f3 false true false false) := by
  refine returnsInHanded_of_change_and (C := Tryz.checked) (X := (fun w _ => laidMetH Tryz.prog Rows.partsWindowsRow.laid w)) (fun _ _ _ hh h => h.of_heap hh) own started (by kernel_rfl) Tryz.func3
    (ChangeSpec.witness_shaped (enc := enc) (C := Tryz.checked) (os := os) (X := (fun w _ => laidMetH Tryz.prog Rows.partsWindowsRow.laid w)) false (World.doorLaid Tryz.prog 400 os) #[.agg #[.slice none 0 0, .int .i64 0, .int .i64 0, .int .i64 0, .int .i64 0]] 8 rfl (World.shaped_of_RefB (by kernel_rfl) (by kernel_rfl)) (by kernel_rfl) (by kernel_rfl) (by kernel_rfl) (partsWindows_door os _)) ?_
  intro W base args ds gs before hval0 hW _ _ hL _
  have hval : ∀ (j : Nat) t v, Tryz.f3.params[j]? = some t → args[j]? = some v → Value.okWide Tryz.prog W .any base t v := hval0
  have hW' := hW
  obtain ⟨p, q, hA0, hV, rfl, hfz, hnd⟩ := hW
  have hA : DataW.TrodAll enc Tryz.prog W 0 (fun _ => true) true Tryz.f3.params.toList args.toList ds p := hA0
  rw [Tryz.params3] at hA hval
  obtain ⟨v0, vs0, d0, ds0, p0, q0, hargs0, rfl, rfl, h0, r0⟩ := trodAll_cons hA
  obtain ⟨rfl, rfl, rfl⟩ := trodAll_nil r0
  obtain rfl : args = #[v0] := by cases args; simp_all
  obtain ⟨rfl, rfl⟩ := trodVars_none hV
  simp only [List.append_nil] at hW'
  have hlt0 : ∀ x ∈ p0, x.block < W.heap.size := fun x hx => by simpa using hW'.lt x (by simp [hx])
  obtain ⟨a0, cap0, l0, x0, y0, t0, n0, rfl, hn0, hb0, hl0, hx0, hy0, ht0, hm0⟩ := open_win (hval 0 26 v0 rfl rfl) h0
  clear hA0
  refine (win_walk a0 cap0 l0 x0 y0 t0 n0 W hl0 hx0 hy0 ht0 hm0).mono fun e W' ⟨he, hb⟩ => ?_
  subst he
  refine ⟨_, rfl, _, _, _, [], (p0 ++ []), [], hW', ?_, ?_, rfl, hb.frame _, fun h => by cases h⟩
  · exact trodAll_cons_mk (shut_bool Tryz.underlying4 _) trodAll_mk0
  · exact trodAll_cons_mk (Below.trod laidOut (by kernel_rfl) (of_decide_eq_true (by kernel_rfl)) h0 hb hlt0) (trodAll_mk0)

theorem partsWindows_row : Rows.PartsWindowsSaid :=
  OpenClaim.holds_of_wide 3 Tryz.f3 rfl rfl rfl rfl rfl rfl rfl ⟨rfl, rfl, rfl, rfl, rfl⟩ rfl rfl rfl rfl rfl (by kernel_rfl) Tryz.func3 (by kernel_rfl)
    (of_decide_eq_true (by kernel_rfl)) (by unfold Func.isWrapper; first | (rw [if_pos (by decide +kernel)]; kernel_rfl) | (rw [if_neg (by decide +kernel)]; exact ⟨rfl, rfl⟩))
    (fun os started H enc _ => partsWindows_lifted os started H enc)

theorem partsWindows_holds : Rows.PartsWindowsCardSaid :=
  Claim7.holds_tied_plain_at .later [] [.data] true (true, "48e7b214f82d0273228bd0e752cb202f1f173523018546ed7ae1f9d8f284b3ee") false
    partsWindows_row (fun _ h => by cases h) (by kernel_rfl) (fun _ h => by cases h) partsWindows_row_tie rfl ⟨rfl, rfl⟩ (by kernel_rfl) rfl
    (fun f fn hf hfn => by
      obtain rfl : f = 3 := Option.some.inj ((show Tryz.prog.funcNamed "fettle/fettlelaw15.PartsWindows" = some 3 by kernel_rfl).symm.trans hf) |>.symm
      obtain rfl : fn = Tryz.f3 := (Option.some.inj (Tryz.func3.symm.trans hfn)).symm
      exact ⟨by kernel_rfl, fun j t ht => by
        rw [Tryz.params3] at ht
        have hm : t ∈ [26] := by simpa using Array.mem_of_getElem? ht
        have hall : ([26].all fun u => !Tryz.prog.wantsStandIn u) = true := by kernel_rfl
        exact (show Tryz.prog.wantsStandIn t = false by simpa using List.all_eq_true.1 hall t hm)⟩)
    (by kernel_rfl)
end Go.Proofs.YtjpdfchdgphdoaaGreatDoor.Oct
