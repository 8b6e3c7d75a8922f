/- TopAllOrNone, for every input: changes that are committed one behind the other, cut off anywhere, whatever is kept: behind a replay some of the first of them have come, each whole, at least as many as were committed without an error (no condition). -/
import Derived.Test.YtgmifbknmjdemaaGreatPNof
import Derived.Deep.CutBlock
import Derived.BigQuiet
namespace Go.Proofs.YtgmifbknmjdemaaGreat.Oct
open Go.RowKit Go.Deep Go.WideShapes Go.ChangeShapes Go.ChangeAt Go.Sort

theorem info_bN : (Tryz.prog.info? 24).map (fun i => (i.zero, i.size, i.bytes)) = some (some (.slice none 0 0), 1, 24) := by kernel_rfl

theorem new1N (w : World) (t : TypeId) (x : Value) : ∀ (j : Nat) (u : Value), [x][j]? = some u → (w.alloc (.cells #[x] t)).cell? ((⟨w.heap.size, 0, none⟩ : Addr).add j) = some u := by
  intro j u hj
  match j, hj with
  | 0, hj =>
    have h : (w.alloc (.cells #[x] t)).heap[w.heap.size]? = some (.cells #[x] t) := heap_alloc_new w _
    simp at hj
    subst hj
    rw [Go.WideShapes.add_plain]
    simp only [World.cell?, h]
    rfl

theorem rowQ_form {w : World} {B e s n : Nat} {v : Value} {xs : List Value} (h : w.ownsRow B e s v n xs) (hn : 0 < n) : ∃ g c, v = .slice (some ⟨g, 0, none⟩) n c := by
  rcases h.2 with ⟨_, h⟩ | ⟨g, cap, cur, rfl, _⟩
  · omega
  · exact ⟨g, cap, rfl⟩

theorem lies_oneE (w : World) (x y : Int) : LiesE (w.alloc (.cells #[.int .i64 x, .int .i64 y] 40)) (some ⟨w.heap.size, 0, none⟩) [(x, y)] := by
  have h9 := heap_alloc_new w (.cells #[.int .i64 x, .int .i64 y] 40)
  refine Or.inr ⟨w.heap.size, 0, rfl, by simp, fun k hk => ?_⟩
  obtain rfl : k = 0 := by simpa using hk
  exact ⟨by simp only [World.cell?, h9]; rfl, by simp only [World.cell?, h9]; rfl⟩

set_option maxRecDepth 100000 in
set_option maxHeartbeats 16000000 in
theorem allnone_walk (a0 : Option Addr) (c0 : Nat) (L : List CH) (x1 : Int) (a2 : Option Addr) (c2 : Nat) (kp : List Bool) (w : World) (hL : LiesC w a0 L) (hLn : L.length ≤ maxLen) (hPl : ∀ r ∈ L, (CH.P r).length ≤ maxLen) (hBy : ∀ r ∈ L, Byts (CH.b r)) (hK : LiesB w a2 kp) (hkl : kp.length ≤ maxLen) :
    Calls Tryz.prog 3 #[.slice a0 L.length c0, .int .i64 x1, .slice a2 kp.length c2] w fun e w' => e = .returned (.bool true) ∧ Below w.heap.size w w' := by
  obtain ⟨w0, Z, hmk, hZo, hZl, hZz, hb0, hsz0⟩ := make_b w
  have hZs : Sl w0 (some ⟨w.heap.size, 0, none⟩) 18800 Z := by
    obtain ⟨aZ, cZ, eZ, hZs0, _⟩ := hZo.sl
    rw [hZl] at eZ
    cases eZ
    exact hZs0
  have HN := hide (new_fl w0 (some ⟨w.heap.size, 0, none⟩) 18800 Z hZs.lies (by omega))
  rw [hZl] at HN
  have HL := hide (hL.below hb0)
  have HK := hide (hK.below hb0)
  have HPl := hide hPl
  have HBy := hide hBy
  have HZs := hide hZs
  have HZz := hide hZz
  have HZl := hide hZl
  have HZo := hide hZo
  have HB0 := hide hb0
  unfold maxLen at hLn hkl
  clear hL hK hPl hBy hZs hZz hZl hZo hb0
  go_enter Tryz.func3, Tryz.ntmps3
  go_wp2_with fail
  refine HN.out.mono ?_
  rintro e9 w1 ⟨F, f0, rfl, hf1, hf10, hb1⟩
  have HLen := hide (len_fl w1 _ F f0 _ _ _ hf1)
  dsimp only at HLen
  rw [HZl.out] at HLen
  have HF1 := hide hf1
  have HB1 := hide hb1
  have hsz1 := hb1.size
  clear hf1 hb1 HN hf10
  go_wp2_with fail
  refine HLen.out.mono ?_
  rintro e9 w9 ⟨rfl, h9⟩
  subst h9
  by_cases h8 : 8 < L.length
  · go_wp2_with fail
    refine HLen.out.mono ?_
    rintro e9 w9' ⟨rfl, h9⟩
    rw [h9]
    clear h9
    go_wp2_with fail
    go_ret
    exact ⟨rfl, HB0.out.trans (HB1.out.mono (by omega))⟩
  by_cases h2k : 200 < kp.length
  · go_wp2_with fail
    refine HLen.out.mono ?_
    rintro e9 w9' ⟨rfl, h9⟩
    rw [h9]
    clear h9
    go_wp2_with fail
    go_ret
    exact ⟨rfl, HB0.out.trans (HB1.out.mono (by omega))⟩
  have HJ := hide (jnew_fl w9 _ F f0 _ _ _ HF1.out 512 12288 (by omega) (by omega) (by omega) (by show 512 + 12288 ≤ Z.length; rw [HZl.out]; omega))
  go_wp2_with fail
  refine HJ.out.mono ?_
  rintro e9 w2 ⟨J, rfl, hj2, hjr2, hb2⟩
  have hjr2 : Jrn w2 J F (512 : Nat) (12800 : Nat) 0 := hjr2
  have HF2 := hide (HF1.out.below hb2)
  have HB2 := hide (HB1.out.trans (hb2.mono HB1.out.size))
  have HJr2 := hide hjr2
  have hsz2 := hb2.size
  clear hjr2 hb2 HJ HLen HF1
  go_wp2_with fail
  refine (pick150 _ x1).mono ?_
  rintro e9 w3 ⟨t1, ht1, rfl, h9⟩
  subst h9
  have HSt := hide (stop_fl w3 _ F f0 _ _ _ HF2.out (by omega) (1 + t1) (by omega) (by omega))
  rw [show ((1 + t1 : Nat) : Int) = 1 + (t1 : Int) by omega] at HSt
  go_wp2_with fail
  refine HSt.out.mono ?_
  rintro e9 w4 ⟨rfl, f1, hf4, hc4⟩
  rw [show 1 + t1 - 1 = t1 by omega] at hf4
  have hXl4 := hf4.x
  have HA4 : Hid (Aln w0 (w4.alloc (.cells #[.slice (some ⟨w.heap.size, 0, none⟩) 18800 18800] 24)) F J (fun q => w0.heap.size ≤ q ∧ q < w9.heap.size) f1 ⟨Z, Z, []⟩ t1 0 0 (.slice (some ⟨w4.heap.size, 0, none⟩) 1 1) [Z] (some ⟨w.heap.size, 0, none⟩) 18800 Z none []) := hide (by
    have hFx : w0.heap.size ≤ F ∧ F < w9.heap.size := hf4.xF
    have hs4 := hc4.size
    have hb4 : Below w0.heap.size w0 w4 := HB2.out.trans (hc4.below _ HB2.out.size (fun i hi e => by omega))
    have hb5 : Below w4.heap.size w4 (w4.alloc (.cells #[.slice (some ⟨w.heap.size, 0, none⟩) 18800 18800] 24)) := (Below.refl _ _).alloc (Nat.le_refl _) _
    have hj4 : Jrn w4 J F (512 : Nat) (12800 : Nat) 0 := (hc4.block J HJr2.out.lt (fun e => by omega)).trans HJr2.out
    have hs04 := hb4.size
    have h1 := World.ownsRow_lit (base := w0.heap.size) (e := 24) (size := 1) w4 #[.slice (some ⟨w.heap.size, 0, none⟩) 18800 18800] 1 hs04 (by decide) (by simp)
    have hz4 := (HZs.out.below hb4).below hb5
    refine ⟨hb4.trans (hb5.mono hs04), hf4.below hb5, hj4.below hb5, fun e => by omega, fun i hi => hi.1, by omega, ⟨[.slice (some ⟨w.heap.size, 0, none⟩) 18800 18800], by simpa using h1, fun g hg e => ?_, fun m hm => ?_⟩, hz4, fun x hx => ?_, Or.inl rfl, fun x hx => (by cases hx)⟩
    · simp [Value.ownBlock] at hg
      have := HJr2.out.lt
      rcases e with e | e <;> omega
    · obtain rfl : m = 0 := by simpa using hm
      refine ⟨some ⟨w.heap.size, 0, none⟩, 18800, by simp [HZl.out], by simpa using hz4, fun x hx => ?_⟩
      cases hx
      have := HJr2.out.lt
      simp [Value.ownBlock]
      omega
    · cases hx
      have := HJr2.out.lt
      simp [Value.ownBlock]
      omega)
  have HNo := hide (norm_r _ _ 1 [(512, 12800)] (lies_oneE (w4.alloc (.cells #[.slice (some ⟨w.heap.size, 0, none⟩) 18800 18800] 24)) 512 12800) 1 (by simp) (by omega))
  have hsz5 : (w4.alloc (.cells #[.slice (some ⟨w.heap.size, 0, none⟩) 18800 18800] 24)).heap.size = w4.heap.size + 1 := by simp
  rw [hsz5] at HNo
  clear hf4 hc4 HSt HF2 hXl4
  go_wp2_with fail
  generalize w4.alloc (.cells #[.slice (some ⟨w.heap.size, 0, none⟩) 18800 18800] 24) = w5 at *
  refine HNo.out.mono ?_
  rintro e9 w6 ⟨a6, c6, E0, rfl, hE6, _, hEi, hEl, hEx, hb6⟩
  have hb56 : Below w5.heap.size w5 (w5.alloc (.cells #[.int .i64 512, .int .i64 12800] 40)) := (Below.refl _ _).alloc (Nat.le_refl _) _
  have HA6 := hide (HA4.out.set (hb56.trans (hb6.mono hb56.size)) hE6 (fun x e => ⟨Nat.le_trans hb56.size (hEx x e).1, (hEx x e).2⟩))
  have HK6 := hide (zero_kno HZl.out HZz.out hEi hEl)
  obtain ⟨v11, hv11⟩ : ∃ v11, v11 = Value.slice (some ⟨w4.heap.size, 0, none⟩) 1 1 := ⟨_, rfl⟩
  rw [← hv11] at HA6 ⊢
  have HV : Hid (∃ c, v11 = Value.slice (some ⟨w4.heap.size, 0, none⟩) 1 c) := hide ⟨1, hv11⟩
  clear hv11 hE6 hEi hEl hEx hb6 hb56 HA4 HNo hsz5
  go_upto_block 0 with fail
  go_cut [11, 12, 14] from 28 (fun v11 v12 v14 wx => ∃ (X : Nat → Prop) (f : Fs) (A : A3) (k n : Nat) (nu : Int) (Qs : List (List Int)) (am : Option Addr) (cm : Nat) (m : List Int) (ae : Option Addr) (ce : Nat) (E : List (Int × Int)) (sure : Nat), v12 = .int .i64 (sure : Int) ∧ v14 = .slice ae E.length ce ∧ Aln w0 wx F J X f A k n nu v11 Qs am cm m ae E ∧ Knf A Qs sure E ∧ n ≤ 300000)
  case rest =>
    obtain ⟨X, f, A, k, n, nu, Qs, am, cm, m, ae, ce, E, sure, rfl, rfl, hA, hKf, hn⟩ := hcut
    have HCr := hide (crash_fl wc X F f A k n hA.fl (by omega) a2 c2 kp (HK.out.below hA.bel))
    have hcr : crashD A kp = leftD A.T A.D kp A.D.length := rfl
    rw [← hcr] at HCr
    obtain ⟨b', nu', D, _, _, _, _, _, _, hg, hst, hsay⟩ := hKf.says kp
    obtain ⟨s1, s2, s3, _, _⟩ := hst.says hg
    generalize crashD A kp = R at *
    have HA := hide hA
    have HKf := hide hKf
    have HSt := hide (And.intro hg hst)
    have HSay := hide hsay
    have hql := hKf.ql
    obtain ⟨N, hN⟩ : ∃ N, N = R.length := ⟨_, rfl⟩
    have hNb : 12800 ≤ N ∧ N ≤ 4194304 := by omega
    have HN := hide hN
    clear hA hKf hcr hg hst hsay s1 s2 s3 hN
    go_wp2_with fail
    refine HCr.out.mono ?_
    rintro e9 w2c ⟨v2, rfl, ho2, hb2⟩
    obtain ⟨aR, cR, rfl, hlR, _⟩ := ho2.form
    have HNw := hide (new_fl w2c aR cR R hlR (by rw [← HN.out]; omega))
    have HA2 := hide (HA.out.below hb2)
    clear ho2 hb2 hlR HCr HA
    go_wp2_with fail
    refine HNw.out.mono ?_
    rintro e9 w3c ⟨G, f3, rfl, hf3, _, hb3⟩
    have HJn := hide (jnew_fl w3c _ G f3 _ _ _ hf3 512 12288 (by omega) (by omega) (by omega) (by show 512 + 12288 ≤ R.length; rw [← HN.out]; omega))
    have HF3 := hide hf3
    have HB3 := hide hb3
    clear hf3 hb3 HNw
    go_wp2_with fail
    refine HJn.out.mono ?_
    rintro e9 w4c ⟨J4, rfl, hj4, hjr4, hb4⟩
    have hjr4 : Jrn w4c J4 G (512 : Nat) (12800 : Nat) 0 := hjr4
    have HRe := hide (replay_n w4c J4 G 0 _ f3 _ _ R hjr4 (HF3.out.below hb4) (by omega) (by omega) (fun e => by omega) HSt.out.1 HSt.out.2)
    have HB4 := hide (HB3.out.trans (hb4.mono HB3.out.size))
    have hs3 := HB3.out.size
    clear hb4 hjr4 HJn
    go_wp2_with fail
    refine HRe.out.mono ?_
    rintro e9 w5c ⟨⟨cc, rfl⟩, X5, f5, k5, n5, S5, hf5, hfin, hby5, hc5⟩
    obtain ⟨hS5l, htou, r, hr1, hr2, hr3⟩ := HSay.out S5 hfin
    have hb5 : Below w2c.heap.size w2c w5c := HB4.out.trans (hc5.below _ HB4.out.size (fun i hi e => by omega))
    have HA5 := hide (HA2.out.below hb5)
    have HBy5 := hide (bytes_fl w5c X5 G f5 _ _ _ hf5)
    have HBt := hide hby5
    have HTou := hide htou
    have HR3 := hide hr3
    have HSl := hide hS5l
    clear hf5 hfin hby5 hc5 hb5 htou hr3 hS5l HRe HA2 HSay
    go_wp2_with fail
    refine HBy5.out.mono ?_
    rintro e9 w6c ⟨v6, rfl, ho6, hb6⟩
    obtain ⟨a6, c6, e6, hs6, hg6⟩ := ho6.sl
    obtain ⟨g6, rfl, hg61, hg62⟩ := hg6 (fun e => by have := HSl.out; rw [e] at this; simp at this)
    rw [HSl.out] at e6
    have hc6 := hs6.le
    rw [HSl.out] at hc6
    subst e6
    have hc6m := hs6.max
    unfold maxLen at hc6m
    have HS6 := hide hs6
    have HA6 := hide (HA5.out.below hb6)
    clear ho6 hs6 hb6 hg6 HBy5 HA5
    have HBel : Hid (Below w.heap.size w w6c) := hide (HB0.out.trans (HA6.out.bel.mono (Nat.le_of_lt hsz0)))
    go_wp2_with fail
    go_loopw [26] (fun v26 wr => ∃ i : Nat, i ≤ 18800 ∧ v26 = .int .i64 (i : Int) ∧ Below w6c.heap.size w6c wr) (fun i _ => 18800 - (intOf i).toNat)
    case atStart => exact ⟨0, by omega, rfl, Below.refl _ _⟩
    case round =>
      obtain ⟨i, hi, rfl, hbr⟩ := hrel
      by_cases hlt : i < 18800
      · have q0 : wr.cell? ⟨g6, i, none⟩ = some (.int .u8 (S5.getD i 0)) := by
          rcases HS6.out.lies with e | ⟨b9, o9, e, h2, h3⟩
          · have := HSl.out; rw [e] at this; simp at this
          · cases e
            have := (hbr.cell (p := ⟨g6, 0 + i, none⟩) h2).trans (h3 i (by rw [HSl.out]; exact hlt))
            rwa [Nat.zero_add] at this
        have q1 : wr.cell? ⟨w.heap.size, i, none⟩ = some (.int .u8 0) := by
          have hbb : Below w0.heap.size w0 wr := HA6.out.bel.trans (hbr.mono HA6.out.bel.size)
          rcases HZs.out.lies with e | ⟨b9, o9, e, h2, h3⟩
          · have := HZl.out; rw [e] at this; simp at this
          · cases e
            have := (hbb.cell (p := ⟨w.heap.size, 0 + i, none⟩) h2).trans (h3 i (by rw [HZl.out]; exact hlt))
            rwa [Nat.zero_add, HZz.out i] at this
        have HTi := hide (fun h => HTou.out i h hlt)
        have HHa := hide (has_any wr.drew ae ce E (i : Int) ((HA6.out.el.below hbr).below (Below.refl _ _).drew) (by have := HKf.out.el; omega))
        have HBr := hide hbr
        have d0 : wr.drew.cell? ⟨g6, i, none⟩ = some (.int .u8 (S5.getD i 0)) := q0
        have d1 : wr.drew.cell? ⟨w.heap.size, i, none⟩ = some (.int .u8 0) := q1
        clear hbr
        generalize S5.getD i 0 = x at *
        by_cases hx : x = 0
        · subst hx
          go_wp2_with fail
          go_quiet (fail)
          go_wp2_with fail
          exact ⟨⟨i + 1, by omega, by go_num, ⟨HBr.out.os, HBr.out.tape, HBr.out.output, HBr.out.size, HBr.out.block⟩⟩, by simp [intOf]; omega⟩
        · have hxd : decide (x = 0) = false := by simp [hx]
          have hxb : (x == 0) = false := by simp [hx]
          have hxn : (x != 0) = true := by simp [hx]
          have hgl : g6 < wr.heap.size := Nat.lt_of_lt_of_le hg62 HBr.out.size
          have hwl : w.heap.size < wr.heap.size := by have := HA6.out.bel.size; have := HBr.out.size; omega
          go_wp2_with fail
          go_region_held3 (fun u => u.cell? ⟨g6, i, none⟩ = some (.int .u8 x) ∧ u.cell? ⟨w.heap.size, i, none⟩ = some (.int .u8 0)) (first | go_keep | exact HC7.out) (first
            | (go_at_call 17; refine (HHa.out).mono ?_; rintro e9 w7c ⟨bb, rfl, hbi, hb7⟩; obtain rfl : bb = true := hbi.2 (HTi.out hx); have HB7 : Hid (Below w6c.heap.size w6c w7c) := hide (HBr.out.trans (Below.mono (show Below wr.heap.size wr w7c from ⟨hb7.os, hb7.tape, hb7.output, hb7.size, hb7.block⟩) HBr.out.size)); have HC7 : Hid (w7c.cell? ⟨g6, i, none⟩ = some (.int .u8 x) ∧ w7c.cell? ⟨w.heap.size, i, none⟩ = some (.int .u8 0)) := hide ⟨(hb7.cell (p := ⟨g6, i, none⟩) hgl).trans d0, (hb7.cell (p := ⟨w.heap.size, i, none⟩) hwl).trans d1⟩; clear hbi hb7))
          go_wp2_with fail
          exact ⟨⟨i + 1, by omega, by go_num, HB7.out⟩, by simp [intOf]; omega⟩
      · obtain rfl : i = 18800 := by omega
        obtain ⟨w7, hw7⟩ : ∃ w7, w7 = wr := ⟨_, rfl⟩
        subst hw7
        have HA7 := hide (HA6.out.below hbr)
        have HS7 := hide (HS6.out.below hbr)
        have HBel7 : Hid (Below w.heap.size w w7) := hide (HBel.out.trans (hbr.mono HBel.out.size))
        obtain ⟨xs, hox, _, hmx⟩ := HA7.out.rows
        obtain ⟨gs, cs, rfl⟩ := rowQ_form hox (by omega)
        have HOX := hide hox
        have HMX := hide hmx
        clear hbr hox hmx HA6 HS6 HBel
        go_wp2_with fail
        go_loopw [27] (fun v27 wr => ∃ i : Nat, sure ≤ i ∧ i ≤ r ∧ v27 = .int .i64 (i : Int) ∧ Below w7.heap.size w7 wr) (fun i _ => r + 1 - (intOf i).toNat)
        case atStart => exact ⟨sure, by omega, by omega, rfl, Below.refl _ _⟩
        case round =>
          obtain ⟨i, hi1, hi2, rfl, hbr⟩ := hrel
          obtain ⟨aq, cq, hq1, hq2, hq3⟩ := HMX.out i (by omega)
          have hQl := (HKf.out.len (Qs.getD i []) (by rw [show Qs.getD i [] = Qs[i] by simp [show i < Qs.length by omega]]; exact List.getElem_mem _))
          have HSel : Hid (i = r → ∀ x, 12800 ≤ x → x < 18800 → S5.getD x 0 = (Qs.getD i []).getD x 0) := hide (fun e => by rw [e]; exact HR3.out)
          have qc : wr.cell? ⟨gs, i, none⟩ = some (.slice aq (Qs.getD i []).length cq) := by
            have h1 := (World.ownsRow.lt HOX.out gs rfl).2
            have h2 := World.ownsRow.cellAt HOX.out i (by omega)
            rw [hq1] at h2
            exact (hbr.cell (p := ⟨gs, i, none⟩) h1).trans h2
          generalize Qs.getD i [] = Q at *
          rw [hQl.1] at qc
          rcases hq2.lies with e | ⟨bq, oq, rfl, hbq, hcq⟩
          · have := hQl.1; rw [e] at this; simp at this
          have hqle := hq2.le
          have hqmx := hq2.max
          rw [hQl.1] at hqle
          unfold maxLen at hqmx
          have hl1 := Lies.of_part (HS7.out.lies.below hbr) 12800 6000
          have hl2 := Lies.of_part (hq2.lies.below hbr) 12800 6000
          have hn1 : ((S5.drop 12800).take 6000).length = 6000 := by rw [List.length_take, List.length_drop, HSl.out]; omega
          have hn2 : ((Q.drop 12800).take 6000).length = 6000 := by rw [List.length_take, List.length_drop, hQl.1]; omega
          have ht1 := run_text (P := Tryz.prog) (dst := 9) Tryz.underlying24 Tryz.underlying5 Tryz.underlying9 wr.drew (some ⟨g6, 0 + 12800, none⟩) ((S5.drop 12800).take 6000) (c6 - 12800) hl1.drew
          have ht2 := run_text (P := Tryz.prog) (dst := 9) Tryz.underlying24 Tryz.underlying5 Tryz.underlying9 wr.drew (some ⟨bq, oq + 12800, none⟩) ((Q.drop 12800).take 6000) (cq - 12800) hl2.drew
          rw [hn1, Nat.zero_add] at ht1
          rw [hn2] at ht2
          have hbt := beq_text (l := (S5.drop 12800).take 6000) (l' := (Q.drop 12800).take 6000) ((HBt.out.drop _).take _) ((hQl.2.drop _).take _)
          have HEq : Hid (i = r → (S5.drop 12800).take 6000 = (Q.drop 12800).take 6000) := hide (fun e => by
            refine ext_getD (by rw [hn1, hn2]) (fun j hj => ?_)
            rw [hn1] at hj
            rw [part_get, part_get, if_pos hj, if_pos hj]
            exact HSel.out e _ (by omega) (by omega))
          generalize (S5.drop 12800).take 6000 = T1 at *
          generalize (Q.drop 12800).take 6000 = T2 at *
          have hc61 : ¬ c6 = 12800 := by omega
          have hcq1 : ¬ cq = 12800 := by omega
          have hir : (i : Int) < (Qs.length : Int) := by omega
          have HBr := hide hbr
          clear hl1 hl2 hn1 hn2 hq2 hq3 hcq hbr hq1 HSel
          by_cases he : T1 = T2
          · have hbt2 : ((ba T1).toList == (ba T2).toList) = true := by rw [hbt]; simp [he]
            clear hbt
            have qcd : wr.drew.cell? ⟨gs, i, none⟩ = some (.slice (some ⟨bq, oq, none⟩) 18800 cq) := qc
            go_wp2_with fail
            go_region
            all_goals (apply_assumption; go_wp2_with fail)
            go_ret
            exact ⟨rfl, HBel7.out.trans (HBr.out.drew.mono HBel7.out.size)⟩
          · have hne : ¬ i = r := fun e => he (HEq.out e)
            have hbt2 : ((ba T1).toList == (ba T2).toList) = false := by rw [hbt]; simp [he]
            clear hbt
            have qcd : wr.drew.cell? ⟨gs, i, none⟩ = some (.slice (some ⟨bq, oq, none⟩) 18800 cq) := qc
            go_wp2_with fail
            go_region
            all_goals (apply_assumption; go_wp2_with fail)
            exact ⟨⟨i + 1, by omega, by omega, by go_num, HBr.out.drew⟩, by simp [intOf]; omega⟩
  case first =>
    go_wp2_with fail
    go_loopw [11, 12, 13, 14, 15] (fun v11 v12 v13 v14 v15 wr => ∃ (i : Nat) (X : Nat → Prop) (f : Fs) (S : List Int) (k n : Nat) (nu : Int) (Qs : List (List Int)) (am : Option Addr) (cm : Nat) (m : List Int) (ae : Option Addr) (ce : Nat) (E : List (Int × Int)), i ≤ L.length ∧ v15 = .int .i64 (i : Int) ∧ v12 = .int .i64 ((Qs.length - 1 : Nat) : Int) ∧ v13 = .slice am 18800 cm ∧ v14 = .slice ae E.length ce ∧ Aln w0 wr F J X f ⟨S, S, []⟩ k n nu v11 Qs am cm m ae E ∧ Kno S m Qs E i ∧ n ≤ 34000 * i) (fun _ _ _ _ i _ => L.length - (intOf i).toNat)
    case atStart => exact ⟨0, _, _, Z, _, _, _, [Z], _, _, Z, _, _, E0, by omega, rfl, rfl, rfl, rfl, HA6.out, HK6.out, by omega⟩
    case round =>
      obtain ⟨i, X, f, S, k, n, nu, Qs, am, cm, m, ae, ce, E, hi, rfl, rfl, rfl, rfl, hA, hKn, hn⟩ := hrel
      have HA := hide hA
      have HKn := hide hKn
      have HBel : Hid (Below w.heap.size w wr) := hide (HB0.out.trans (hA.bel.mono (Nat.le_of_lt hsz0)))
      have hw0r := hA.bel.size
      clear hA hKn HA6 HK6
      by_cases hlt : i < L.length
      · rcases HL.out.below HA.out.bel with h0 | ⟨b, off, rfl, hblt, hcc⟩
        · rw [h0] at hlt; simp at hlt
        have hPo := HPl.out (L.getD i CH.z) (by rw [show L.getD i CH.z = L[i] by simp [hlt]]; exact List.getElem_mem _)
        have hBo := HBy.out (L.getD i CH.z) (by rw [show L.getD i CH.z = L[i] by simp [hlt]]; exact List.getElem_mem _)
        obtain ⟨⟨q0, q1⟩, q2, q3⟩ := hcc i hlt
        generalize L.getD i CH.z = o at *
        obtain ⟨oa, oc, oP, oma, omc, ob⟩ := o
        dsimp only at q0 q1 q2 q3 hPo hBo
        have HQ2 := hide q2
        have HQ3 := hide q3
        have HBo := hide hBo
        unfold maxLen at hPo
        clear hcc q2 q3 hBo
        by_cases h9 : 8 < oP.length
        · go_wp2_with fail
          go_ret
          exact ⟨rfl, HBel.out⟩
        by_cases h10 : 600 < ob.length
        · go_wp2_with fail
          go_ret
          exact ⟨rfl, HBel.out⟩
        have HBg := hide (begin_ok wr J)
        go_wp2_with fail
        refine HBg.out.mono ?_
        rintro e9 wb ⟨T, rfl, hT, htx, hbb⟩
        have HTx := hide htx
        have HBb := hide hbb
        have HE0 : Hid (Own (wb.alloc (.cells #[] 5)) wb.heap.size (.slice (some ⟨wb.heap.size, 0, none⟩) 0 0) []) := hide ⟨rfl, Or.inr ⟨wb.heap.size, 0, #[], rfl, Nat.le_refl _, heap_alloc_new wb _, Nat.le_refl _, by simp, rfl, rfl⟩⟩
        have HB5 : Hid (Below wb.heap.size wb (wb.alloc (.cells #[] 5))) := hide ((Below.refl _ _).alloc (Nat.le_refl _) _)
        have HM0 : Hid (Lies (wb.alloc (.cells #[] 5)) am m) := hide ((HA.out.ml.lies.below hbb).below HB5.out)
        have HMl := hide HKn.out.ml
        have hs5 : wb.heap.size ≤ (wb.alloc (.cells #[] 5)).heap.size := HB5.out.size
        clear htx hbb HBg
        go_wp2_with (at_builtin; refine wpList_append_bytes rfl _ _ 24 rfl Tryz.underlying24 info5 wb.heap.size _ [] rfl (by exact HE0.out) am 18800 cm m rfl HMl.out.symm (by exact HM0.out) (by rw [HMl.out]; simp) hs5 ?_; intro v4 w4 ho4 hg4; obtain ⟨g, cap, rfl, hcap1, hcap2, hIn⟩ := Inn.start HA.out HBb.out hT HTx.out (HB5.out.grown hg4 hs5 (fun i hi => HE0.out.base i hi)) (by rw [List.nil_append] at ho4; exact ho4) HMl.out; have HIn := hide hIn; clear ho4 hg4 hIn)
        obtain ⟨w1, hw1⟩ : ∃ w1, w1 = wr := ⟨_, rfl⟩
        subst hw1
        go_loopw [14, 17, 19] (fun v14 v17 v19 wr => ∃ (kk : Nat) (vb vm : Value) (B M : Int → List Int) (Nx : List Int) (ae' : Option Addr) (ce' : Nat) (E' : List (Int × Int)), kk ≤ oP.length ∧ v19 = .int .i64 (kk : Int) ∧ v17 = .int .i64 0 ∧ v14 = .slice ae' E'.length ce' ∧ Inn w1 wr T J F X f S k n nu vb vm B M g cap Nx ae' E' u11.ownBlock ∧ Prg S B M Nx E E' kk) (fun _ _ kk _ => oP.length - (intOf kk).toNat)
        case atStart => exact ⟨0, _, _, _, _, m, ae, ce, E, by omega, rfl, rfl, rfl, HIn.out, ⟨HKn.out.rst.none, by have := HKn.out; exact (this.len m (by obtain ⟨Q0, rfl⟩ := this.last; simp)).2, fun j hj hne => HKn.out.tou m (by obtain ⟨Q0, hQ⟩ := HKn.out.last; rw [hQ]; simp) j hj hne, fun _ h => h, by omega⟩⟩
        case round =>
          obtain ⟨kk, vb, vm, B, M, Nx, ae', ce', E', hkk, rfl, rfl, rfl, hIn', hPr⟩ := hrel
          have HI := hide hIn'
          have HPr := hide hPr
          have hb1r := hIn'.bel
          have r0 := (hb1r.cell (p := ⟨b, off + i * 2, none⟩) hblt).trans q0
          have r1 := (hb1r.cell (p := ⟨b, off + i * 2 + 1, none⟩) hblt).trans q1
          have HR2 := hide (HQ2.out.below hb1r)
          have HR3 := hide (HQ3.out.below hb1r)
          have HB1r := hide hb1r
          clear hIn' hPr hb1r HIn
          by_cases hlt2 : kk < oP.length
          · rcases HR2.out with h0 | ⟨pb, poff, rfl, hpb, hpc⟩
            · rw [h0] at hlt2; simp at hlt2
            have p0 := hpc kk hlt2
            clear hpc
            generalize oP.getD kk 0 = px at *
            go_wp2_with fail
            refine (pick5000 _ px).mono ?_
            rintro e9 w9a ⟨t, ht, rfl, h9a⟩
            rw [h9a]
            clear h9a
            obtain ⟨u, hu⟩ : ∃ u : Nat, (u : Int) = 12800 + (t : Int) := ⟨12800 + t, by omega⟩
            have hu2 : 12800 ≤ u ∧ u < 17800 := by omega
            have hu3 : ¬ ((u : Int) < 0) := by omega
            have hu4 : ¬ ((18800 : Int) < (u : Int)) := by omega
            have HPut := hide (HI.out.put oma omc ob.length ob rfl HR3.out.lies ⟨HR3.out.le, by have := HR3.out.max; unfold maxLen at this; omega⟩ (fun x hx h0 => by
              rcases HQ3.out.lies with e | ⟨b9, o9, e, h2, _⟩
              · rw [e] at h0; simp at h0
              · rw [hx] at e
                cases e
                exact h2) u (by omega))
            go_wp2_with fail
            rw [← hu]
            refine HPut.out.mono ?_
            rintro e9 w5a ⟨rfl, vb', vm', B', M', hI5, hla⟩
            have hcapu : ¬ cap = u := by omega
            have HI5 := hide hI5
            have HLa := hide hla
            have s0 := (hI5.bel.cell (p := ⟨b, off + i * 2, none⟩) hblt).trans q0
            have s1 := (hI5.bel.cell (p := ⟨b, off + i * 2 + 1, none⟩) hblt).trans q1
            have HS3 := hide (HQ3.out.below hI5.bel)
            clear hI5 hla HPut r0 r1 HR2 HR3 hu
            obtain ⟨w6a, hrun, ho6, hg6⟩ := run_copy_part (P := Tryz.prog) (dT := 24) (sT := 24) (ty := 3) Tryz.underlying24 (by kernel_rfl) w5a.drew w1.heap.size g u 18800 cap (18800 - u) (cap - u) ob.length omc (some ⟨g, u, none⟩) oma ob Nx HI5.out.nx.drew HI5.out.nl.symm HS3.out.lies.drew (fun _ => rfl) (by show ob.length = min ob.length (18800 - u); omega) (by rw [HI5.out.nl]; omega)
            have HI6 := hide (HI5.out.over (w' := w6a) ⟨hg6.os, hg6.tape, hg6.output, hg6.size, hg6.block⟩ ho6 (by rw [over_length (by rw [HI5.out.nl]; omega)]; exact HI5.out.nl))
            have HMl5 := hide HI5.out.q.ov.ml
            have HNl := hide HI5.out.nl
            have t1' := (HI6.out.bel.cell (p := ⟨b, off + i * 2 + 1, none⟩) hblt).trans q1
            have HNo := hide (norm_r _ _ 1 [((u : Int), (u : Int) + (ob.length : Int))] (lies_oneE w6a u ((u : Int) + (ob.length : Int))) 1 (by simp) (by omega))
            clear ho6 hg6 HI5 HS3 HI
            go_wp2_with fail
            go_region
            clear hrun
            apply_assumption
            go_wp2_with fail
            refine HNo.out.mono ?_
            rintro e9 w7a ⟨aR, cR, R, rfl, hR7, _, hRi, hRl, hRx, hb7⟩
            have hb67 : Below w6a.heap.size w6a w7a := by
              have h1 := (Below.refl w6a.heap.size w6a).alloc (Nat.le_refl _) (.cells #[.int .i64 (u : Int), .int .i64 ((u : Int) + (ob.length : Int))] 40)
              exact h1.trans (hb7.mono h1.size)
            have HI7 := hide (HI6.out.below hb67)
            have HUn := hide (union_r w7a ae' aR ce' cR E' R (HI6.out.el.below hb67) hR7 (E'.length + 1) (by omega) (by have := HPr.out.el; have := HKn.out.el; omega))
            have HRi := hide hRi
            have hEl' := HPr.out.el
            clear hb7 hb67 hR7 hRx HNo HI6 hRi
            go_wp2_with fail
            refine HUn.out.mono ?_
            rintro e9 w8a ⟨aU, cU, U, rfl, hU8, _, hUi, hUl, hUx, hb8⟩
            have HI8 := hide (HI7.out.set hb8 hU8 hUx)
            have HPr8 : Hid (Prg S B' M' (over Nx u ob) E U (kk + 1)) := hide (HPr.out.step HNl.out HLa.out HMl5.out hu2.1 (by omega) HBo.out (fun x => by rw [hUi x, HRi.out x, inE_one]) hUl)
            clear hU8 hUi hUl hUx hb8 HUn HI7 HPr HLa
            go_wp2_with fail
            exact ⟨⟨kk + 1, vb', vm', B', M', over Nx u ob, aU, cU, U, by omega, by go_num, rfl, rfl, HI8.out, HPr8.out⟩, by simp [intOf]; omega⟩
          · obtain rfl : kk = oP.length := by omega
            have HCo := hide (Inn.commit HA.out HI.out HKn.out.rst HPr.out.ah (by omega))
            have HNl := hide HI.out.nl
            obtain ⟨i1, hi1, hz0, hz1, hz2⟩ := info_parts info_bN
            have HQl := hide HKn.out.ql
            clear HR2 HR3 r1 HB1r
            go_wp2_with fail
            refine HCo.out.mono ?_
            rintro e9 w5c (⟨rfl, hA5⟩ | ⟨rfl, X5, f5, S5, k5, n5, nu5, hA5, hn5, hr5⟩ | ⟨rfl, X5, f5, A5, k5, n5, nu5, hA5, hn5, hw5⟩)
            · have HA5 := hide hA5
              have HK5 := hide (HKn.out.full HPr.out (by omega))
              clear hA5 HCo
              go_wp2_with fail
              exact ⟨⟨i + 1, X, f, S, k, n, nu, Qs, am, cm, m, ae', ce', E', by omega, by go_num, rfl, rfl, rfl, HA5.out, HK5.out, by omega⟩, by simp [intOf]; omega⟩
            · have HK5 := hide (HKn.out.next HPr.out HNl.out (by omega) hr5)
              have hA6 := hA5.below ((Below.refl w5c.heap.size w5c).alloc (Nat.le_refl _) (.cells #[.slice (some ⟨g, 0, none⟩) 18800 cap] 24))
              obtain ⟨xs, hox, hvx, hmx⟩ := hA6.rows
              have HA6 := hide hA6
              have HOX := hide hox
              have HVX := hide (And.intro hvx hmx)
              have HBase := hide hA6.bel.size
              clear hA5 hA6 hox hvx hmx hr5 HCo
              go_wp2_with (at_builtin; refine wpList_append_own_at _ rfl (.tmp 169) (.tmp 171) 35 rfl w0.heap.size 24 i1 (.slice none 0 0) 1 24 Tryz.underlying35 hi1 hz0 hz1 hz2 rfl (by decide) u11 Qs.length xs rfl HOX.out ⟨w5c.heap.size, 0, none⟩ 1 1 [.slice (some ⟨g, 0, none⟩) 18800 cap] rfl rfl (by exact new1N w5c _ _) (by simp [Value.oneCell']) (by have := HQl.out; unfold maxLen; omega) (by have := HQl.out; omega) HBase.out ?_; intro v9 w9c ho9 hg9 _ hw9; obtain ⟨g9, c9, rfl⟩ := rowQ_form ho9 (by omega); have HA9 := hide (HA6.out.push HOX.out HVX.out.1 HVX.out.2 (by rw [HNl.out]; exact ho9) hg9 hw9); clear ho9 hg9 hw9)
              exact ⟨⟨i + 1, X5, f5, S5, k5, n5, nu5, Qs ++ [Nx], _, _, Nx, ae', ce', E', by omega, by go_num, (by have h9 := HQl.out; rw [show (Qs ++ [Nx]).length - 1 = Qs.length by simp]; congr 1; unfold wrap64; omega), rfl, rfl, by simpa using HA9.out, HK5.out, by omega⟩, by simp [intOf]; omega⟩
            · have HK5 := hide (HKn.out.cut HPr.out HNl.out (by omega) (by omega) hw5)
              have hA6 := hA5.below ((Below.refl w5c.heap.size w5c).alloc (Nat.le_refl _) (.cells #[.slice (some ⟨g, 0, none⟩) 18800 cap] 24))
              obtain ⟨xs, hox, hvx, hmx⟩ := hA6.rows
              have HA6 := hide hA6
              have HOX := hide hox
              have HVX := hide (And.intro hvx hmx)
              have HBase := hide hA6.bel.size
              clear hA5 hA6 hox hvx hmx hw5 HCo
              go_wp2_with (at_builtin; refine wpList_append_own_at _ rfl (.tmp 169) (.tmp 171) 35 rfl w0.heap.size 24 i1 (.slice none 0 0) 1 24 Tryz.underlying35 hi1 hz0 hz1 hz2 rfl (by decide) u11 Qs.length xs rfl HOX.out ⟨w5c.heap.size, 0, none⟩ 1 1 [.slice (some ⟨g, 0, none⟩) 18800 cap] rfl rfl (by exact new1N w5c _ _) (by simp [Value.oneCell']) (by have := HQl.out; unfold maxLen; omega) (by have := HQl.out; omega) HBase.out ?_; intro v9 w9c ho9 hg9 _ hw9; obtain ⟨g9, c9, rfl⟩ := rowQ_form ho9 (by omega); have HA9 := hide (HA6.out.push HOX.out HVX.out.1 HVX.out.2 (by rw [HNl.out]; exact ho9) hg9 hw9); clear ho9 hg9 hw9)
              go_meet
              case rel => exact ⟨X5, f5, A5, k5, n5, nu5, Qs ++ [Nx], _, _, Nx, ae', ce', E', Qs.length - 1, rfl, rfl, HA9.out, HK5.out, by omega⟩
      · obtain rfl : i = L.length := by omega
        go_wp2_with fail
        go_meet
        case rel => exact ⟨X, f, ⟨S, S, []⟩, k, n, nu, Qs, am, cm, m, ae, ce, E, Qs.length - 1, rfl, rfl, HA.out, (HKn.out.ends (by omega)).2, by omega⟩
end Go.Proofs.YtgmifbknmjdemaaGreat.Oct
