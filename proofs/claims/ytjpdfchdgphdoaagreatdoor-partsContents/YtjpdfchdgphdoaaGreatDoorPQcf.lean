/- PartsContents: a path's bytes, and their sums, are what the chapter says. -/
import Derived.Test.YtjpdfchdgphdoaaGreatDoorPQcdQce
import Derived.Test.YtjpdfchdgphdoaaGreatDoorPQph
import Derived.Test.YtjpdfchdgphdoaaGreatDoorPSrt
import Derived.Test.YtjpdfchdgphdoaaGreatDoorRows
import Derived.Test.YtjpdfchdgphdoaaGreatDoorCards
import Derived.Test.YtjpdfchdgphdoaaGreatDoorTie
import Derived.LaidMore
import Derived.Stop.Joined
import Derived.SevenTiedAt
namespace Go.Proofs.YtjpdfchdgphdoaaGreatDoor.Oct
open Go.RowKit Go.WideShapes Go.ChangeShapes Go.ChangeAt

def okF (d : List Int) (p : PT) : Bool := match contR d p.z p.L with | .ok _ => true | .error _ => false
/-- Has a path bytes, if it must? -/
def gdF (d : List Int) (p : PT) : Bool := okF d p || (p.k != 1)
def goodF (d : List Int) (L : List PT) : Bool := L.all (gdF d)

theorem good_sum {d : List Int} {p : PT} (h : gdF d p = true) : sumF d p = .ok (rsF d p) := by
  unfold gdF okF at h
  unfold sumF rsF
  by_cases hk : p.k = 1
  · rw [if_pos hk, if_pos hk, cont_eq]
    cases hc : contR d p.z p.L with
    | ok o => rfl
    | error c => rw [hc] at h; simp [hk] at h
  · rw [if_neg hk, if_neg hk]

theorem bad_sum {d : List Int} {p : PT} (h : gdF d p = false) : ∃ c, sumF d p = .error c := by
  unfold gdF okF at h
  unfold sumF
  by_cases hk : p.k = 1
  · rw [if_pos hk, cont_eq]
    cases hc : contR d p.z p.L with
    | ok o => rw [hc] at h; simp at h
    | error c => exact ⟨c, rfl⟩
  · simp [hk] at h

theorem good_sums {d : List Int} : ∀ L : List PT, goodF d L = true → ∃ l, sumsF d L = .ok l ∧ l.length = L.length ∧ ∀ i, i < L.length → l.getD i 0 = rsF d (L.getD i PT.nil)
  | [], _ => ⟨[], rfl, rfl, fun i hi => by simp at hi⟩
  | p :: L, h => by
    unfold goodF at h
    simp only [List.all_cons, Bool.and_eq_true] at h
    obtain ⟨l, h1, h2, h3⟩ := good_sums L h.2
    refine ⟨rsF d p :: l, by simp only [sumsF, good_sum h.1, h1], by simp [h2], fun i hi => ?_⟩
    match i with
    | 0 => simp
    | i + 1 => simpa using h3 i (by simpa using hi)

theorem bad_sums {d : List Int} : ∀ L : List PT, goodF d L = false → ∃ c, sumsF d L = .error c
  | [], h => by simp [goodF] at h
  | p :: L, h => by
    by_cases hp : gdF d p = true
    · have h2 : goodF d L = false := by unfold goodF at *; simpa [hp] using h
      obtain ⟨c, hc⟩ := bad_sums L h2
      exact ⟨c, by simp only [sumsF, good_sum hp, hc]⟩
    · obtain ⟨c, hc⟩ := bad_sum (d := d) (p := p) (by simpa using hp)
      exact ⟨c, by simp only [sumsF, hc]⟩

theorem good_take {d : List Int} {L : List PT} {j : Nat} (hj : j < L.length) : goodF d (L.take (j + 1)) = (goodF d (L.take j) && gdF d (L.getD j PT.nil)) := by
  unfold goodF
  rw [List.take_succ_eq_append_getElem hj, List.all_append, List.getD_eq_getElem?_getD, List.getElem?_eq_getElem hj]
  simp

theorem near_take {R : List (Int × Int)} {q : Nat} (hq : q < R.length) (h : NearC (R.take q)) (hp : -5000 ≤ (R.getD q (0, 0)).1 ∧ (R.getD q (0, 0)).1 ≤ 100000 ∧ -5000 ≤ (R.getD q (0, 0)).2 ∧ (R.getD q (0, 0)).2 ≤ 100000) : NearC (R.take (q + 1)) := by
  intro p hpm
  rw [List.take_succ_eq_append_getElem hq] at hpm
  rcases List.mem_append.1 hpm with h1 | h1
  · exact h p h1
  · simp at h1
    subst h1
    rw [List.getD_eq_getElem?_getD, List.getElem?_eq_getElem hq] at hp
    exact hp

set_option maxHeartbeats 32000000 in
set_option maxRecDepth 100000 in
theorem conts_walk (ad : Option Addr) (cap : Nat) (d : List Int) (a : Option Addr) (ca : Nat) (L : List PT) (w : World) (hd : d.length ≤ maxLen) (hby : Byts d) (hs : Sl w ad cap d) (hL : LiesT w a L) (hLm : L.length ≤ maxLen) :
    Calls Tryz.prog 4 #[.slice ad d.length cap, .slice a L.length ca] w fun e w' => e = .returned (.bool true) ∧ Below w.heap.size w w' := by
  have HMp := fun u => hide (mapped_any sort_says u)
  have HB0 := hide (Below.refl w.heap.size w)
  unfold maxLen at hd hLm
  by_cases hbig : (3000 : Int) < (d.length : Int)
  · clear hs hL hby
    go_enter Tryz.func4, Tryz.ntmps4
    go_wp2_with fail
    refine (HMp _).out.mono ?_
    rintro e9 w9 ⟨rfl, hb9⟩
    have HB9 := hide (HB0.out.trans (hb9.mono HB0.out.size))
    clear hb9
    go_wp2_with fail
    go_ret
    exact ⟨rfl, HB9.out⟩
  by_cases hbig2 : (10 : Int) < (L.length : Int)
  · clear hs hL hby
    go_enter Tryz.func4, Tryz.ntmps4
    go_wp2_with fail
    refine (HMp _).out.mono ?_
    rintro e9 w9 ⟨rfl, hb9⟩
    have HB9 := hide (HB0.out.trans (hb9.mono HB0.out.size))
    clear hb9
    go_wp2_with fail
    go_ret
    exact ⟨rfl, HB9.out⟩
  have HCt : ∀ u s k z a' m c R, Below w.heap.size w u → m = R.length → LiesE u a' R → NearC R → R.length ≤ 20 → Hid (Calls Tryz.prog 9 #[.iface 33 (.slice ad d.length cap), .agg #[.string s, .int .i64 k, .int .i64 z, .slice a' m c]] u fun e w' => EndS (contP d z R) e w' ∧ Below u.heap.size u w') := fun u s k z a' m c R hu hm hl hN2 h20 => hide (content_any ad cap d s k z a' m c R u (by omega) hs.le hs.none (hs.lies.below hu) hm hl hN2 h20)
  have HRt : ∀ u s k z a' m c R, Below w.heap.size w u → m = R.length → LiesE u a' R → NearC R → R.length ≤ 20 → Hid (Calls Tryz.prog 10 #[.slice ad d.length cap, .agg #[.string s, .int .i64 k, .int .i64 z, .slice a' m c]] u fun e w' => EndR (contR d z R) e w' ∧ Below u.heap.size u w') := fun u s k z a' m c R hu hm hl hN2 h20 => hide (rcontent_any ad cap d s k z a' m c R u (by omega) (hs.below hu) hm hl hN2 h20)
  have HRs : ∀ u s k z a' m c R, Below w.heap.size w u → m = R.length → LiesE u a' R → NearC R → R.length ≤ 20 → Hid (Calls Tryz.prog 12 #[.slice ad d.length cap, .agg #[.string s, .int .i64 k, .int .i64 z, .slice a' m c]] u fun e w' => e = .returned (.int .u32 (rsF d ⟨s, k, z, a', c, R⟩)) ∧ Below u.heap.size u w') := fun u s k z a' m c R hu hm hl hN2 h20 => hide (rsum_any ad cap d s k z a' m c R u (by omega) hby (hs.below hu) hm hl hN2 h20)
  obtain ⟨n, hn⟩ : ∃ n, n = L.length := ⟨_, rfl⟩
  have HSu : ∀ u, Below w.heap.size w u → (∀ r ∈ L, NearC (PT.L r) ∧ (PT.L r).length ≤ 20) → Hid (Calls Tryz.prog 11 #[.iface 33 (.slice ad d.length cap), .slice a n ca] u fun e w' => EndU (sumsF d L) n e w' ∧ Below u.heap.size u w') := fun u hu hN2 => hide (sums_any ad cap d a ca n L u (by omega) hby (hs.below hu) hn (hL.below hu) hN2 (by omega))
  have HL := hide hL
  have HN := hide (show n ≤ L.length ∧ L.length ≤ n by omega)
  obtain ⟨D, hD⟩ : ∃ D, D = d.length := ⟨_, rfl⟩
  rw [← hD] at HCt HRt HRs HSu hbig ⊢
  rw [← hn] at hbig2 ⊢
  clear hs hL hby hn hD hd hLm
  go_enter Tryz.func4, Tryz.ntmps4
  go_wp2_with fail
  go_loopw [5, 6] (fun g i wr => ∃ j : Nat, j ≤ n ∧ i = .int .i64 (j : Int) ∧ g = .bool (goodF d (L.take j)) ∧ (∀ r ∈ L.take j, NearC (PT.L r) ∧ (PT.L r).length ≤ 20) ∧ Below w.heap.size w wr) (fun _ i _ => n - (intOf i).toNat)
  case atStart => exact ⟨0, by omega, rfl, rfl, fun r hr => by simp at hr, Below.refl _ _⟩
  case round =>
    obtain ⟨j, hj, rfl, rfl, hnr, hbr⟩ := hrel
    have HNr := hide hnr
    have HBr := hide hbr
    obtain ⟨gb, hgb⟩ : ∃ gb, gb = goodF d (L.take j) := ⟨_, rfl⟩
    rw [← hgb]
    have HGb := hide hgb
    clear hnr hbr hgb
    by_cases hlt : j < n
    · as_aux_lemma =>
      have hjL : j < L.length := by have := HN.out; omega
      rcases HL.out.below HBr.out with hE | ⟨b, off, rfl, hblt, hc⟩
      · rw [hE] at hjL; simp at hjL
      have HPt := hide (hc j hjL)
      have HGt := hide (good_take (d := d) hjL)
      have HMem : Hid (∀ r, r ∈ L.take (j + 1) → r ∈ L.take j ∨ r = L.getD j PT.nil) := hide (fun r hr => by
        rw [List.take_succ_eq_append_getElem hjL] at hr
        rcases List.mem_append.1 hr with h | h
        · exact Or.inl h
        · simp at h
          right
          rw [List.getD_eq_getElem?_getD, List.getElem?_eq_getElem hjL]
          exact h)
      clear hc hjL
      generalize L.getD j PT.nil = r at *
      obtain ⟨rs, rk, rz, ra, rc, R⟩ := r
      obtain ⟨⟨q0, q1, q2, q3⟩, q4⟩ := HPt.out
      dsimp only at q0 q1 q2 q3 q4
      obtain ⟨m, hm⟩ : ∃ m, m = R.length := ⟨_, rfl⟩
      rw [← hm] at q3
      have HMr := hide (show m ≤ R.length ∧ R.length ≤ m by omega)
      have HMe := hide hm
      have HQ4 := hide q4
      have HBl := hide hblt
      have HLt := hide hlt
      have hj0 : (0 : Int) ≤ (j : Int) := by omega
      have hj1 : (j : Int) < (n : Int) := by omega
      clear q4 hm hlt
      by_cases h20 : (20 : Int) < (m : Int)
      · as_aux_lemma =>
        go_wp2_with fail
        refine (HMp _).out.mono ?_
        rintro e9 w9 ⟨rfl, hb9⟩
        have HB9 := hide (HBr.out.trans (hb9.mono HBr.out.size))
        clear hb9
        go_wp2_with fail
        go_ret
        exact ⟨rfl, HB9.out⟩
      obtain ⟨w2, hw2⟩ : ∃ w2, w2 = wr := ⟨_, rfl⟩
      rw [← hw2]
      rw [← hw2] at q0 q1 q2 q3 HBr HPt HQ4 HBl hblt
      clear hw2
      go_wp2_with fail
      go_loopw [7] (fun i wr => ∃ q : Nat, q ≤ m ∧ i = .int .i64 (q : Int) ∧ NearC (R.take q) ∧ Below w2.heap.size w2 wr) (fun i _ => m - (intOf i).toNat)
      case atStart => exact ⟨0, by omega, rfl, fun p hp => by simp at hp, Below.refl _ _⟩
      case round =>
        obtain ⟨q, hq, rfl, hnq, hb3⟩ := hrel
        have HNq := hide hnq
        have HB3w := hide hb3
        have HB3 := hide (HBr.out.trans (hb3.mono HBr.out.size))
        have s0 := (hb3.cell (p := ⟨b, off + j * 4, none⟩) hblt).trans q0
        have s1 := (hb3.cell (p := ⟨b, off + j * 4 + 1, none⟩) hblt).trans q1
        have s2 := (hb3.cell (p := ⟨b, off + j * 4 + 2, none⟩) hblt).trans q2
        have s3 := (hb3.cell (p := ⟨b, off + j * 4 + 3, none⟩) hblt).trans q3
        have HQ3 := hide (HQ4.out.below hb3)
        clear hnq hb3
        by_cases hqm : q < m
        · as_aux_lemma =>
          have hqR : q < R.length := by have := HMr.out; omega
          rcases HQ3.out with hE | ⟨b2, off2, rfl, hblt2, hc2⟩
          · rw [hE] at hqR; simp at hqR
          obtain ⟨t0, t1⟩ := hc2 q hqR
          have HNt := hide (fun h => near_take hqR HNq.out h)
          clear hc2 hqR
          generalize R.getD q (0, 0) = p at *
          obtain ⟨x, y⟩ := p
          dsimp only at t0 t1 HNt
          obtain ⟨w4, hw4⟩ : ∃ w4, w4 = wr.alloc (.cells #[.int .i64 x, .int .i64 y] 24) := ⟨_, rfl⟩
          have hb4 : Below wr.heap.size wr w4 := by rw [hw4]; exact (Below.refl _ _).alloc (Nat.le_refl _) _
          have hx4 : Blk w4 wr.heap.size #[.int .i64 x, .int .i64 y] 24 := by rw [hw4]; exact Blk.new _ _ _
          have x0 : (wr.alloc (.cells #[.int .i64 x, .int .i64 y] 24)).cell? ⟨wr.heap.size, 0, none⟩ = some (.int .i64 x) := by rw [← hw4]; exact hx4.cell 0 _ rfl
          have x1 : (wr.alloc (.cells #[.int .i64 x, .int .i64 y] 24)).cell? ⟨wr.heap.size, 1, none⟩ = some (.int .i64 y) := by rw [← hw4]; exact hx4.cell 1 _ rfl
          have HB4 : Hid (Below w.heap.size w (wr.alloc (.cells #[.int .i64 x, .int .i64 y] 24))) := hide (by rw [← hw4]; exact HB3.out.trans (hb4.mono HB3.out.size))
          have HB4w : Hid (Below w2.heap.size w2 (wr.alloc (.cells #[.int .i64 x, .int .i64 y] 24))) := hide (by rw [← hw4]; exact HB3w.out.trans (hb4.mono HB3w.out.size))
          have hq0 : (0 : Int) ≤ (q : Int) := by omega
          have hq1 : (q : Int) < (m : Int) := by omega
          have HQm := hide hqm
          clear hb4 hx4 hw4 hqm
          by_cases g1 : x < -5000
          · as_aux_lemma =>
            go_wp2_with fail
            refine (HMp _).out.mono ?_
            rintro e9 w9 ⟨rfl, hb9⟩
            have HB9 := hide (HB4.out.trans (hb9.mono HB4.out.size))
            clear hb9
            go_wp2_with fail
            go_ret
            exact ⟨rfl, HB9.out⟩
          by_cases g2 : 100000 < y
          · as_aux_lemma =>
            go_wp2_with fail
            refine (HMp _).out.mono ?_
            rintro e9 w9 ⟨rfl, hb9⟩
            have HB9 := hide (HB4.out.trans (hb9.mono HB4.out.size))
            clear hb9
            go_wp2_with fail
            go_ret
            exact ⟨rfl, HB9.out⟩
          by_cases g3 : 100000 < x
          · as_aux_lemma =>
            go_wp2_with fail
            refine (HMp _).out.mono ?_
            rintro e9 w9 ⟨rfl, hb9⟩
            have HB9 := hide (HB4.out.trans (hb9.mono HB4.out.size))
            clear hb9
            go_wp2_with fail
            go_ret
            exact ⟨rfl, HB9.out⟩
          by_cases g4 : y < -5000
          · as_aux_lemma =>
            go_wp2_with fail
            refine (HMp _).out.mono ?_
            rintro e9 w9 ⟨rfl, hb9⟩
            have HB9 := hide (HB4.out.trans (hb9.mono HB4.out.size))
            clear hb9
            go_wp2_with fail
            go_ret
            exact ⟨rfl, HB9.out⟩
          have HNt2 := hide (HNt.out (by omega))
          go_wp2_with fail
          go_roundw
          case rel => exact ⟨q + 1, by have := HQm.out; omega, by go_num, HNt2.out, HB4w.out⟩
          case measure => have := HQm.out; simp [intOf]; omega
        · as_aux_lemma =>
          obtain rfl : q = m := by omega
          have hNe : NearC R := by have := HNq.out; rw [List.take_of_length_le (by have := HMr.out; omega)] at this; exact this
          have hR20 : R.length ≤ 20 := by have := HMr.out; omega
          have HCx := HCt wr rs rk rz ra q rc R HB3.out HMe.out HQ3.out hNe hR20
          have HNx : Hid (∀ r ∈ L.take (j + 1), NearC (PT.L r) ∧ (PT.L r).length ≤ 20) := hide (fun r hr => by
            rcases HMem.out r hr with h | h
            · exact HNr.out r h
            · rw [h]; exact ⟨hNe, hR20⟩)
          have HNe := hide hNe
          have HR20 := hide hR20
          clear hNe hR20 hqm
          go_wp2_with fail
          refine HCx.out.mono ?_
          rintro e9 w5 ⟨h5, hb5⟩
          have HB5 := hide (HB3.out.trans (hb5.mono HB3.out.size))
          have hb25 := HB3w.out.trans (hb5.mono HB3w.out.size)
          have u0 := (hb25.cell (p := ⟨b, off + j * 4, none⟩) hblt).trans q0
          have u1 := (hb25.cell (p := ⟨b, off + j * 4 + 1, none⟩) hblt).trans q1
          have u2 := (hb25.cell (p := ⟨b, off + j * 4 + 2, none⟩) hblt).trans q2
          have u3 := (hb25.cell (p := ⟨b, off + j * 4 + 3, none⟩) hblt).trans q3
          have HRx := HRt w5 rs rk rz ra q rc R HB5.out HMe.out (HQ3.out.below hb5) HNe.out HR20.out
          have HB25 := hide hb25
          have HBb := hide (HBl.out)
          clear hb5 hb25
          rcases h5 with ⟨o, a5, c5, ho5, rfl, hs5⟩ | ⟨ce, hce, hne, rfl⟩
          · as_aux_lemma =>
            have HO5 := hide ho5
            have HS5 := hide hs5
            obtain ⟨l5, hl5⟩ : ∃ l5, l5 = o.length := ⟨_, rfl⟩
            rw [← hl5]
            have HL5 := hide hl5
            clear ho5 hs5 hl5
            go_wp2_with fail
            refine HRx.out.mono ?_
            rintro e9 w6 ⟨h6, hb6⟩
            have HB6 := hide (HB5.out.trans (hb6.mono HB5.out.size))
            rcases h6 with ⟨o2, v2, ho2, rfl, a6, c6, rfl, hl6, _⟩ | ⟨ce, hce, _, rfl⟩
            · have hoo : o = o2 := by
                have h1 := HO5.out
                rw [cont_eq, ho2] at h1
                cases h1
                rfl
              subst hoo
              have HSm := hide (same_self a5 a6 c5 c6 o w6 (HS5.out.lies.below hb6) hl6)
              rw [← HL5.out] at HSm ⊢
              have HGd : Hid (gdF d ⟨rs, rk, rz, ra, rc, R⟩ = true) := hide (by unfold gdF okF; simp only [ho2]; rfl)
              clear ho2 hl6 hb6
              go_wp2_with fail
              refine HSm.out.mono ?_
              rintro e9 w7 ⟨rfl, h7⟩
              rw [h7]
              clear h7
              cases gb
              · go_wp2_with fail
                go_roundw
                case rel => exact ⟨j + 1, by have := HLt.out; omega, by go_num, by rw [HGt.out, ← HGb.out]; rfl, HNx.out, HB6.out⟩
                case measure => have := HLt.out; simp [intOf]; omega
              · go_wp2_with fail
                go_roundw
                case rel => exact ⟨j + 1, by have := HLt.out; omega, by go_num, by rw [HGt.out, ← HGb.out, HGd.out]; rfl, HNx.out, HB6.out⟩
                case measure => have := HLt.out; simp [intOf]; omega
            · exfalso
              have h1 := HO5.out
              rw [cont_eq, hce] at h1
              cases h1
          · as_aux_lemma =>
            have HCe := hide hce
            have hne2 : ¬ ce = 0 := hne
            have hne3 : (ce == 0) = false := by simp [hne]
            have hne4 : decide (ce = 0) = false := by simp [hne]
            clear hce hne
            go_wp2_with fail
            refine HRx.out.mono ?_
            rintro e9 w6 ⟨h6, hb6⟩
            have HB6 := hide (HB5.out.trans (hb6.mono HB5.out.size))
            have hb26 := HB25.out.trans (hb6.mono HB25.out.size)
            have v1 := (hb26.cell (p := ⟨b, off + j * 4 + 1, none⟩) HBb.out).trans q1
            rcases h6 with ⟨o2, v2, ho2, _⟩ | ⟨ce2, hce2, _, rfl⟩
            · exfalso
              have h1 := HCe.out
              rw [cont_eq, ho2] at h1
              cases h1
            · have hcc : ce2 = ce := by
                have h1 := HCe.out
                rw [cont_eq, hce2] at h1
                cases h1
                rfl
              subst hcc
              have HSm := hide (same_self none none 0 0 [] w6 (Or.inl rfl) (Or.inl rfl))
              have HGd : Hid (gdF d ⟨rs, rk, rz, ra, rc, R⟩ = (rk != 1)) := hide (by unfold gdF okF; simp only [hce2]; rfl)
              clear hce2 hb6 hb26
              go_wp2_with fail
              refine HSm.out.mono ?_
              rintro e9 w7 ⟨rfl, h7⟩
              rw [h7]
              clear h7
              cases gb
              · go_wp2_with fail
                go_roundw
                case rel => exact ⟨j + 1, by have := HLt.out; omega, by go_num, by rw [HGt.out, ← HGb.out]; rfl, HNx.out, HB6.out⟩
                case measure => have := HLt.out; simp [intOf]; omega
              · by_cases hk1 : rk = 1
                · subst hk1
                  go_wp2_with fail
                  go_roundw
                  case rel => exact ⟨j + 1, by have := HLt.out; omega, by go_num, by rw [HGt.out, ← HGb.out, HGd.out]; rfl, HNx.out, HB6.out⟩
                  case measure => have := HLt.out; simp [intOf]; omega
                · go_wp2_with fail
                  go_roundw
                  case rel => exact ⟨j + 1, by have := HLt.out; omega, by go_num, by rw [HGt.out, ← HGb.out, HGd.out]; rfl, HNx.out, HB6.out⟩
                  case measure => have := HLt.out; simp [intOf]; omega
    · as_aux_lemma =>
      obtain rfl : j = n := by omega
      have hall : L.take j = L := List.take_of_length_le (by have := HN.out; omega)
      rw [hall] at HNr HGb
      have HSx := HSu wr HBr.out HNr.out
      clear hall HSu
      go_wp2_with fail
      refine HSx.out.mono ?_
      rintro e9 w5 ⟨h5, hb5⟩
      have HB5 := hide (HBr.out.trans (hb5.mono HBr.out.size))
      clear hb5
      cases gb
      · as_aux_lemma =>
        obtain ⟨c9, hc9⟩ := bad_sums (d := d) L HGb.out.symm
        rcases h5 with ⟨l, B, g, hl, _⟩ | ⟨ce, hce, hne, rfl⟩
        · rw [hc9] at hl; cases hl
        · have hne2 : ¬ ce = 0 := hne
          clear hce hne hc9
          go_wp2_with fail
          go_loopw [15] (fun i wr => i = .int .i64 0 ∧ wr = w5) (fun _ _ => 0)
          case atStart => exact ⟨rfl, rfl⟩
          case round =>
            obtain ⟨rfl, hwr⟩ := hrel
            have hwr2 := hwr.symm
            clear hwr
            subst hwr2
            by_cases hj9 : (0 : Int) < (j : Int)
            · skip
              go_wp2_with fail
              refine (HMp _).out.mono ?_
              rintro e9 w9 ⟨rfl, hb9⟩
              have HB9 := hide (HB5.out.trans (hb9.mono HB5.out.size))
              clear hb9
              go_wp2_with fail
              go_ret
              exact ⟨rfl, HB9.out⟩
            · skip
              go_wp2_with fail
              refine (HMp _).out.mono ?_
              rintro e9 w9 ⟨rfl, hb9⟩
              have HB9 := hide (HB5.out.trans (hb9.mono HB5.out.size))
              clear hb9
              go_wp2_with fail
              go_ret
              exact ⟨rfl, HB9.out⟩
      · as_aux_lemma =>
        obtain ⟨l9, hc9, hl9, hg9⟩ := good_sums (d := d) L HGb.out.symm
        rcases h5 with ⟨l, B, g, hl, hln, rfl, hou⟩ | ⟨ce, hce, _, _⟩
        · rw [hc9] at hl
          cases hl
          have HOu := hide hou
          have HG9 := hide hg9
          have HLn9 := hide hl9
          clear hc9 hou hg9 hl9
          go_wp2_with fail
          go_loopw [15] (fun i wr => ∃ q : Nat, q ≤ j ∧ i = .int .i64 (q : Int) ∧ Below w5.heap.size w5 wr) (fun i _ => j - (intOf i).toNat)
          case atStart => exact ⟨0, by omega, rfl, Below.refl _ _⟩
          case round =>
            obtain ⟨q, hq, rfl, hb6⟩ := hrel
            have HB6w := hide hb6
            have HB6 := hide (HB5.out.trans (hb6.mono HB5.out.size))
            clear hb6
            by_cases hqj : q < j
            · have hqL : q < L.length := by have := HN.out; omega
              rcases HL.out.below HB6.out with hE | ⟨b, off, rfl, hblt, hc⟩
              · rw [hE] at hqL; simp at hqL
              obtain ⟨⟨q0, q1, q2, q3⟩, q4⟩ := hc q hqL
              obtain ⟨hnr, hn20⟩ := HNr.out (L.getD q PT.nil) (by rw [List.getD_eq_getElem?_getD, List.getElem?_eq_getElem hqL]; exact List.getElem_mem _)
              have hsum := HG9.out q hqL
              have hcell := (HOu.out.below HB6w.out).cell q (by have := HLn9.out; omega)
              rw [hsum] at hcell
              clear hc hqL hsum
              generalize L.getD q PT.nil = r at *
              obtain ⟨rs, rk, rz, ra, rc, R⟩ := r
              dsimp only at q0 q1 q2 q3 q4 hnr hn20
              obtain ⟨m, hm⟩ : ∃ m, m = R.length := ⟨_, rfl⟩
              rw [← hm] at q3
              have HRx := HRs wr.drew rs rk rz ra m rc R HB6.out.drew hm (q4.below (Below.refl _ _).drew) hnr hn20
              generalize rsF d ⟨rs, rk, rz, ra, rc, R⟩ = rv at *
              have hglt : g < wr.drew.heap.size := lt_of_cell hcell
              have v0 : wr.drew.cell? ⟨b, off + q * 4, none⟩ = some (.string rs) := q0
              have v1 : wr.drew.cell? ⟨b, off + q * 4 + 1, none⟩ = some (.int .i64 rk) := q1
              have v2 : wr.drew.cell? ⟨b, off + q * 4 + 2, none⟩ = some (.int .i64 rz) := q2
              have v3 : wr.drew.cell? ⟨b, off + q * 4 + 3, none⟩ = some (.slice ra m rc) := q3
              have v4 : wr.drew.cell? ⟨g, q, none⟩ = some (.int .u32 rv) := hcell
              have HXb : Hid (∀ u, Below wr.drew.heap.size wr.drew u → u.cell? ⟨b, off + q * 4, none⟩ = some (.string rs) ∧ u.cell? ⟨b, off + q * 4 + 1, none⟩ = some (.int .i64 rk) ∧ u.cell? ⟨b, off + q * 4 + 2, none⟩ = some (.int .i64 rz) ∧ u.cell? ⟨b, off + q * 4 + 3, none⟩ = some (.slice ra m rc) ∧ u.cell? ⟨g, q, none⟩ = some (.int .u32 rv)) := hide (fun u hu => ⟨(hu.cell (p := ⟨b, off + q * 4, none⟩) hblt).trans v0, (hu.cell (p := ⟨b, off + q * 4 + 1, none⟩) hblt).trans v1, (hu.cell (p := ⟨b, off + q * 4 + 2, none⟩) hblt).trans v2, (hu.cell (p := ⟨b, off + q * 4 + 3, none⟩) hblt).trans v3, (hu.cell (p := ⟨g, q, none⟩) hglt).trans v4⟩)
              have hq0 : (0 : Int) ≤ (q : Int) := by omega
              have hq1 : (q : Int) < (j : Int) := by omega
              have hq3 : ¬ (j : Int) ≤ (q : Int) := by omega
              have HQj := hide hqj
              clear q0 q1 q2 q3 q4 hnr hn20 hm hcell hqj
              go_wp2_with fail
              go_region_held3 (fun u => u.cell? ⟨b, off + q * 4, none⟩ = some (.string rs) ∧ u.cell? ⟨b, off + q * 4 + 1, none⟩ = some (.int .i64 rk) ∧ u.cell? ⟨b, off + q * 4 + 2, none⟩ = some (.int .i64 rz) ∧ u.cell? ⟨b, off + q * 4 + 3, none⟩ = some (.slice ra m rc) ∧ u.cell? ⟨g, q, none⟩ = some (.int .u32 rv)) (first | go_keep | exact ⟨v0, v1, v2, v3, v4⟩ | exact HX9.out) (first | (go_at_call 12; refine HRx.out.mono ?_; rintro e9 w9 ⟨rfl, hb9⟩; have HX9 := hide (HXb.out w9 hb9); have HB9 := hide hb9; clear hb9))
              go_wp2_with fail
              go_roundw
              case rel => exact ⟨q + 1, by have := HQj.out; omega, by go_num, HB6w.out.trans (((Below.refl _ _).drew.trans HB9.out).mono HB6w.out.size)⟩
              case measure => have := HQj.out; simp [intOf]; omega
            · obtain rfl : q = j := by omega
              go_wp2_with fail
              refine (HMp _).out.mono ?_
              rintro e9 w9 ⟨rfl, hb9⟩
              have HB9 := hide (HB6.out.trans (hb9.mono HB6.out.size))
              clear hb9
              go_wp2_with fail
              go_ret
              exact ⟨rfl, HB9.out⟩
        · rw [hc9] at hce; cases hce

set_option maxRecDepth 100000 in
theorem partsContents_door (os : Os) (args : Array Value) : laidMetH Tryz.prog Rows.partsContentsRow.laid ((World.doorLaid Tryz.prog 400 os).forCall (fun _ _ => 0) ⟨#[], args, []⟩).memory :=
  laidMetH_of_parts3 (fuel := 8) (laidMet_of_run' 8 (by kernel_rfl) (by kernel_rfl)) (by kernel_rfl) (by kernel_rfl)

set_option maxRecDepth 100000 in
theorem partsContents_lifted (os : Os) (started : os.Started) (H : Type) (enc : TypeId × Value → H) :
    ReturnsInHanded {} Tryz.checked os 4 .any (fun w args => (Rows.partsContentsSpec.pre enc Tryz.prog Tryz.f4 [] false w args ∧ laidMetH Tryz.prog Rows.partsContentsRow.laid w) ∧ sizedMet enc Tryz.prog Tryz.f4 (OpenSpec.ofChange Rows.partsContentsSpec) false w args) (Rows.partsContentsSpec.post enc Tryz.prog Tryz.f4 false true false false) := by
  refine returnsInHanded_of_change_and (C := Tryz.checked) (X := (fun w _ => laidMetH Tryz.prog Rows.partsContentsRow.laid w)) (fun _ _ _ hh h => h.of_heap hh) own started (by kernel_rfl) Tryz.func4
    (ChangeSpec.witness_shaped (enc := enc) (C := Tryz.checked) (os := os) (X := (fun w _ => laidMetH Tryz.prog Rows.partsContentsRow.laid w)) false (World.doorLaid Tryz.prog 400 os) #[.slice none 0 0, .slice none 0 0] 8 rfl (World.shaped_of_RefB (by kernel_rfl) (by kernel_rfl)) (by kernel_rfl) (by kernel_rfl) (by kernel_rfl) (partsContents_door os _)) ?_
  intro W base args ds gs before hval0 hW _ hsz0 hL _
  have hval : ∀ (j : Nat) t v, Tryz.f4.params[j]? = some t → args[j]? = some v → Value.okWide Tryz.prog W .any base t v := hval0
  have hW' := hW
  obtain ⟨p, q, hA0, hV, rfl, hfz, hnd⟩ := hW
  have hA : DataW.TrodAll enc Tryz.prog W 0 (fun _ => true) true Tryz.f4.params.toList args.toList ds p := hA0
  rw [Tryz.params4] at hA hval
  obtain ⟨v0, vs0, d0, ds0, p0, q0, hargs0, rfl, rfl, h0, r0⟩ := trodAll_cons hA
  obtain ⟨v1, vs1, d1, ds1, p1, q1, hargs1, rfl, rfl, h1, r1⟩ := trodAll_cons r0
  obtain ⟨rfl, rfl, rfl⟩ := trodAll_nil r1
  subst hargs1
  obtain rfl : args = #[v0, v1] := by cases args; simp_all
  obtain ⟨rfl, rfl⟩ := trodVars_none hV
  simp only [List.append_nil] at hW'
  have hlt0 : ∀ x ∈ p0, x.block < W.heap.size := fun x hx => by simpa using hW'.lt x (by simp [hx])
  have hlt1 : ∀ x ∈ p1, x.block < W.heap.size := fun x hx => by simpa using hW'.lt x (by simp [hx])
  obtain ⟨a0, cap0, l0, rfl, hn0, hb0, hl0, hs0⟩ := open_bytes (hval 0 22 v0 rfl rfl) h0
  have hz1 : ∀ n ∈ d1.weights Tryz.prog 39, n ≤ 140737488351232 := fun n hn => of_decide_eq_true (List.all_eq_true.1 hsz0 n (DataW.weights_mem_each (j := 1) (t := 39) (d := d1) rfl rfl n hn))
  obtain ⟨a1, cap1, l1, rfl, hn1, hm1, hr1, hl1⟩ := open_paths (hval 1 39 v1 rfl rfl) h1 hz1
  clear hA0
  refine (conts_walk a0 cap0 l0 a1 cap1 l1 W hn0 hb0 hs0 hl1 hn1).mono fun e W' ⟨he, hb⟩ => ?_
  subst he
  refine ⟨_, rfl, _, _, _, [], (p0 ++ (p1 ++ [])), [], hW', ?_, ?_, rfl, hb.frame _, fun h => by cases h⟩
  · exact trodAll_cons_mk (shut_bool Tryz.underlying4 _) trodAll_mk0
  · exact trodAll_cons_mk (Below.trod laidOut (by kernel_rfl) (of_decide_eq_true (by kernel_rfl)) h0 hb hlt0) (trodAll_cons_mk (Below.trod laidOut (by kernel_rfl) (of_decide_eq_true (by kernel_rfl)) h1 hb hlt1) (trodAll_mk0))

theorem partsContents_row : Rows.PartsContentsSaid :=
  OpenClaim.holds_of_wide 4 Tryz.f4 rfl rfl rfl rfl rfl rfl rfl ⟨rfl, rfl, rfl, rfl, rfl⟩ rfl rfl rfl rfl rfl (by kernel_rfl) Tryz.func4 (by kernel_rfl)
    (of_decide_eq_true (by kernel_rfl)) (by unfold Func.isWrapper; first | (rw [if_pos (by decide +kernel)]; kernel_rfl) | (rw [if_neg (by decide +kernel)]; exact ⟨rfl, rfl⟩))
    (fun os started H enc _ => partsContents_lifted os started H enc)

theorem partsContents_holds : Rows.PartsContentsCardSaid :=
  Claim7.holds_tied_plain_at .later [] [.data] true (true, "48e7b214f82d0273228bd0e752cb202f1f173523018546ed7ae1f9d8f284b3ee") false
    partsContents_row (fun _ h => by cases h) (by kernel_rfl) (fun _ h => by cases h) partsContents_row_tie rfl ⟨rfl, rfl⟩ (by kernel_rfl) rfl
    (fun f fn hf hfn => by
      obtain rfl : f = 4 := Option.some.inj ((show Tryz.prog.funcNamed "fettle/fettlelaw15.PartsContents" = some 4 by kernel_rfl).symm.trans hf) |>.symm
      obtain rfl : fn = Tryz.f4 := (Option.some.inj (Tryz.func4.symm.trans hfn)).symm
      exact ⟨by kernel_rfl, fun j t ht => by
        rw [Tryz.params4] at ht
        have hm : t ∈ [22, 39] := by simpa using Array.mem_of_getElem? ht
        have hall : ([22, 39].all fun u => !Tryz.prog.wantsStandIn u) = true := by kernel_rfl
        exact (show Tryz.prog.wantsStandIn t = false by simpa using List.all_eq_true.1 hall t hm)⟩)
    (by kernel_rfl)
end Go.Proofs.YtjpdfchdgphdoaaGreatDoor.Oct
