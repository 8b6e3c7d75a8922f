/- Inward: the whole units. -/
import Derived.Test.YtlkfabcjknaogaaRnd
namespace Go.Proofs.Ytlkfabcjknaogaa.Oct
open Go.RowKit Go.Shelf

attribute [local go_sem] Oper.semAt_some

set_option maxHeartbeats 1000000 in
/-- How far a place lies above the multiple at it or below it. -/
theorem above_any (w : World) (x u : Int) (hu : 1 ≤ u ∧ u ≤ 1152921504606846976) :
    Calls Try.prog 16 #[.int .i64 x, .int .i64 u] w fun e w' => e = .returned (.int .i64 (x % u)) ∧ w' = w := by
  have h0 : ¬ (u = 0) := by omega
  have hub : (u == 0) = false := by simpa using h0
  have hlt : -u < x.tmod u ∧ x.tmod u < u := by
    refine ⟨?_, Int.tmod_lt_of_pos x (by omega)⟩
    have h1 := Int.neg_tmod x u
    have h2 := Int.tmod_lt_of_pos (-x) (b := u) (by omega)
    omega
  have hdv : u ∣ x.tmod u - x := ⟨-(x.tdiv u), by rw [Int.tmod_def, Int.mul_neg]; omega⟩
  have hw : wrap64 (x.tmod u) = x.tmod u := by unfold wrap64; omega
  have hwi : IntKind.i64.wrap (x.tmod u) = x.tmod u := by rw [IntKind.wrap_i64]; omega
  by_cases hn : x.tmod u < 0
  · have e : x.tmod u + u = x % u := by
      have h4 : (x.tmod u + u) % u = x % u := by rw [Int.add_emod_right]; exact Int.emod_eq_emod_iff_emod_sub_eq_zero.2 (Int.emod_eq_zero_of_dvd hdv)
      rw [← h4, Int.emod_eq_of_lt (by omega) (by omega)]
    have hw2 : wrap64 (x.tmod u + u) = x % u := by rw [← e]; unfold wrap64; omega
    go_enter Try.func16, Try.ntmps16
    go_wp2_with fail
    go_ret
    exact ⟨rfl, rfl⟩
  · have e : x.tmod u = x % u := by
      have h4 : (x.tmod u) % u = x % u := Int.emod_eq_emod_iff_emod_sub_eq_zero.2 (Int.emod_eq_zero_of_dvd hdv)
      rw [← h4, Int.emod_eq_of_lt (by omega) (by omega)]
    go_enter Try.func16, Try.ntmps16
    go_wp2_with fail
    go_ret
    exact ⟨rfl, rfl⟩

def inwW (u : Int) (x : Int × Int) : Int × Int := (IntKind.i64.wrap (x.1 + IntKind.i64.wrap (-x.1) % u), IntKind.i64.wrap (x.2 - x.2 % u))

def inw (u : Int) (x : Int × Int) : Int × Int := (x.1 + (-x.1) % u, x.2 - x.2 % u)

def Near (L : List (Int × Int)) : Prop := ∀ p ∈ L, (-1125899906842624 ≤ p.1 ∧ p.1 ≤ 1125899906842624) ∧ (-1125899906842624 ≤ p.2 ∧ p.2 ≤ 1125899906842624)

theorem upto_map (N : List (Int × Int)) (f : Int × Int → Int × Int) : (upto N N.length).map (fun p => f p.2) = N.map f := by
  apply List.ext_getElem?
  intro k
  simp only [upto, List.map_map, List.getElem?_map]
  by_cases hk : k < N.length
  · rw [List.getElem?_range hk]
    simp [hk]
  · rw [List.getElem?_eq_none (by simpa using hk), List.getElem?_eq_none (by simpa using hk)]
    rfl

theorem Normed.near {L N : List (Int × Int)} (h : Normed L N) (hn : Near L) : Near N := by
  intro p hp
  obtain ⟨q, hq, e1⟩ := h.fst p hp
  obtain ⟨q', hq', e2⟩ := h.snd p hp
  have h1 := hn q hq
  have h2 := hn q' hq'
  omega

theorem inw_near {L : List (Int × Int)} (h : Near L) (u : Int) (hu : 1 ≤ u ∧ u ≤ 1125899906842624) : L.map (inwW u) = L.map (inw u) := by
  refine List.map_congr_left fun p hp => ?_
  have h1 := h p hp
  have h2 := Int.emod_nonneg (-p.1) (b := u) (by omega)
  have h3 := Int.emod_lt_of_pos (-p.1) (b := u) (by omega)
  have h4 := Int.emod_nonneg p.2 (b := u) (by omega)
  have h5 := Int.emod_lt_of_pos p.2 (b := u) (by omega)
  unfold inwW inw
  have e1 : IntKind.i64.wrap (-p.1) = -p.1 := by rw [IntKind.wrap_i64]; omega
  rw [e1]
  congr 1
  · rw [IntKind.wrap_i64]; omega
  · rw [IntKind.wrap_i64]; omega

set_option linter.unusedSimpArgs false in
set_option maxRecDepth 100000 in
set_option maxHeartbeats 4000000 in
theorem inward_any (hS : SortSays) (w : World) (a : Option Addr) (c : Nat) (L : List (Int × Int)) (h : LiesE w a L) (hl : L.length ≤ 1000) (hne : Near L) (u : Int) (hu : 1 ≤ u ∧ u ≤ 1125899906842624) :
    Calls Try.prog 9 #[.slice a L.length c, .int .i64 u] w fun e w' => ∃ v N M, e = .returned (.tuple #[v, .int .i64 0]) ∧ Normed L N ∧ Normed (N.map (inw u)) M ∧ OwnE w' w.heap.size v M ∧ Below w.heap.size w w' := by
  refine (callsIn_wide (n := 5)).1 ?_
  refine callsIn_of_wp_marks Try.func9 rfl trivial ?_ rfl
  simp only [Try.ntmps9, List.size_toArray, List.length_cons, List.length_nil, Nat.reduceAdd, Nat.reduceSub, Array.replicate_succ, Array.replicate_zero, List.push_toArray, List.append_toArray, List.nil_append, List.cons_append]
  have hu1 : ¬ (u < 1) := by omega
  have hb2 : Below w.heap.size w ((w.alloc (.cells #[.int .i64 u] 2)).alloc (.cells #[.slice none 0 0] 22)) := ((Below.refl _ w).alloc (Nat.le_refl _) _).alloc (by simp) _
  have bU := (Boxed.new w 2 (.int .i64 u)).alloc (.cells #[.slice none 0 0] 22)
  have bO := Boxed.new (w.alloc (.cells #[.int .i64 u] 2)) 22 (.slice none 0 0)
  rw [World.size_alloc] at bO
  have HA := hide (all_any hS _ a c L (h.below hb2) (by omega))
  gi_wp2_with (refine ⟨trivial, ?_⟩; gi_at_call 7; refine (callsIn_wide.2 HA.out).mono ?_; rintro e w3 ⟨Bs, g, a', c', N, rfl, hG⟩)
  have hsW : w.heap.size + 2 ≤ w3.heap.size := by have := hG.below.size; simp at this; omega
  have hgs : w.heap.size + 2 ≤ g ∧ g < w3.heap.size := by have := hG.gs; simp at this; exact this
  have hb3 : Below w.heap.size w w3 := hb2.trans (hG.below.mono (by simp; omega))
  have bU3 : Boxed w3 w.heap.size 2 (.int .i64 u) := (hG.below.block _ (by simp; omega)).trans bU
  have bO3 : Boxed w3 (w.heap.size + 1) 22 (.slice none 0 0) := (hG.below.block _ (by simp)).trans bO
  clear HA bU bO hb2
  refine wpIn_rangeFunc_ownH rfl (by omega) (gf := 14) (lb := #[.pointer (some ⟨Bs, 0, none⟩)]) rfl trivial (enters_of Try.func14 (by kernel_rfl) rfl)
    (all_stops Fence.wide 4 trivial rfl (by omega) Bs g c' a' N (by have := hG.norm.len; omega) w3 hG.bs.2 hgs.2 hG.box hG.lies) KeepB.trans (fun W l o o' hl ho h1 h2 => KeepB.of_below (belowK_b (Nat.le_refl _) W l o o' hl ho h1 h2) hgs.2) (Below.refl _ _) (fun _ => rfl)
    (fun (pre : List (Nat × (Int × Int))) W => ((∃ v, Boxed W (w.heap.size + 1) 22 v ∧ W.ownsRow w3.heap.size 32 2 v pre.length ((pre.map (fun p => inwW u p.2)).flatMap encE) ∧ True) ∧ Boxed W w.heap.size 2 (.int .i64 u)) ∧ (Below w.heap.size w W ∧ w3.heap.size ≤ W.heap.size))
    (fun _ _ _ => False)
    (OwnFrom.and (OwnFrom.and (Own.from (holdsRow_own w3.heap.size (w.heap.size + 1) 22 32 2 (fun (pre : List (Nat × (Int × Int))) => pre.length) (fun pre => (pre.map (fun p => inwW u p.2)).flatMap encE) (fun _ _ => True)) _) (Own.from (boxed_own _ _ _) _)) (OwnFrom.and (ownFrom_below (Nat.le_refl _) (by omega)) (fun _ _ _ _ hs hg _ => Nat.le_trans hs hg.size)))
    (fun _ _ _ _ _ hs _ _ => hs)
    ⟨⟨⟨_, bO3, World.ownsRow_nil _ _ _ _, trivial⟩, bU3⟩, hb3, Nat.le_refl _⟩
    (fun x a' W => ∃ Bx, (w3.heap.size ≤ Bx ∧ w3.heap.size ≤ W.heap.size ∧ ∀ v, Boxed W (w.heap.size + 1) 22 v → v.ownBlock ≠ some Bx) ∧ W.heap[Bx]? = some (.cells #[.int .i64 x.2.1, .int .i64 x.2.2] 32 (0, 0)) ∧ a' = { tmps := #[.slice a L.length c, .int .i64 u, undef, .pointer (some ⟨w.heap.size, 0, none⟩), .slice none 0 0, .int .i64 0, .pointer (some ⟨w.heap.size + 1, 0, none⟩), undef, .pointer (some ⟨Bx, 0, none⟩), .int .i64 u, .bool false, .slice a L.length c, .func (.func 14) #[] #[.pointer (some ⟨Bs, 0, none⟩)], .int .i64 x.1, .agg #[.int .i64 x.2.1, .int .i64 x.2.2], undef, undef, undef, undef, undef, undef, undef, undef, undef, undef, undef, undef, undef, undef, undef, undef, undef, undef, undef, undef, undef], defers := [] })
    (fun x a' _ X Y row hs hg hr => by
      obtain ⟨Bx, h1, h2, h3⟩ := hs
      refine ⟨Bx, ⟨h1.1, Nat.le_trans h1.2.1 hg.size, fun v hv => h1.2.2 v ((hg.block _ (by omega) (fun e => ?_)).symm.trans hv)⟩, (hg.block Bx (Array.getElem?_eq_some_iff.1 h2).1 (fun e => ?_)).trans h2, h3⟩
      · have := (hr _ e.symm).1
        omega
      · obtain ⟨o, ho, hc⟩ := (hr Bx e.symm).2
        rw [h2] at ho
        cases ho
        cases hc)
    ?assign ?body ?done ?stop
  case assign =>
    rintro l pre x W K ⟨⟨⟨v, bO1, hrow, _⟩, bU1⟩, hB1, hs1⟩ hK
    obtain ⟨xi, x1, x2⟩ := x
    dsimp only [encP] at *
    gi_wp2
    refine hK _ _ ((KeepsOthers.alloc _ _).from _) ((KeepB.refl g W).alloc (by omega) _) ⟨⟨⟨v, bO1.alloc _, hrow.alloc _, trivial⟩, bU1.alloc _⟩, hB1.alloc hB1.size _, by simp; omega⟩ ⟨W.heap.size, ⟨hs1, by simp; omega, fun v' hv' e => ?_⟩, World.alloc_heap_new W _, rfl⟩
    have e1 : v' = v := by have := hv'.symm.trans (bO1.alloc _); simpa using this
    subst e1
    have := (World.ownsRow.lt hrow _ e).2
    omega
  case body =>
    rintro l pre x a' W hl ⟨r, hr⟩ ⟨⟨⟨v, bO1, hrow, _⟩, bU1⟩, hB1, hs1⟩ ⟨Bx, hBx, bX, rfl⟩ hlt
    obtain ⟨xi, x1, x2⟩ := x
    dsimp only at bX ⊢
    have hu2 : 1 ≤ u ∧ u ≤ 1152921504606846976 := by omega
    obtain ⟨y, hy⟩ : ∃ y, IntKind.i64.wrap (-x1) = y := ⟨_, rfl⟩
    obtain ⟨z1, hz1'⟩ : ∃ z, IntKind.i64.wrap (x1 + y % u) = z := ⟨_, rfl⟩
    obtain ⟨z2, hz2'⟩ : ∃ z, IntKind.i64.wrap (x2 - x2 % u) = z := ⟨_, rfl⟩
    have hpl : pre.length ≤ 1000 := by have := hG.norm.len; omega
    obtain ⟨i1, hi, hz0, hz1, hz2⟩ := info_parts info_E
    have HT : Hid (∀ v5 w5, w5.ownsRow w3.heap.size 32 2 v5 (pre.length + 1) ((pre.map (fun p => inwW u p.2)).flatMap encE ++ [.int .i64 z1, .int .i64 z2]) → (W.drew.alloc (.cells #[.int .i64 z1, .int .i64 z2] 32)).grownBy w5 v.ownBlock →
        Boxed w5 (w.heap.size + 1) 22 v ∧ ((w5.cell? ⟨Bx, 0, none⟩ = some (.int .i64 x1) ∧ w5.cell? ⟨Bx, 1, none⟩ = some (.int .i64 x2)) ∧ w5.cell? ⟨w.heap.size, 0, none⟩ = some (.int .i64 u)) ∧
        (((w5.setCell ⟨w.heap.size + 1, 0, none⟩ v5).cell? ⟨Bx, 0, none⟩ = some (.int .i64 x1) ∧ (w5.setCell ⟨w.heap.size + 1, 0, none⟩ v5).cell? ⟨Bx, 1, none⟩ = some (.int .i64 x2)) ∧ (w5.setCell ⟨w.heap.size + 1, 0, none⟩ v5).cell? ⟨w.heap.size, 0, none⟩ = some (.int .i64 u)) ∧
        (KeepsFrom w3.heap.size W (w5.setCell ⟨w.heap.size + 1, 0, none⟩ v5) ∧ KeepB g W (w5.setCell ⟨w.heap.size + 1, 0, none⟩ v5) ∧ ((∃ v, Boxed (w5.setCell ⟨w.heap.size + 1, 0, none⟩ v5) (w.heap.size + 1) 22 v ∧ (w5.setCell ⟨w.heap.size + 1, 0, none⟩ v5).ownsRow w3.heap.size 32 2 v (pre ++ [(xi, (x1, x2))]).length (((pre ++ [(xi, (x1, x2))]).map (fun p => inwW u p.2)).flatMap encE) ∧ True) ∧ Boxed (w5.setCell ⟨w.heap.size + 1, 0, none⟩ v5) w.heap.size 2 (.int .i64 u)) ∧ (Below w.heap.size w (w5.setCell ⟨w.heap.size + 1, 0, none⟩ v5) ∧ w3.heap.size ≤ (w5.setCell ⟨w.heap.size + 1, 0, none⟩ v5).heap.size))) := by
      refine hide fun v5 w5 ho5 hg5 => ?_
      have bO1' : Boxed W.drew (w.heap.size + 1) 22 v := bO1
      have bU1' : Boxed W.drew w.heap.size 2 (.int .i64 u) := bU1
      have hsd : W.drew.heap.size = W.heap.size := rfl
      obtain ⟨k1, k2, k3, k4, k5, k6, k7⟩ := Boxed.added (n₀ := w.heap.size) (g := g) bO1' (by decide) (e := 32) (show W.drew.ownsRow w3.heap.size 32 2 v pre.length _ from hrow) (by omega) (by omega) (by omega) hgs.2 (by omega) ho5 hg5
      have hBxl : Bx < W.heap.size := (Array.getElem?_eq_some_iff.1 bX).1
      have hX5 : w5.heap[Bx]? = some (.cells #[.int .i64 x1, .int .i64 x2] 32 (0, 0)) := by
        rw [hg5.block Bx (by simp [hsd]; omega) (fun e => hBx.2.2 v bO1 e.symm), Below.heap_alloc _ _ _ (by rw [hsd]; exact hBxl)]
        exact bX
      have hX6 : (w5.setCell ⟨w.heap.size + 1, 0, none⟩ v5).heap[Bx]? = some (.cells #[.int .i64 x1, .int .i64 x2] 32 (0, 0)) := by
        rw [(grownBy_setCell' w5 (w.heap.size + 1) v5).block Bx (Array.getElem?_eq_some_iff.1 hX5).1 (by simp; omega)]
        exact hX5
      have hU6 := k7 _ _ _ bU1' (by decide) (by omega)
      have hU5 : Boxed w5 w.heap.size 2 (.int .i64 u) := (bU1'.alloc _).kept hg5 (bU1'.not_row (by decide) (show W.drew.ownsRow w3.heap.size 32 2 v pre.length _ from hrow))
      refine ⟨k1, ⟨by simp only [World.cell?, hX5]; exact ⟨rfl, rfl⟩, hU5.cell⟩, ⟨by simp only [World.cell?, hX6]; exact ⟨rfl, rfl⟩, hU6.cell⟩, ((KeepsOthers.drew W).trans k4).from _, ⟨k6.1, k6.2⟩, ⟨⟨v5, k2, ?_, trivial⟩, hU6⟩, hB1.trans ⟨k5.os, k5.tape, k5.output, k5.size, k5.block⟩, by have := k6.1; omega⟩
      rw [List.length_append, List.map_append, List.flatMap_append]
      subst hy hz1' hz2'
      exact k3
    have cO : W.drew.cell? ⟨w.heap.size + 1, 0, none⟩ = some v := bO1.cell
    have cOa : (W.drew.alloc (.cells #[.int .i64 z1, .int .i64 z2] 32)).cell? ⟨w.heap.size + 1, 0, none⟩ = some v := (show Boxed W.drew _ _ _ from bO1).alloc _ |>.cell
    have cOb : (W.alloc (.cells #[.int .i64 z1, .int .i64 z2] 32)).cell? ⟨w.heap.size + 1, 0, none⟩ = some v := (bO1.alloc _).cell
    have cU := bU1.cell
    have cX : W.cell? ⟨Bx, 0, none⟩ = some (.int .i64 x1) ∧ W.cell? ⟨Bx, 1, none⟩ = some (.int .i64 x2) := by simp only [World.cell?, bX]; exact ⟨rfl, rfl⟩
    refine wpIn_block ?_
    refine region_round (fun W' => (W'.cell? ⟨Bx, 0, none⟩ = some (.int .i64 x1) ∧ W'.cell? ⟨Bx, 1, none⟩ = some (.int .i64 x2)) ∧ W'.cell? ⟨w.heap.size, 0, none⟩ = some (.int .i64 u)) (by kernel_rfl) (by kernel_rfl) ?_
    have hH : (W.drew.cell? ⟨Bx, 0, none⟩ = some (.int .i64 x1) ∧ W.drew.cell? ⟨Bx, 1, none⟩ = some (.int .i64 x2)) ∧ W.drew.cell? ⟨w.heap.size, 0, none⟩ = some (.int .i64 u) := ⟨cX, cU⟩
    have hHa : ((W.drew.alloc (.cells #[.int .i64 z1, .int .i64 z2] 32)).cell? ⟨Bx, 0, none⟩ = some (.int .i64 x1) ∧ (W.drew.alloc (.cells #[.int .i64 z1, .int .i64 z2] 32)).cell? ⟨Bx, 1, none⟩ = some (.int .i64 x2)) ∧ (W.drew.alloc (.cells #[.int .i64 z1, .int .i64 z2] 32)).cell? ⟨w.heap.size, 0, none⟩ = some (.int .i64 u) := by
      have hBxl : Bx < W.drew.heap.size := (Array.getElem?_eq_some_iff.1 bX).1
      have hbb : Below W.drew.heap.size W.drew (W.drew.alloc (.cells #[.int .i64 z1, .int .i64 z2] 32)) := (Below.refl _ _).alloc (Nat.le_refl _) _
      have hsd : W.drew.heap.size = W.heap.size := rfl
      exact ⟨⟨(hbb.cell (p := ⟨Bx, 0, none⟩) hBxl).trans hH.1.1, (hbb.cell (p := ⟨Bx, 1, none⟩) hBxl).trans hH.1.2⟩, (hbb.cell (p := ⟨w.heap.size, 0, none⟩) (by rw [hsd]; have := bU1.lt; exact this)).trans hH.2⟩
    clear bO1 bU1 bX cU cX hBx
    refine only_take 1 (.pointer (some ⟨Bx, 0, none⟩)) rfl (by kernel_rfl) (by kernel_rfl) (by kernel_rfl) (by rfl) hH ?_ ?_
    · intro w hSw
      obtain ⟨⟨s0, s1⟩, s2⟩ := hSw
      go_simp
    try simp only [Act.put, List.setIfInBounds_toArray, List.set_cons_zero, List.set_cons_succ]
    refine only_take 2 (.int .i64 x1) rfl (by kernel_rfl) (by kernel_rfl) (by kernel_rfl) (by rfl) hH ?_ ?_
    · intro w hSw
      obtain ⟨⟨s0, s1⟩, s2⟩ := hSw
      go_simp
    try simp only [Act.put, List.setIfInBounds_toArray, List.set_cons_zero, List.set_cons_succ]
    refine only_take 3 (.pointer (some ⟨Bx, 0, none⟩)) rfl (by kernel_rfl) (by kernel_rfl) (by kernel_rfl) (by rfl) hH ?_ ?_
    · intro w hSw
      obtain ⟨⟨s0, s1⟩, s2⟩ := hSw
      go_simp
    try simp only [Act.put, List.setIfInBounds_toArray, List.set_cons_zero, List.set_cons_succ]
    refine only_take 4 (.int .i64 x1) rfl (by kernel_rfl) (by kernel_rfl) (by kernel_rfl) (by rfl) hH ?_ ?_
    · intro w hSw
      obtain ⟨⟨s0, s1⟩, s2⟩ := hSw
      go_simp
    try simp only [Act.put, List.setIfInBounds_toArray, List.set_cons_zero, List.set_cons_succ]
    refine only_take 5 (.int .i64 y) rfl (by kernel_rfl) (by kernel_rfl) (by kernel_rfl) (by rfl) hH ?_ ?_
    · intro w hSw
      obtain ⟨⟨s0, s1⟩, s2⟩ := hSw
      go_simp
    try simp only [Act.put, List.setIfInBounds_toArray, List.set_cons_zero, List.set_cons_succ]
    refine only_take 6 (.int .i64 u) rfl (by kernel_rfl) (by kernel_rfl) (by kernel_rfl) (by rfl) hH ?_ ?_
    · intro w hSw
      obtain ⟨⟨s0, s1⟩, s2⟩ := hSw
      go_simp
    try simp only [Act.put, List.setIfInBounds_toArray, List.set_cons_zero, List.set_cons_succ]
    refine only_take 9 (.pointer (some ⟨Bx, 1, none⟩)) rfl (by kernel_rfl) (by kernel_rfl) (by kernel_rfl) (by rfl) hH ?_ ?_
    · intro w hSw
      obtain ⟨⟨s0, s1⟩, s2⟩ := hSw
      go_simp
    try simp only [Act.put, List.setIfInBounds_toArray, List.set_cons_zero, List.set_cons_succ]
    refine only_take 10 (.int .i64 x2) rfl (by kernel_rfl) (by kernel_rfl) (by kernel_rfl) (by rfl) hH ?_ ?_
    · intro w hSw
      obtain ⟨⟨s0, s1⟩, s2⟩ := hSw
      go_simp
    try simp only [Act.put, List.setIfInBounds_toArray, List.set_cons_zero, List.set_cons_succ]
    refine only_take 11 (.pointer (some ⟨Bx, 1, none⟩)) rfl (by kernel_rfl) (by kernel_rfl) (by kernel_rfl) (by rfl) hH ?_ ?_
    · intro w hSw
      obtain ⟨⟨s0, s1⟩, s2⟩ := hSw
      go_simp
    try simp only [Act.put, List.setIfInBounds_toArray, List.set_cons_zero, List.set_cons_succ]
    refine only_take 12 (.int .i64 x2) rfl (by kernel_rfl) (by kernel_rfl) (by kernel_rfl) (by rfl) hH ?_ ?_
    · intro w hSw
      obtain ⟨⟨s0, s1⟩, s2⟩ := hSw
      go_simp
    try simp only [Act.put, List.setIfInBounds_toArray, List.set_cons_zero, List.set_cons_succ]
    refine only_take 13 (.int .i64 u) rfl (by kernel_rfl) (by kernel_rfl) (by kernel_rfl) (by rfl) hH ?_ ?_
    · intro w hSw
      obtain ⟨⟨s0, s1⟩, s2⟩ := hSw
      go_simp
    try simp only [Act.put, List.setIfInBounds_toArray, List.set_cons_zero, List.set_cons_succ]
    refine wpAnyH_ready (rs := [0, 7]) (by kernel_rfl) (by simp) ?_
    refine AllReadyH.cons (i := 0) rfl (fun K hK => ?_) ?_
    · go_simp
      refine hK.out _ _ hH (fun _ => ?_)
      clear hK K
      try simp only [Act.put, List.setIfInBounds_toArray, List.set_cons_zero, List.set_cons_succ]
      refine wpAnyH_ready (rs := [7]) (by kernel_rfl) (by simp) ?_
      refine AllReadyH.cons (i := 7) rfl (fun K hK => ?_) AllReadyH.nil
      go_simp
      refine (above_any _ y u hu2).mono ?_
      rintro e w4 ⟨rfl, rfl⟩
      go_simp
      refine hK.out _ _ hH (fun _ => ?_)
      clear hK K
      try simp only [Act.put, List.setIfInBounds_toArray, List.set_cons_zero, List.set_cons_succ]
      refine only_take 8 (.int .i64 z1) rfl (by kernel_rfl) (by kernel_rfl) (by kernel_rfl) (by rfl) hH ?_ ?_
      · intro w hSw
        obtain ⟨⟨s0, s1⟩, s2⟩ := hSw
        go_simp
      try simp only [Act.put, List.setIfInBounds_toArray, List.set_cons_zero, List.set_cons_succ]
      refine wpAnyH_ready (rs := [14]) (by kernel_rfl) (by simp) ?_
      refine AllReadyH.cons (i := 14) rfl (fun K hK => ?_) AllReadyH.nil
      go_simp
      refine (above_any _ x2 u hu2).mono ?_
      rintro e w4 ⟨rfl, rfl⟩
      go_simp
      refine hK.out _ _ hH (fun _ => ?_)
      clear hK K
      try simp only [Act.put, List.setIfInBounds_toArray, List.set_cons_zero, List.set_cons_succ]
      refine only_take 15 (.int .i64 z2) rfl (by kernel_rfl) (by kernel_rfl) (by kernel_rfl) (by rfl) hH ?_ ?_
      · intro w hSw
        obtain ⟨⟨s0, s1⟩, s2⟩ := hSw
        go_simp
      try simp only [Act.put, List.setIfInBounds_toArray, List.set_cons_zero, List.set_cons_succ]
      refine only_take 16 (.agg #[.int .i64 z1, .int .i64 z2]) rfl (by kernel_rfl) (by kernel_rfl) (by kernel_rfl) (by rfl) hH ?_ ?_
      · intro w hSw
        obtain ⟨⟨s0, s1⟩, s2⟩ := hSw
        go_simp
      try simp only [Act.put, List.setIfInBounds_toArray, List.set_cons_zero, List.set_cons_succ]
      refine wpAnyH_ready (rs := [17]) (by kernel_rfl) (by simp) ?_
      refine AllReadyH.cons (i := 17) rfl (fun K hK => ?_) AllReadyH.nil
      go_simp
      refine hK.out _ _ hHa (fun _ => ?_)
      clear hK K
      try simp only [Act.put, List.setIfInBounds_toArray, List.set_cons_zero, List.set_cons_succ]
      refine wpAnyH_ready (rs := [18]) (by kernel_rfl) (by simp) ?_
      refine AllReadyH.cons (i := 18) rfl (fun K hK => ?_) AllReadyH.nil
      refine step_append_row (by rfl) (.tmp 15) (.tmp 32) 22 (by rfl) w3.heap.size 32 i1 (.agg #[.int .i64 0, .int .i64 0]) 2 16 Try.underlying22 hi hz0 hz1 hz2 (by rfl) (by decide) v pre.length ((pre.map (fun p => inwW u p.2)).flatMap encE) (by rfl) (by exact hrow.alloc _) ⟨W.heap.size, 0, none⟩ 1 1 [.int .i64 z1, .int .i64 z2] (by rfl) (by rfl) (by exact new2 W.drew _ _ _) (by simp [Value.oneCell']) (by unfold maxLen; omega) (by omega) (by simp; omega) ?_
      intro v5 w5 ho5 hg5 _
      obtain ⟨g5, cap5, rfl⟩ := ownsRow_succ ho5
      obtain ⟨b1, hH5, hH6, hpost⟩ := HT.out _ w5 ho5 hg5
      have c1 := b1.cell
      have f1 := b1.frozen
      refine hK.out _ _ hH5 (fun _ => ?_)
      clear hK K
      try simp only [Act.put, List.setIfInBounds_toArray, List.set_cons_zero, List.set_cons_succ]
      refine wpAnyH_ready (rs := [19]) (by kernel_rfl) (by simp) ?_
      refine AllReadyH.cons (i := 19) rfl (fun K hK => ?_) AllReadyH.nil
      go_simp
      refine hK.out _ _ hH6 (fun _ => ?_)
      clear hK K
      try simp only [Act.put, List.setIfInBounds_toArray, List.set_cons_zero, List.set_cons_succ]
      refine wpAnyH_done (by kernel_rfl) ?_ _
      exact hpost
    · refine AllReadyH.cons (i := 7) rfl (fun K hK => ?_) AllReadyH.nil
      go_simp
      refine (above_any _ y u hu2).mono ?_
      rintro e w4 ⟨rfl, rfl⟩
      go_simp
      refine hK.out _ _ hH (fun _ => ?_)
      clear hK K
      try simp only [Act.put, List.setIfInBounds_toArray, List.set_cons_zero, List.set_cons_succ]
      refine only_take 8 (.int .i64 z1) rfl (by kernel_rfl) (by kernel_rfl) (by kernel_rfl) (by rfl) hH ?_ ?_
      · intro w hSw
        obtain ⟨⟨s0, s1⟩, s2⟩ := hSw
        go_simp
      try simp only [Act.put, List.setIfInBounds_toArray, List.set_cons_zero, List.set_cons_succ]
      refine wpAnyH_ready (rs := [0, 14]) (by kernel_rfl) (by simp) ?_
      refine AllReadyH.cons (i := 0) rfl (fun K hK => ?_) ?_
      · go_simp
        refine hK.out _ _ hH (fun _ => ?_)
        clear hK K
        try simp only [Act.put, List.setIfInBounds_toArray, List.set_cons_zero, List.set_cons_succ]
        refine wpAnyH_ready (rs := [14]) (by kernel_rfl) (by simp) ?_
        refine AllReadyH.cons (i := 14) rfl (fun K hK => ?_) AllReadyH.nil
        go_simp
        refine (above_any _ x2 u hu2).mono ?_
        rintro e w4 ⟨rfl, rfl⟩
        go_simp
        refine hK.out _ _ hH (fun _ => ?_)
        clear hK K
        try simp only [Act.put, List.setIfInBounds_toArray, List.set_cons_zero, List.set_cons_succ]
        refine only_take 15 (.int .i64 z2) rfl (by kernel_rfl) (by kernel_rfl) (by kernel_rfl) (by rfl) hH ?_ ?_
        · intro w hSw
          obtain ⟨⟨s0, s1⟩, s2⟩ := hSw
          go_simp
        try simp only [Act.put, List.setIfInBounds_toArray, List.set_cons_zero, List.set_cons_succ]
        refine only_take 16 (.agg #[.int .i64 z1, .int .i64 z2]) rfl (by kernel_rfl) (by kernel_rfl) (by kernel_rfl) (by rfl) hH ?_ ?_
        · intro w hSw
          obtain ⟨⟨s0, s1⟩, s2⟩ := hSw
          go_simp
        try simp only [Act.put, List.setIfInBounds_toArray, List.set_cons_zero, List.set_cons_succ]
        refine wpAnyH_ready (rs := [17]) (by kernel_rfl) (by simp) ?_
        refine AllReadyH.cons (i := 17) rfl (fun K hK => ?_) AllReadyH.nil
        go_simp
        refine hK.out _ _ hHa (fun _ => ?_)
        clear hK K
        try simp only [Act.put, List.setIfInBounds_toArray, List.set_cons_zero, List.set_cons_succ]
        refine wpAnyH_ready (rs := [18]) (by kernel_rfl) (by simp) ?_
        refine AllReadyH.cons (i := 18) rfl (fun K hK => ?_) AllReadyH.nil
        refine step_append_row (by rfl) (.tmp 15) (.tmp 32) 22 (by rfl) w3.heap.size 32 i1 (.agg #[.int .i64 0, .int .i64 0]) 2 16 Try.underlying22 hi hz0 hz1 hz2 (by rfl) (by decide) v pre.length ((pre.map (fun p => inwW u p.2)).flatMap encE) (by rfl) (by exact hrow.alloc _) ⟨W.heap.size, 0, none⟩ 1 1 [.int .i64 z1, .int .i64 z2] (by rfl) (by rfl) (by exact new2 W.drew _ _ _) (by simp [Value.oneCell']) (by unfold maxLen; omega) (by omega) (by simp; omega) ?_
        intro v5 w5 ho5 hg5 _
        obtain ⟨g5, cap5, rfl⟩ := ownsRow_succ ho5
        obtain ⟨b1, hH5, hH6, hpost⟩ := HT.out _ w5 ho5 hg5
        have c1 := b1.cell
        have f1 := b1.frozen
        refine hK.out _ _ hH5 (fun _ => ?_)
        clear hK K
        try simp only [Act.put, List.setIfInBounds_toArray, List.set_cons_zero, List.set_cons_succ]
        refine wpAnyH_ready (rs := [19]) (by kernel_rfl) (by simp) ?_
        refine AllReadyH.cons (i := 19) rfl (fun K hK => ?_) AllReadyH.nil
        go_simp
        refine hK.out _ _ hH6 (fun _ => ?_)
        clear hK K
        try simp only [Act.put, List.setIfInBounds_toArray, List.set_cons_zero, List.set_cons_succ]
        refine wpAnyH_done (by kernel_rfl) ?_ _
        exact hpost
      · refine AllReadyH.cons (i := 14) rfl (fun K hK => ?_) AllReadyH.nil
        go_simp
        refine (above_any _ x2 u hu2).mono ?_
        rintro e w4 ⟨rfl, rfl⟩
        go_simp
        refine hK.out _ _ hH (fun _ => ?_)
        clear hK K
        try simp only [Act.put, List.setIfInBounds_toArray, List.set_cons_zero, List.set_cons_succ]
        refine only_take 15 (.int .i64 z2) rfl (by kernel_rfl) (by kernel_rfl) (by kernel_rfl) (by rfl) hH ?_ ?_
        · intro w hSw
          obtain ⟨⟨s0, s1⟩, s2⟩ := hSw
          go_simp
        try simp only [Act.put, List.setIfInBounds_toArray, List.set_cons_zero, List.set_cons_succ]
        refine only_take 16 (.agg #[.int .i64 z1, .int .i64 z2]) rfl (by kernel_rfl) (by kernel_rfl) (by kernel_rfl) (by rfl) hH ?_ ?_
        · intro w hSw
          obtain ⟨⟨s0, s1⟩, s2⟩ := hSw
          go_simp
        try simp only [Act.put, List.setIfInBounds_toArray, List.set_cons_zero, List.set_cons_succ]
        refine wpAnyH_ready (rs := [0, 17]) (by kernel_rfl) (by simp) ?_
        refine AllReadyH.cons (i := 0) rfl (fun K hK => ?_) ?_
        · go_simp
          refine hK.out _ _ hH (fun _ => ?_)
          clear hK K
          try simp only [Act.put, List.setIfInBounds_toArray, List.set_cons_zero, List.set_cons_succ]
          refine wpAnyH_ready (rs := [17]) (by kernel_rfl) (by simp) ?_
          refine AllReadyH.cons (i := 17) rfl (fun K hK => ?_) AllReadyH.nil
          go_simp
          refine hK.out _ _ hHa (fun _ => ?_)
          clear hK K
          try simp only [Act.put, List.setIfInBounds_toArray, List.set_cons_zero, List.set_cons_succ]
          refine wpAnyH_ready (rs := [18]) (by kernel_rfl) (by simp) ?_
          refine AllReadyH.cons (i := 18) rfl (fun K hK => ?_) AllReadyH.nil
          refine step_append_row (by rfl) (.tmp 15) (.tmp 32) 22 (by rfl) w3.heap.size 32 i1 (.agg #[.int .i64 0, .int .i64 0]) 2 16 Try.underlying22 hi hz0 hz1 hz2 (by rfl) (by decide) v pre.length ((pre.map (fun p => inwW u p.2)).flatMap encE) (by rfl) (by exact hrow.alloc _) ⟨W.heap.size, 0, none⟩ 1 1 [.int .i64 z1, .int .i64 z2] (by rfl) (by rfl) (by exact new2 W.drew _ _ _) (by simp [Value.oneCell']) (by unfold maxLen; omega) (by omega) (by simp; omega) ?_
          intro v5 w5 ho5 hg5 _
          obtain ⟨g5, cap5, rfl⟩ := ownsRow_succ ho5
          obtain ⟨b1, hH5, hH6, hpost⟩ := HT.out _ w5 ho5 hg5
          have c1 := b1.cell
          have f1 := b1.frozen
          refine hK.out _ _ hH5 (fun _ => ?_)
          clear hK K
          try simp only [Act.put, List.setIfInBounds_toArray, List.set_cons_zero, List.set_cons_succ]
          refine wpAnyH_ready (rs := [19]) (by kernel_rfl) (by simp) ?_
          refine AllReadyH.cons (i := 19) rfl (fun K hK => ?_) AllReadyH.nil
          go_simp
          refine hK.out _ _ hH6 (fun _ => ?_)
          clear hK K
          try simp only [Act.put, List.setIfInBounds_toArray, List.set_cons_zero, List.set_cons_succ]
          refine wpAnyH_done (by kernel_rfl) ?_ _
          exact hpost
        · refine AllReadyH.cons (i := 17) rfl (fun K hK => ?_) AllReadyH.nil
          go_simp
          refine hK.out _ _ hHa (fun _ => ?_)
          clear hK K
          try simp only [Act.put, List.setIfInBounds_toArray, List.set_cons_zero, List.set_cons_succ]
          refine wpAnyH_ready (rs := [0]) (by kernel_rfl) (by simp) ?_
          refine AllReadyH.cons (i := 0) rfl (fun K hK => ?_) AllReadyH.nil
          go_simp
          refine hK.out _ _ hHa (fun _ => ?_)
          clear hK K
          try simp only [Act.put, List.setIfInBounds_toArray, List.set_cons_zero, List.set_cons_succ]
          refine wpAnyH_ready (rs := [18]) (by kernel_rfl) (by simp) ?_
          refine AllReadyH.cons (i := 18) rfl (fun K hK => ?_) AllReadyH.nil
          refine step_append_row (by rfl) (.tmp 15) (.tmp 32) 22 (by rfl) w3.heap.size 32 i1 (.agg #[.int .i64 0, .int .i64 0]) 2 16 Try.underlying22 hi hz0 hz1 hz2 (by rfl) (by decide) v pre.length ((pre.map (fun p => inwW u p.2)).flatMap encE) (by rfl) (by exact hrow.alloc _) ⟨W.heap.size, 0, none⟩ 1 1 [.int .i64 z1, .int .i64 z2] (by rfl) (by rfl) (by exact new2 W.drew _ _ _) (by simp [Value.oneCell']) (by unfold maxLen; omega) (by omega) (by simp; omega) ?_
          intro v5 w5 ho5 hg5 _
          obtain ⟨g5, cap5, rfl⟩ := ownsRow_succ ho5
          obtain ⟨b1, hH5, hH6, hpost⟩ := HT.out _ w5 ho5 hg5
          have c1 := b1.cell
          have f1 := b1.frozen
          refine hK.out _ _ hH5 (fun _ => ?_)
          clear hK K
          try simp only [Act.put, List.setIfInBounds_toArray, List.set_cons_zero, List.set_cons_succ]
          refine wpAnyH_ready (rs := [19]) (by kernel_rfl) (by simp) ?_
          refine AllReadyH.cons (i := 19) rfl (fun K hK => ?_) AllReadyH.nil
          go_simp
          refine hK.out _ _ hH6 (fun _ => ?_)
          clear hK K
          try simp only [Act.put, List.setIfInBounds_toArray, List.set_cons_zero, List.set_cons_succ]
          refine wpAnyH_done (by kernel_rfl) ?_ _
          exact hpost
  case done =>
    rintro D ys W hD rfl ⟨⟨⟨v, bO1, hrow, _⟩, bU1⟩, hB1, hs1⟩ hK
    have cO := bO1.cell
    have hml : (upto N N.length).length = N.length := upto_length _ _
    obtain ⟨M0, hM0⟩ : ∃ M0, M0 = (upto N N.length).map (fun p => inwW u p.2) := ⟨_, rfl⟩
    rw [← hM0] at hrow
    have hMl : M0.length = N.length := by rw [hM0]; simp [hml]
    have hoE : OwnE W w3.heap.size v M0 := by unfold OwnE; rw [hMl, ← hml]; exact hrow
    obtain ⟨a7, c7, rfl, hl7, _, _, _⟩ := hoE.form
    have HN := hide (norm_any hS W a7 c7 M0 hl7 (by have := hG.norm.len; omega))
    have HM0 := hide hM0
    clear hrow hl7 hoE hMl hml hM0
    gi_wp2_with (refine ⟨trivial, ?_⟩; gi_at_call 8; refine (callsIn_wide.2 HN.out).mono ?_; rintro e w8 ⟨v8, M, rfl, ho8, hn8, hb8⟩)
    have hDl : D < W.heap.size := (Array.getElem?_eq_some_iff.1 hK).1
    have hK8 : w8.heap[D]? = some (.deferred (some [])) := (hb8.block D hDl).trans hK
    refine ⟨by simp, .inl ⟨_, _, rfl, run_takeDeferred hK8, ?_⟩⟩
    refine ⟨_, results_tmp2 rfl _ _ _, v8, N, M, rfl, hG.norm, ?_, ownsRow_putObj (ho8.mono (by omega)) _ hK8 rfl, (hB1.trans (hb8.mono hB1.size)).trans (belowK_b (w := w) (Nat.le_refl _) w8 D _ _ (by omega) hK8 rfl rfl)⟩
    have := HM0.out
    rw [upto_map N (inwW u), inw_near (hG.norm.near hne) u hu] at this
    rw [← this]
    exact hn8
  case stop =>
    rintro D c pre W _ _ h _
    exact h.elim

end Go.Proofs.Ytlkfabcjknaogaa.Oct
