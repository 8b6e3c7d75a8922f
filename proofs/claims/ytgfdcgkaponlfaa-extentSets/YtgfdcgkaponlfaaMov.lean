/- Moved: each byte, so many further. -/
import Derived.Test.YtgfdcgkaponlfaaInw
import Derived.Maps.OwnIn
namespace Go.Proofs.Ytgfdcgkaponlfaa.Oct
open Go.RowKit Go.Shelf

attribute [local go_sem] Oper.semAt_some

def movW (u : Int) (x : Int × Int) : Int × Int := (IntKind.i64.wrap (x.1 + u), IntKind.i64.wrap (x.2 + u))
def mov (u : Int) (x : Int × Int) : Int × Int := (x.1 + u, x.2 + u)

theorem mov_near {L : List (Int × Int)} (h : Near L) (u : Int) (hu : -1125899906842624 ≤ u ∧ u ≤ 1125899906842624) : L.map (movW u) = L.map (mov u) := by
  refine List.map_congr_left fun p hp => ?_
  have h1 := h p hp
  unfold movW mov
  congr 1
  · rw [IntKind.wrap_i64]; omega
  · rw [IntKind.wrap_i64]; omega

set_option linter.unusedSimpArgs false in
set_option maxRecDepth 100000 in
set_option maxHeartbeats 4000000 in
theorem moved_any (hS : SortSays) (w : World) (a : Option Addr) (c : Nat) (L : List (Int × Int)) (h : LiesE w a L) (hl : L.length ≤ 1000) (hne : Near L) (u : Int) (hu : -1125899906842624 ≤ u ∧ u ≤ 1125899906842624) :
    Calls Try.prog 25 #[.slice a L.length c, .int .i64 u] w fun e w' => ∃ v N M, e = .returned v ∧ Normed L N ∧ Normed (N.map (mov u)) M ∧ OwnE w' w.heap.size v M ∧ Below w.heap.size w w' := by
  refine (callsIn_wide (n := 5)).1 ?_
  refine callsIn_of_wp_marks Try.func25 rfl trivial ?_ rfl
  simp only [Try.ntmps25, List.size_toArray, List.length_cons, List.length_nil, Nat.reduceAdd, Nat.reduceSub, Array.replicate_succ, Array.replicate_zero, List.push_toArray, List.append_toArray, List.nil_append, List.cons_append]
  have hb2 : Below w.heap.size w ((w.alloc (.cells #[.int .i64 u] 2)).alloc (.cells #[.slice none 0 0] 22)) := ((Below.refl _ w).alloc (Nat.le_refl _) _).alloc (by simp) _
  have bU := (Boxed.new w 2 (.int .i64 u)).alloc (.cells #[.slice none 0 0] 22)
  have bO := Boxed.new (w.alloc (.cells #[.int .i64 u] 2)) 22 (.slice none 0 0)
  rw [World.size_alloc] at bO
  have HA := hide (all_any hS _ a c L (h.below hb2) (by omega))
  gi_wp2_with (refine ⟨trivial, ?_⟩; gi_at_call 21; refine (callsIn_wide.2 HA.out).mono ?_; rintro e w3 ⟨Bs, g, a', c', N, rfl, hG⟩)
  have hsW : w.heap.size + 2 ≤ w3.heap.size := by have := hG.below.size; simp at this; omega
  have hgs : w.heap.size + 2 ≤ g ∧ g < w3.heap.size := by have := hG.gs; simp at this; exact this
  have hb3 : Below w.heap.size w w3 := hb2.trans (hG.below.mono (by simp; omega))
  have bU3 : Boxed w3 w.heap.size 2 (.int .i64 u) := (hG.below.block _ (by simp; omega)).trans bU
  have bO3 : Boxed w3 (w.heap.size + 1) 22 (.slice none 0 0) := (hG.below.block _ (by simp)).trans bO
  clear HA bU bO hb2
  refine wpIn_rangeFunc_ownH rfl (by omega) (gf := 31) (lb := #[.pointer (some ⟨Bs, 0, none⟩)]) rfl trivial (enters_of Try.func31 (by kernel_rfl) rfl)
    (all_stops Fence.wide 4 trivial rfl (by omega) Bs g c' a' N (by have := hG.norm.len; omega) w3 hG.bs.2 hgs.2 hG.box hG.lies) KeepB.trans (fun W l o o' hl ho h1 h2 => KeepB.of_below (belowK_b (Nat.le_refl _) W l o o' hl ho h1 h2) hgs.2) (Below.refl _ _) (fun _ => rfl)
    (fun (pre : List (Nat × (Int × Int))) W => ((∃ v, Boxed W (w.heap.size + 1) 22 v ∧ W.ownsRow w3.heap.size 32 2 v pre.length ((pre.map (fun p => movW u p.2)).flatMap encE) ∧ True) ∧ Boxed W w.heap.size 2 (.int .i64 u)) ∧ (Below w.heap.size w W ∧ w3.heap.size ≤ W.heap.size))
    (fun _ _ _ => False)
    (OwnFrom.and (OwnFrom.and (Own.from (holdsRow_own w3.heap.size (w.heap.size + 1) 22 32 2 (fun (pre : List (Nat × (Int × Int))) => pre.length) (fun pre => (pre.map (fun p => movW u p.2)).flatMap encE) (fun _ _ => True)) _) (Own.from (boxed_own _ _ _) _)) (OwnFrom.and (ownFrom_below (Nat.le_refl _) (by omega)) (fun _ _ _ _ hs hg _ => Nat.le_trans hs hg.size)))
    (fun _ _ _ _ _ hs _ _ => hs)
    ⟨⟨⟨_, bO3, World.ownsRow_nil _ _ _ _, trivial⟩, bU3⟩, hb3, Nat.le_refl _⟩
    (fun x a' W => ∃ Bx, w3.heap.size ≤ Bx ∧ W.heap[Bx]? = some (.cells #[.int .i64 x.2.1, .int .i64 x.2.2] 32 (0, 0)) ∧ a' = { tmps := #[.slice a L.length c, .int .i64 u, undef, .pointer (some ⟨w.heap.size, 0, none⟩), .slice none 0 0, .pointer (some ⟨w.heap.size + 1, 0, none⟩), undef, .pointer (some ⟨Bx, 0, none⟩), .slice a L.length c, .func (.func 31) #[] #[.pointer (some ⟨Bs, 0, none⟩)], .int .i64 x.1, .agg #[.int .i64 x.2.1, .int .i64 x.2.2], undef, undef, undef, undef, undef, undef, undef, undef, undef, undef, undef, undef, undef, undef], defers := [] })
    (fun x a' _ X Y row hs hg hr => by
      obtain ⟨Bx, h1, h2, h3⟩ := hs
      refine ⟨Bx, h1, (hg.block Bx (Array.getElem?_eq_some_iff.1 h2).1 (fun e => ?_)).trans h2, h3⟩
      obtain ⟨o, ho, hc⟩ := (hr Bx e.symm).2
      rw [h2] at ho
      cases ho
      cases hc)
    ?assign ?body ?done ?stop
  case assign =>
    rintro l pre x W K ⟨⟨⟨v, bO1, hrow, _⟩, bU1⟩, hB1, hs1⟩ hK
    obtain ⟨xi, x1, x2⟩ := x
    dsimp only [encP] at *
    gi_wp2
    exact hK _ _ ((KeepsOthers.alloc _ _).from _) ((KeepB.refl g W).alloc (by omega) _) ⟨⟨⟨v, bO1.alloc _, hrow.alloc _, trivial⟩, bU1.alloc _⟩, hB1.alloc hB1.size _, by simp; omega⟩ ⟨W.heap.size, hs1, World.alloc_heap_new W _, rfl⟩
  case body =>
    rintro l pre x a' W hl ⟨r, hr⟩ ⟨⟨⟨v, bO1, hrow, _⟩, bU1⟩, hB1, hs1⟩ ⟨Bx, hBx, bX, rfl⟩ hlt
    obtain ⟨xi, x1, x2⟩ := x
    dsimp only at bX ⊢
    obtain ⟨z1, hz1'⟩ : ∃ z, IntKind.i64.wrap (x1 + u) = z := ⟨_, rfl⟩
    obtain ⟨z2, hz2'⟩ : ∃ z, IntKind.i64.wrap (x2 + u) = z := ⟨_, rfl⟩
    have hpl : pre.length ≤ 1000 := by have := hG.norm.len; omega
    obtain ⟨i1, hi, hz0, hz1, hz2⟩ := info_parts info_E
    have HT : Hid (∀ v5 w5, w5.ownsRow w3.heap.size 32 2 v5 (pre.length + 1) ((pre.map (fun p => movW u p.2)).flatMap encE ++ [.int .i64 z1, .int .i64 z2]) → (W.alloc (.cells #[.int .i64 z1, .int .i64 z2] 32)).grownBy w5 v.ownBlock →
        Boxed w5 (w.heap.size + 1) 22 v ∧
        (KeepsFrom w3.heap.size W (w5.setCell ⟨w.heap.size + 1, 0, none⟩ v5) ∧ KeepB g W (w5.setCell ⟨w.heap.size + 1, 0, none⟩ v5) ∧ ((∃ v, Boxed (w5.setCell ⟨w.heap.size + 1, 0, none⟩ v5) (w.heap.size + 1) 22 v ∧ (w5.setCell ⟨w.heap.size + 1, 0, none⟩ v5).ownsRow w3.heap.size 32 2 v (pre ++ [(xi, (x1, x2))]).length (((pre ++ [(xi, (x1, x2))]).map (fun p => movW u p.2)).flatMap encE) ∧ True) ∧ Boxed (w5.setCell ⟨w.heap.size + 1, 0, none⟩ v5) w.heap.size 2 (.int .i64 u)) ∧ (Below w.heap.size w (w5.setCell ⟨w.heap.size + 1, 0, none⟩ v5) ∧ w3.heap.size ≤ (w5.setCell ⟨w.heap.size + 1, 0, none⟩ v5).heap.size))) := by
      refine hide fun v5 w5 ho5 hg5 => ?_
      obtain ⟨k1, k2, k3, k4, k5, k6, k7⟩ := Boxed.added (n₀ := w.heap.size) (g := g) bO1 (by decide) (e := 32) hrow (by omega) (by omega) (by omega) hgs.2 (by omega) ho5 hg5
      have hU6 := k7 _ _ _ bU1 (by decide) (by omega)
      refine ⟨k1, k4.from _, k6, ⟨⟨v5, k2, ?_, trivial⟩, hU6⟩, hB1.trans k5, by have := k6.1; omega⟩
      rw [List.length_append, List.map_append, List.flatMap_append]
      subst hz1' hz2'
      exact k3
    have cO := bO1.cell
    have cU := bU1.cell
    obtain ⟨cX0, cX1⟩ : W.cell? ⟨Bx, 0, none⟩ = some (.int .i64 x1) ∧ W.cell? ⟨Bx, 1, none⟩ = some (.int .i64 x2) := by simp only [World.cell?, bX]; exact ⟨rfl, rfl⟩
    have HRo := hide hrow
    clear bO1 bU1 bX hBx hrow
    gi_wp2_with (gi_at_builtin; refine wpListIn_append_own_at _ rfl (.tmp 12) (.tmp 22) 22 rfl w3.heap.size 32 i1 (.agg #[.int .i64 0, .int .i64 0]) 2 16 Try.underlying22 hi hz0 hz1 hz2 rfl (by decide) v pre.length ((pre.map (fun p => movW u p.2)).flatMap encE) rfl (HRo.out.alloc _) ⟨W.heap.size, 0, none⟩ 1 1 [.int .i64 z1, .int .i64 z2] rfl rfl (new2 W _ _ _) (by simp [Value.oneCell']) (by unfold maxLen; omega) (by omega) (by simp; omega) ?_; intro v5 w5 ho5 hg5 _ _; obtain ⟨g5, cap5, rfl⟩ := ownsRow_succ ho5; obtain ⟨b1, hpost⟩ := HT.out _ w5 ho5 hg5; have HPo := hide hpost; have c1 := b1.cell; have f1 := b1.frozen; clear ho5 hg5 b1 hpost)
    exact HPo.out
  case done =>
    rintro D ys W hD rfl ⟨⟨⟨v, bO1, hrow, _⟩, bU1⟩, hB1, hs1⟩ hK
    have cO := bO1.cell
    have hml : (upto N N.length).length = N.length := upto_length _ _
    obtain ⟨M0, hM0⟩ : ∃ M0, M0 = (upto N N.length).map (fun p => movW u p.2) := ⟨_, rfl⟩
    rw [← hM0] at hrow
    have hMl : M0.length = N.length := by rw [hM0]; simp [hml]
    have hoE : OwnE W w3.heap.size v M0 := by unfold OwnE; rw [hMl, ← hml]; exact hrow
    obtain ⟨a7, c7, rfl, hl7, _, _, _⟩ := hoE.form
    have HN := hide (norm_any hS W a7 c7 M0 hl7 (by have := hG.norm.len; omega))
    have HM0 := hide hM0
    clear hrow hl7 hoE hMl hml hM0
    gi_wp2_with (refine ⟨trivial, ?_⟩; gi_at_call 23; refine (callsIn_wide.2 HN.out).mono ?_; rintro e w8 ⟨v8, M, rfl, ho8, hn8, hb8⟩)
    have hDl : D < W.heap.size := (Array.getElem?_eq_some_iff.1 hK).1
    have hK8 : w8.heap[D]? = some (.deferred (some [])) := (hb8.block D hDl).trans hK
    refine ⟨by simp, .inl ⟨_, _, rfl, run_takeDeferred hK8, ?_⟩⟩
    refine ⟨_, results_tmp rfl _ _ _, v8, N, M, rfl, hG.norm, ?_, ownsRow_putObj (ho8.mono (by omega)) _ hK8 rfl, (hB1.trans (hb8.mono hB1.size)).trans (belowK_b (w := w) (Nat.le_refl _) w8 D _ _ (by omega) hK8 rfl rfl)⟩
    have := HM0.out
    rw [upto_map N (movW u), mov_near (hG.norm.near hne) u hu] at this
    rw [← this]
    exact hn8
  case stop =>
    rintro D c pre W _ _ h _
    exact h.elim

end Go.Proofs.Ytgfdcgkaponlfaa.Oct
