/- Bytes: how many; here and by the reference. -/
import Derived.Test.YtgfdcgkaponlfaaFlr
namespace Go.Proofs.Ytgfdcgkaponlfaa.Oct
open Go.RowKit Go.Shelf

def sumW (acc : Int) (L : List (Int × Int)) : Int := L.foldl (fun s p => IntKind.i64.wrap (s + IntKind.i64.wrap (p.2 - p.1))) acc
def sumE (acc : Int) (L : List (Int × Int)) : Int := L.foldl (fun s p => s + (p.2 - p.1)) acc

theorem sumW_snoc (L : List (Int × Int)) (p : Int × Int) : sumW 0 (L ++ [p]) = IntKind.i64.wrap (sumW 0 L + IntKind.i64.wrap (p.2 - p.1)) := by simp [sumW]
theorem sumE_snoc (L : List (Int × Int)) (p : Int × Int) : sumE 0 (L ++ [p]) = sumE 0 L + (p.2 - p.1) := by simp [sumE]

theorem sum_near : ∀ (L : List (Int × Int)) (acc : Int) (b : Nat), Near L → -(2251799813685248 * (b : Int)) ≤ acc → acc ≤ 2251799813685248 * (b : Int) → b + L.length ≤ 2000 →
    sumW acc L = sumE acc L ∧ -(2251799813685248 * ((b + L.length : Nat) : Int)) ≤ sumE acc L ∧ sumE acc L ≤ 2251799813685248 * ((b + L.length : Nat) : Int)
  | [], acc, b, _, h1, h2, _ => ⟨rfl, by simpa [sumE] using h1, by simpa [sumE] using h2⟩
  | p :: L, acc, b, hn, h1, h2, hb => by
    have hp := hn p (by simp)
    simp only [List.length_cons] at hb
    have e1 : IntKind.i64.wrap (p.2 - p.1) = p.2 - p.1 := by rw [IntKind.wrap_i64]; omega
    have e2 : IntKind.i64.wrap (acc + (p.2 - p.1)) = acc + (p.2 - p.1) := by rw [IntKind.wrap_i64]; omega
    have ih := sum_near L (acc + (p.2 - p.1)) (b + 1) (fun q hq => hn q (by simp [hq])) (by push_cast; omega) (by push_cast; omega) (by omega)
    have e3 : sumW acc (p :: L) = sumW (acc + (p.2 - p.1)) L := by
      show sumW (IntKind.i64.wrap (acc + IntKind.i64.wrap (p.2 - p.1))) L = _
      rw [e1, e2]
    have e4 : sumE acc (p :: L) = sumE (acc + (p.2 - p.1)) L := rfl
    have e5 : b + (p :: L).length = b + 1 + L.length := by simp; omega
    rw [e3, e4, e5]
    exact ih

section
attribute [local go_sem] Oper.semAt_some

set_option maxRecDepth 100000 in
set_option maxHeartbeats 4000000 in
theorem bytes_any (hS : SortSays) (w : World) (a : Option Addr) (c : Nat) (L : List (Int × Int)) (h : LiesE w a L) (hl : L.length ≤ 1000) (hne : Near L) :
    Calls Try.prog 24 #[.slice a L.length c] w fun e w' => ∃ N, e = .returned (.int .i64 (sumE 0 N)) ∧ Normed L N ∧ Below w.heap.size w w' := by
  refine (callsIn_wide (n := 5)).1 ?_
  refine callsIn_of_wp_marks Try.func24 rfl trivial ?_ rfl
  simp only [Try.ntmps24, List.size_toArray, List.length_cons, List.length_nil, Nat.reduceAdd, Nat.reduceSub, Array.replicate_succ, Array.replicate_zero, List.push_toArray, List.append_toArray, List.nil_append, List.cons_append]
  have hb2 : Below w.heap.size w (w.alloc (.cells #[.int .i64 0] 2)) := (Below.refl _ w).alloc (Nat.le_refl _) _
  have bU := Boxed.new w 2 (.int .i64 0)
  have HA := hide (all_any hS _ a c L (h.below hb2) (by omega))
  gi_wp2_with (refine ⟨trivial, ?_⟩; gi_at_call 21; refine (callsIn_wide.2 HA.out).mono ?_; rintro e w3 ⟨Bs, g, a', c', N, rfl, hG⟩)
  have hsW : w.heap.size + 1 ≤ w3.heap.size := by have := hG.below.size; simp at this; omega
  have hgs : w.heap.size + 1 ≤ g ∧ g < w3.heap.size := by have := hG.gs; simp at this; exact this
  have hb3 : Below w.heap.size w w3 := hb2.trans (hG.below.mono (by simp))
  have bU3 : Boxed w3 w.heap.size 2 (.int .i64 0) := (hG.below.block _ (by simp)).trans bU
  clear HA bU hb2
  refine wpIn_rangeFunc_ownH rfl (by omega) (gf := 31) (lb := #[.pointer (some ⟨Bs, 0, none⟩)]) rfl trivial (enters_of Try.func31 (by kernel_rfl) rfl)
    (all_stops Fence.wide 4 trivial rfl (by omega) Bs g c' a' N (by have := hG.norm.len; omega) w3 hG.bs.2 hgs.2 hG.box hG.lies) KeepB.trans (fun W l o o' hl ho h1 h2 => KeepB.of_below (belowK_b (Nat.le_refl _) W l o o' hl ho h1 h2) hgs.2) (Below.refl _ _) (fun _ => rfl)
    (fun (pre : List (Nat × (Int × Int))) W => Boxed W w.heap.size 2 (.int .i64 (sumW 0 (pre.map (fun p => p.2)))) ∧ (Below w.heap.size w W ∧ w3.heap.size ≤ W.heap.size))
    (fun _ _ _ => False)
    (OwnFrom.and (Own.from (boxed_own _ _ _) _) (OwnFrom.and (ownFrom_below (Nat.le_refl _) (by omega)) (fun _ _ _ _ hs hg _ => Nat.le_trans hs hg.size)))
    (fun _ _ _ _ _ hs _ _ => hs)
    ⟨bU3, hb3, Nat.le_refl _⟩
    (fun x a' W => ∃ Bx, w3.heap.size ≤ Bx ∧ W.heap[Bx]? = some (.cells #[.int .i64 x.2.1, .int .i64 x.2.2] 32 (0, 0)) ∧ a' = { tmps := #[.slice a L.length c, undef, .int .i64 0, .pointer (some ⟨w.heap.size, 0, none⟩), undef, .pointer (some ⟨Bx, 0, none⟩), .slice a L.length c, .func (.func 31) #[] #[.pointer (some ⟨Bs, 0, none⟩)], .int .i64 x.1, .agg #[.int .i64 x.2.1, .int .i64 x.2.2], undef, undef, undef, undef, undef, undef, undef, undef], defers := [] })
    (fun x a' _ X Y row hs hg hr => by
      obtain ⟨Bx, h1, h2, h3⟩ := hs
      refine ⟨Bx, h1, (hg.block Bx (Array.getElem?_eq_some_iff.1 h2).1 (fun e => ?_)).trans h2, h3⟩
      obtain ⟨o, ho, hc⟩ := (hr Bx e.symm).2
      rw [h2] at ho
      cases ho
      cases hc)
    ?assign ?body ?done ?stop
  case assign =>
    rintro l pre x W K ⟨bU1, hB1, hs1⟩ hK
    obtain ⟨xi, x1, x2⟩ := x
    dsimp only [encP] at *
    gi_wp2
    exact hK _ _ ((KeepsOthers.alloc _ _).from _) ((KeepB.refl g W).alloc (by omega) _) ⟨bU1.alloc _, hB1.alloc hB1.size _, by simp; omega⟩ ⟨W.heap.size, hs1, World.alloc_heap_new W _, rfl⟩
  case body =>
    rintro l pre x a' W hl ⟨r, hr⟩ ⟨bU1, hB1, hs1⟩ ⟨Bx, hBx, bX, rfl⟩ hlt
    obtain ⟨xi, x1, x2⟩ := x
    dsimp only at bX ⊢
    obtain ⟨z, hz⟩ : ∃ z, z = sumW 0 (pre.map (fun p => p.2)) := ⟨_, rfl⟩
    rw [← hz] at bU1
    have HZ := hide hz
    obtain ⟨y, hy⟩ : ∃ y, IntKind.i64.wrap (x2 - x1) = y := ⟨_, rfl⟩
    obtain ⟨z', hz'⟩ : ∃ z', IntKind.i64.wrap (z + y) = z' := ⟨_, rfl⟩
    have HZ' : Hid (z' = sumW 0 ((pre ++ [(xi, (x1, x2))]).map (fun p => p.2))) := hide (by rw [List.map_append, List.map_singleton, sumW_snoc, ← hz, hy, hz'])
    have cU := bU1.cell
    have fU := bU1.frozen
    obtain ⟨cX0, cX1⟩ : W.cell? ⟨Bx, 0, none⟩ = some (.int .i64 x1) ∧ W.cell? ⟨Bx, 1, none⟩ = some (.int .i64 x2) := by simp only [World.cell?, bX]; exact ⟨rfl, rfl⟩
    have HP : Hid (KeepsFrom w3.heap.size W (W.setCell ⟨w.heap.size, 0, none⟩ (.int .i64 z')) ∧ KeepB g W (W.setCell ⟨w.heap.size, 0, none⟩ (.int .i64 z')) ∧ Boxed (W.setCell ⟨w.heap.size, 0, none⟩ (.int .i64 z')) w.heap.size 2 (.int .i64 z') ∧ Below w.heap.size w (W.setCell ⟨w.heap.size, 0, none⟩ (.int .i64 z')) ∧ w3.heap.size ≤ (W.setCell ⟨w.heap.size, 0, none⟩ (.int .i64 z')).heap.size) := by
      have hgg := grownBy_setCell' W w.heap.size (.int .i64 z')
      exact hide ⟨(KeepsOthers.setCell _ _ _).from _, ⟨hgg.size, hgg.block g (by omega) (by simp; omega)⟩, bU1.set _, hB1.setCell (p := ⟨w.heap.size, 0, none⟩) (Nat.le_refl _) _, Nat.le_trans hs1 hgg.size⟩
    clear bX bU1 hz
    gi_wp2
    have h1 := HP.out
    refine ⟨h1.1, h1.2.1, ?_, h1.2.2.2⟩
    rw [← HZ'.out]
    exact h1.2.2.1
  case done =>
    rintro D ys W hD rfl ⟨bU1, hB1, hs1⟩ hK
    have hsm := sum_near N 0 0 (hG.norm.near hne) (by simp) (by simp) (by have := hG.norm.len; omega)
    rw [show (upto N N.length).map (fun p => p.2) = N by rw [upto_map N (fun p => p)]; simp, hsm.1] at bU1
    have cO := bU1.cell
    gi_wp2
    refine ⟨by simp, .inl ⟨_, _, rfl, run_takeDeferred hK, ?_⟩⟩
    exact ⟨_, results_tmp rfl _ _ _, N, rfl, hG.norm, hB1.trans (belowK_b (w := w) (Nat.le_refl _) W D _ _ (by omega) hK rfl rfl)⟩
  case stop =>
    rintro D c pre W _ _ h _
    exact h.elim
end

end Go.Proofs.Ytgfdcgkaponlfaa.Oct
