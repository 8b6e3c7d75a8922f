/- joined: true. -/
import Derived.Test.YtlkfabcjknaogaaSam
namespace Go.Proofs.Ytlkfabcjknaogaa.Oct
open Go.RowKit

theorem Normed.one {L N M : List (Int × Int)} (h : Normed L N) (hf : Form M) (hs : ∀ x, InE M x ↔ InE L x) : N = M :=
  Form.unique _ _ h.form hf fun x => (h.set x).trans (hs x).symm

theorem lies_new1 (w : World) (x1 x2 : Int) : LiesE (w.alloc (.cells #[.int .i64 x1, .int .i64 x2] 32)) (some ⟨w.heap.size, 0, none⟩) [(x1, x2)] := by
  have h : (w.alloc (.cells #[.int .i64 x1, .int .i64 x2] 32)).heap[w.heap.size]? = some (.cells #[.int .i64 x1, .int .i64 x2] 32) := heap_alloc_new w _
  refine Or.inr ⟨w.heap.size, 0, rfl, by simp, fun k hk => ?_⟩
  simp only [World.cell?, h]
  match k, hk with
  | 0, _ => exact ⟨rfl, rfl⟩

theorem lies_new2 (w : World) (x1 x2 y1 y2 : Int) : LiesE (w.alloc (.cells #[.int .i64 x1, .int .i64 x2, .int .i64 y1, .int .i64 y2] 32)) (some ⟨w.heap.size, 0, none⟩) [(x1, x2), (y1, y2)] := by
  have h : (w.alloc (.cells #[.int .i64 x1, .int .i64 x2, .int .i64 y1, .int .i64 y2] 32)).heap[w.heap.size]? = some (.cells #[.int .i64 x1, .int .i64 x2, .int .i64 y1, .int .i64 y2] 32) := heap_alloc_new w _
  refine Or.inr ⟨w.heap.size, 0, rfl, by simp, fun k hk => ?_⟩
  simp only [World.cell?, h]
  match k, hk with
  | 0, _ => exact ⟨rfl, rfl⟩
  | 1, _ => exact ⟨rfl, rfl⟩

theorem lies_new3 (w : World) (x1 x2 y1 y2 z1 z2 : Int) : LiesE (w.alloc (.cells #[.int .i64 x1, .int .i64 x2, .int .i64 y1, .int .i64 y2, .int .i64 z1, .int .i64 z2] 32)) (some ⟨w.heap.size, 0, none⟩) [(x1, x2), (y1, y2), (z1, z2)] := by
  have h : (w.alloc (.cells #[.int .i64 x1, .int .i64 x2, .int .i64 y1, .int .i64 y2, .int .i64 z1, .int .i64 z2] 32)).heap[w.heap.size]? = some (.cells #[.int .i64 x1, .int .i64 x2, .int .i64 y1, .int .i64 y2, .int .i64 z1, .int .i64 z2] 32) := heap_alloc_new w _
  refine Or.inr ⟨w.heap.size, 0, rfl, by simp, fun k hk => ?_⟩
  simp only [World.cell?, h]
  match k, hk with
  | 0, _ => exact ⟨rfl, rfl⟩
  | 1, _ => exact ⟨rfl, rfl⟩
  | 2, _ => exact ⟨rfl, rfl⟩

set_option maxHeartbeats 2000000 in
set_option maxRecDepth 100000 in
theorem joined_any (hS : SortSays) (w : World) : Calls Try.prog 4 #[] w fun e w' => e = .returned (.bool true) ∧ Below w.heap.size w w' := by
  have HS := hide hS
  have hb1 : Below w.heap.size w (w.alloc (.cells #[.int .i64 1, .int .i64 9] 32)) := (Below.refl _ _).alloc (Nat.le_refl _) _
  have HB1 := hide hb1
  have H1 := hide (norm_any hS _ (some ⟨w.heap.size, 0, none⟩) 1 [(1, 9)] (lies_new1 w 1 9) (by simp))
  clear hS hb1
  go_enter Try.func4, Try.ntmps4
  go_wp2_with fail
  refine H1.out.mono ?_
  rintro e w1 ⟨v1, N1, rfl, ho1, hn1, hb1⟩
  obtain rfl : N1 = [(1, 9)] := hn1.one (by constructor <;> simp) (fun _ => Iff.rfl)
  obtain ⟨a1, c1, rfl, hl1, _, _, _⟩ := ho1.form
  have HB2 := hide (HB1.out.trans (hb1.mono HB1.out.size))
  have H2 := hide (inward_any HS.out w1 a1 c1 [(1, 9)] hl1 (by simp) (by intro p hp; simp at hp; subst hp; omega) 4 (by omega))
  clear ho1 hn1 hb1 hl1 H1
  go_wp2_with fail
  refine H2.out.mono ?_
  rintro e w2 ⟨v2, N2, M2, rfl, hn2, hm2, ho2, hb2⟩
  obtain rfl : N2 = [(1, 9)] := hn2.one (by constructor <;> simp) (fun _ => Iff.rfl)
  obtain rfl : M2 = [(4, 8)] := hm2.one (by constructor <;> simp) (fun x => by simp [inw])
  obtain ⟨a2, c2, rfl, hl2, _, _, _⟩ := ho2.form
  have HL2 := hide hl2
  have HB3 := hide (HB2.out.trans (hb2.mono HB2.out.size))
  have hb3 : Below w2.heap.size w2 (w2.alloc (.cells #[.int .i64 5, .int .i64 7, .int .i64 0, .int .i64 3, .int .i64 3, .int .i64 4] 32)) := (Below.refl _ _).alloc (Nat.le_refl _) _
  have HC3 := hide hb3
  have H3 := hide (norm_any HS.out _ (some ⟨w2.heap.size, 0, none⟩) 3 [(5, 7), (0, 3), (3, 4)] (lies_new3 w2 5 7 0 3 3 4) (by simp))
  clear ho2 hn2 hm2 hb2 hl2 H2 hb3
  go_wp2_with fail
  refine H3.out.mono ?_
  rintro e w3 ⟨v3, N3, rfl, ho3, hn3, hb3⟩
  obtain rfl : N3 = [(0, 4), (5, 7)] := hn3.one (by constructor <;> simp) (fun x => by simp only [inE_cons, InE.nil, or_false]; omega)
  obtain ⟨a3, c3, rfl, hl3, _, _, _⟩ := ho3.form
  have HC4 := hide (HC3.out.trans (hb3.mono HC3.out.size))
  have hc5 : Below w3.heap.size w3 (w3.alloc (.cells #[.int .i64 0, .int .i64 4, .int .i64 5, .int .i64 7] 32)) := (Below.refl _ _).alloc (Nat.le_refl _) _
  have HC5 := hide hc5
  have H4 := hide (same_any _ a3 (some ⟨w3.heap.size, 0, none⟩) c3 2 [(0, 4), (5, 7)] [(0, 4), (5, 7)] (hl3.below hc5) (lies_new2 w3 0 4 5 7) (by simp))
  clear ho3 hn3 hb3 hl3 H3 hc5
  go_wp2_with fail
  refine H4.out.mono ?_
  rintro e w4 ⟨rfl, hb4⟩
  have HC6 := hide ((HC4.out.trans (HC5.out.mono HC4.out.size)).trans (hb4.mono (Nat.le_trans HC4.out.size HC5.out.size)))
  have hc7 : Below w4.heap.size w4 (w4.alloc (.cells #[.int .i64 4, .int .i64 8] 32)) := (Below.refl _ _).alloc (Nat.le_refl _) _
  have HC7 := hide hc7
  have H5 := hide (same_any _ a2 (some ⟨w4.heap.size, 0, none⟩) c2 1 [(4, 8)] [(4, 8)] ((HL2.out.below HC6.out).below hc7) (lies_new1 w4 4 8) (by simp))
  clear hb4 hc7 H4
  go_wp2_with fail
  refine H5.out.mono ?_
  rintro e w5 ⟨rfl, hb5⟩
  have HB6 := hide (((HB3.out.trans (HC6.out.mono HB3.out.size)).trans (HC7.out.mono (Nat.le_trans HB3.out.size HC6.out.size))).trans (hb5.mono (Nat.le_trans (Nat.le_trans HB3.out.size HC6.out.size) HC7.out.size)))
  clear hb5 H5
  go_wp2_with fail
  go_ret
  exact ⟨rfl, HB6.out⟩

end Go.Proofs.Ytlkfabcjknaogaa.Oct
