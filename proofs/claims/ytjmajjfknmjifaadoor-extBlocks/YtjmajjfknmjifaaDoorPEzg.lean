/- Are no two of some numbers one? -/
import Derived.Test.YtjmajjfknmjifaaDoorPEzd
import Derived.Test.YtjmajjfknmjifaaDoorPEyp
import Derived.Test.YtjmajjfknmjifaaDoorPShsort
import Derived.Sort.OwnSortedInts
import Derived.Lib.SliceRun
namespace Go.Proofs.YtjmajjfknmjifaaDoor.Oct
open Go.RowKit Go.Deep Go.Sort

theorem OwnZ.form {w : World} {B : Nat} {v : Value} {l : List Int} (h : OwnZ w B v l) (hne : l ≠ []) : ∃ g c, v = .slice (some ⟨g, 0, none⟩) l.length c ∧ CellsAt w g (l.map (Value.int .i64)) ∧ B ≤ g := by
  have h0 := h
  rcases h.2 with ⟨rfl, hn⟩ | ⟨g, cap, cur, rfl, hb, hh, h1, h2, h3, h4⟩
  · exact absurd (List.length_eq_zero_iff.1 hn) hne
  · refine ⟨g, cap, rfl, fun k v hk => ?_, hb⟩
    have hc := World.ownsRow.cells (g := g) h0 rfl k v hk
    rw [Go.WideShapes.add_plain, Nat.zero_add] at hc
    exact hc

theorem sort_Z (w : World) (B : Nat) (v : Value) (L : List Int) (h : OwnZ w B v L) (hl : L.length ≤ 8192) :
    Calls Tryd.prog 84 #[v] w fun e w' => e = .returned (.tuple #[]) ∧ OwnZ w' B v (L.mergeSort (fun x y => decide (x ≤ y))) ∧ w.grownBy w' v.ownBlock := by
  have h0 := h
  rcases h.2 with ⟨rfl, hn⟩ | ⟨g, cap, cur, rfl, hb, hh, h1, h2, h3, h4⟩
  · have : L = [] := List.length_eq_zero_iff.1 hn
    subst this
    have hc := AnyM.slices_Sort_int_none Tryd.sortI none 0 w
    change Calls Tryd.prog 84 _ _ _ at hc
    refine hc.mono ?_
    rintro e w' ⟨rfl, rfl⟩
    exact ⟨rfl, by simpa using (show OwnZ _ B (.slice none 0 0) [] from World.ownsRow_nil _ _ _ _), ⟨rfl, rfl, rfl, Nat.le_refl _, fun _ _ _ => rfl⟩⟩
  · have hlt := (Array.getElem?_eq_some_iff.1 hh).1
    have hH : Holds (Value.int .i64) w g 0 L.toArray := holds_of_blockI hh (by simpa using h4)
    have hc := AnyM.slices_Sort_int Tryd.sortI g 0 cap L w hH hlt (by omega)
    change Calls Tryd.prog 84 _ _ _ at hc
    refine hc.mono ?_
    rintro e w' ⟨rfl, n, os, rfl⟩
    have hlen : (L.mergeSort (fun x y => decide (x ≤ y))).length = L.length := List.length_mergeSort _
    refine ⟨rfl, ?_, grownBy_sortedI _⟩
    unfold OwnZ
    rw [hlen]
    exact ownsRow_sortedI (cur := cur) hlen hb hh h1 h2 h3

theorem OwnZ.empty (w : World) : OwnZ (w.alloc (.cells #[] 2)) w.heap.size (.slice (some ⟨w.heap.size, 0, none⟩) 0 0) [] :=
  ⟨rfl, Or.inr ⟨w.heap.size, 0, #[], rfl, Nat.le_refl _, heap_alloc_new w _, Nat.le_refl _, by unfold maxLen; omega, rfl, rfl⟩⟩

set_option maxHeartbeats 2000000 in
set_option maxRecDepth 100000 in
theorem cloneZ_any (w : World) (g cap : Nat) (L : List Int) (hL : CellsAt w g (L.map (Value.int .i64))) (hn : L.length ≤ 1000000) :
    Calls Tryd.prog 83 #[.slice (some ⟨g, 0, none⟩) L.length cap] w fun e w' => ∃ v, e = .returned v ∧ OwnZ w' w.heap.size v L ∧ Below w.heap.size w w' := by
  obtain ⟨i64i, hi64, hz64, hs64, hy64⟩ := info_parts info_z64
  obtain ⟨w1, hw1⟩ : ∃ w1, w1 = w.alloc (.cells #[] 2) := ⟨_, rfl⟩
  have hb1 : Below w.heap.size w w1 := by rw [hw1]; exact (Below.refl _ _).alloc (Nat.le_refl _) _
  have hq := fun u : World => Lib.run_eql_slice_nil u 42 2 (some ⟨g, 0, none⟩) L.length cap 0 0 Tryd.underlying42
  have HL := hide (hL.below hb1)
  have HO := hide (show OwnZ w1 w.heap.size (.slice (some ⟨w.heap.size, 0, none⟩) 0 0) [] by rw [hw1]; exact OwnZ.empty w)
  have HB := hide hb1
  have HN := hide hn
  have HW := hide hw1
  clear hL hn hb1 hw1
  go_enter Tryd.func83, Tryd.ntmps83
  go_wp2_with (rw [← HW.out]; refine wpList_append_own_at _ (by rfl) _ _ 42 (by rfl) w.heap.size 2 i64i (.int .i64 0) 1 8 Tryd.underlying42 hi64 hz64 hs64 hy64 rfl (by decide) _ 0 [] (by rfl) HO.out ⟨g, 0, none⟩ L.length cap (L.map (Value.int .i64)) (by rfl) (by simp) (fun j u hu => by rw [Go.WideShapes.add_plain, Nat.zero_add]; exact HL.out j u hu) (by simp [Value.oneCell']) (by have := HN.out; unfold maxLen; omega) (by have := HN.out; omega) HB.out.size ?_; intro v9 w9 ho9 hg9 _ _)
  go_ret
  refine ⟨_, rfl, ?_, ?_⟩
  · unfold OwnZ
    simpa using ho9
  · exact HB.out.grown hg9 HB.out.size (fun k hk => by simp [Value.ownBlock] at hk; omega)

set_option maxHeartbeats 4000000 in
set_option maxRecDepth 100000 in
theorem compact_yes (w : World) (g cap : Nat) (L : List Int) (hL : CellsAt w g (L.map (Value.int .i64))) (hn : L.length ≤ 1000000) (hd : ∀ k, k + 1 < L.length → L.getD (k + 1) 0 ≠ L.getD k 0) :
    Calls Tryd.prog 85 #[.slice (some ⟨g, 0, none⟩) L.length cap] w fun e w' => e = .returned (.slice (some ⟨g, 0, none⟩) L.length cap) ∧ Below w.heap.size w w' := by
  have HL := fun k (hk : k < L.length) => hide (show w.cell? ⟨g, k, none⟩ = some (.int .i64 (L.getD k 0)) from hL k _ (by simp [hk]))
  have HD := fun k hk => hide (hd k hk)
  obtain ⟨n, hN⟩ : ∃ n, n = L.length := ⟨_, rfl⟩
  rw [← hN] at HL HD hn ⊢
  clear hL hd hN
  by_cases h2 : n < 2
  · have h2I : (n : Int) < 2 := by omega
    go_enter Tryd.func85, Tryd.ntmps85
    go_wp2_with fail
    go_ret
    exact ⟨rfl, Below.refl _ _⟩
  have h2I : ¬ (n : Int) < 2 := by omega
  go_enter Tryd.func85, Tryd.ntmps85
  go_wp2_with fail
  go_loopw [3] (fun i wr => ∃ (K j : Nat), K = j + 1 ∧ K ≤ n ∧ i = .int .i64 (K : Int) ∧ Below w.heap.size w wr) (fun i _ => n - (intOf i).toNat)
  case atStart => exact ⟨1, 0, rfl, by omega, rfl, Below.refl _ _⟩
  case round =>
    obtain ⟨K, j, hKj, hK, rfl, hb⟩ := hrel
    have HB := hide hb
    by_cases hlt : K < n
    · have c0 := (hb.cell (p := ⟨g, K, none⟩) (lt_of_cell (HL K hlt).out)).trans (HL K hlt).out
      have c1 := (hb.cell (p := ⟨g, j, none⟩) (lt_of_cell (HL j (by omega)).out)).trans (HL j (by omega)).out
      have hne := (HD j (by omega)).out
      rw [← hKj] at hne
      generalize L.getD K 0 = x at *
      generalize L.getD j 0 = y at *
      have hnb : (x == y) = false := by simpa using hne
      have q1 : IntKind.i64.wrap ((K : Int) - 1) = (j : Int) := by rw [IntKind.wrap_i64]; omega
      have q2 : IntKind.i64.wrap ((K : Int) + 1) = (K : Int) + 1 := by rw [IntKind.wrap_i64]; omega
      have hltI : (K : Int) < (n : Int) := by omega
      have hltJ : (j : Int) < (n : Int) := by omega
      have HJ := hide (And.intro hlt hKj)
      clear hb hKj hK hn
      go_wp2_with fail
      refine wp_region_held_drew (S := (fun u => u.cell? ⟨g, K, none⟩ = some (.int .i64 x) ∧ u.cell? ⟨g, j, none⟩ = some (.int .i64 y))) (by kernel_rfl) ⟨c0, c1⟩ (fun _ => ?_)
      refine any_take 0 (some 16) (.slice (some ⟨g, 0, none⟩) n cap) rfl rfl (by kernel_rfl) (by kernel_rfl) (by kernel_rfl) (fun _ _ _ h => h) (by rfl) ⟨c0, c1⟩ ?_ ?_
      · intro w hSw
        obtain ⟨s0, s1⟩ := hSw
        go_simp
      simp only [Act.put, List.setIfInBounds_toArray, List.set_cons_zero, List.set_cons_succ]
      refine any_take 1 (some 17) (.int .i64 (K : Int)) rfl rfl (by kernel_rfl) (by kernel_rfl) (by kernel_rfl) (fun _ _ _ h => h) (by rfl) ⟨c0, c1⟩ ?_ ?_
      · intro w hSw
        obtain ⟨s0, s1⟩ := hSw
        go_simp
      simp only [Act.put, List.setIfInBounds_toArray, List.set_cons_zero, List.set_cons_succ]
      refine any_take 2 (some 18) (.pointer (some ⟨g, K, none⟩)) rfl rfl (by kernel_rfl) (by kernel_rfl) (by kernel_rfl) (fun _ _ _ h => h) (by rfl) ⟨c0, c1⟩ ?_ ?_
      · intro w hSw
        obtain ⟨s0, s1⟩ := hSw
        go_simp
      simp only [Act.put, List.setIfInBounds_toArray, List.set_cons_zero, List.set_cons_succ]
      refine any_take 3 (some 19) (.int .i64 x) rfl rfl (by kernel_rfl) (by kernel_rfl) (by kernel_rfl) (fun _ _ _ h => h) (by rfl) ⟨c0, c1⟩ ?_ ?_
      · intro w hSw
        obtain ⟨s0, s1⟩ := hSw
        go_simp
      simp only [Act.put, List.setIfInBounds_toArray, List.set_cons_zero, List.set_cons_succ]
      refine any_take 4 (some 20) (.slice (some ⟨g, 0, none⟩) n cap) rfl rfl (by kernel_rfl) (by kernel_rfl) (by kernel_rfl) (fun _ _ _ h => h) (by rfl) ⟨c0, c1⟩ ?_ ?_
      · intro w hSw
        obtain ⟨s0, s1⟩ := hSw
        go_simp
      simp only [Act.put, List.setIfInBounds_toArray, List.set_cons_zero, List.set_cons_succ]
      refine any_take 5 (some 21) (.int .i64 (K : Int)) rfl rfl (by kernel_rfl) (by kernel_rfl) (by kernel_rfl) (fun _ _ _ h => h) (by rfl) ⟨c0, c1⟩ ?_ ?_
      · intro w hSw
        obtain ⟨s0, s1⟩ := hSw
        go_simp
      simp only [Act.put, List.setIfInBounds_toArray, List.set_cons_zero, List.set_cons_succ]
      refine any_take 6 (some 22) (.int .i64 (j : Int)) rfl rfl (by kernel_rfl) (by kernel_rfl) (by kernel_rfl) (fun _ _ _ h => h) (by rfl) ⟨c0, c1⟩ ?_ ?_
      · intro w hSw
        obtain ⟨s0, s1⟩ := hSw
        go_simp
      simp only [Act.put, List.setIfInBounds_toArray, List.set_cons_zero, List.set_cons_succ]
      refine any_take 7 (some 23) (.pointer (some ⟨g, j, none⟩)) rfl rfl (by kernel_rfl) (by kernel_rfl) (by kernel_rfl) (fun _ _ _ h => h) (by rfl) ⟨c0, c1⟩ ?_ ?_
      · intro w hSw
        obtain ⟨s0, s1⟩ := hSw
        go_simp
      simp only [Act.put, List.setIfInBounds_toArray, List.set_cons_zero, List.set_cons_succ]
      refine any_take 8 (some 24) (.int .i64 y) rfl rfl (by kernel_rfl) (by kernel_rfl) (by kernel_rfl) (fun _ _ _ h => h) (by rfl) ⟨c0, c1⟩ ?_ ?_
      · intro w hSw
        obtain ⟨s0, s1⟩ := hSw
        go_simp
      simp only [Act.put, List.setIfInBounds_toArray, List.set_cons_zero, List.set_cons_succ]
      refine any_take 9 (some 25) (.bool false) rfl rfl (by kernel_rfl) (by kernel_rfl) (by kernel_rfl) (fun _ _ _ h => h) (by rfl) ⟨c0, c1⟩ ?_ ?_
      · intro w hSw
        obtain ⟨s0, s1⟩ := hSw
        go_simp
      simp only [Act.put, List.setIfInBounds_toArray, List.set_cons_zero, List.set_cons_succ]
      refine wpAnyH_done (by kernel_rfl) ?_ _
      go_wp2_with fail
      go_roundw
      case rel => exact ⟨K + 1, K, rfl, by have := HJ.out; omega, by push_cast; rfl, HB.out.drew⟩
      case measure => have := HJ.out; simp [intOf]; omega
    · have hge : ¬ (K : Int) < (n : Int) := by omega
      clear hb
      go_wp2_with fail
      go_ret
      exact ⟨rfl, HB.out⟩

set_option maxHeartbeats 2000000 in
set_option maxRecDepth 100000 in
/-- Numbers that rise. -/
theorem differ_yes (w : World) (g cap : Nat) (L : List Int) (hL : CellsAt w g (L.map (Value.int .i64))) (hn : L.length ≤ 8192) (hne : L ≠ []) (hs : L.mergeSort (fun x y => decide (x ≤ y)) = L) (hd : ∀ k, k + 1 < L.length → L.getD (k + 1) 0 ≠ L.getD k 0) :
    Calls Tryd.prog 76 #[.slice (some ⟨g, 0, none⟩) L.length cap] w fun e w' => e = .returned (.bool true) ∧ Below w.heap.size w w' := by
  have HC := hide (cloneZ_any w g cap L hL (by omega))
  have HS := fun u B v h => hide (sort_Z u B v L h hn)
  rw [hs] at HS
  have HK := fun u g c h => hide (compact_yes u g c L h (by omega) hd)
  have HF := fun {u : World} {B : Nat} {v : Value} (h : OwnZ u B v L) => h.form hne
  obtain ⟨n, hN⟩ : ∃ n, n = L.length := ⟨_, rfl⟩
  rw [← hN] at HC HK HF ⊢
  clear hL hn hne hs hd hN
  go_enter Tryd.func76, Tryd.ntmps76
  go_wp2_with fail
  refine HC.out.mono ?_
  rintro e9 w1 ⟨v, rfl, ho, hb⟩
  have HO := hide ho
  have HB := hide hb
  have HS1 := HS w1 _ v ho
  clear ho hb
  go_wp2_with fail
  refine HS1.out.mono ?_
  rintro e9 w2 ⟨rfl, ho2, hg2⟩
  have hb2 := HB.out.grown hg2 HB.out.size (fun k hk => (World.ownsRow.lt HO.out k hk).1)
  obtain ⟨g2, c2, rfl, hc2, _⟩ := HF ho2
  have HB2 := hide hb2
  have HK2 := HK w2 g2 c2 hc2
  clear ho2 hg2 hb2 hc2
  go_wp2_with fail
  refine HK2.out.mono ?_
  rintro e9 w3 ⟨rfl, hb3⟩
  have HB3 := hide (HB2.out.trans (hb3.mono HB2.out.size))
  clear hb3
  go_wp2_with fail
  go_ret
  exact ⟨rfl, HB3.out⟩
end Go.Proofs.YtjmajjfknmjifaaDoor.Oct
