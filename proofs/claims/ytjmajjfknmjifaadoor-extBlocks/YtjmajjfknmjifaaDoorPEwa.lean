/- The document's super: Groups, Table; a super as the document has it; is a number far? -/
import Derived.Test.YtjmajjfknmjifaaDoorPEyg
import Derived.Test.YtjmajjfknmjifaaDoorPEzd
namespace Go.Proofs.YtjmajjfknmjifaaDoor.Oct
open Go.RowKit

theorem ceil_grp (n q : Int) (hq : 1 ≤ q) : (if 0 < n % q then n / q + 1 else n / q) = (n - 1) / q + 1 := by
  have h1 := Int.emod_add_mul_ediv n q
  have h2 := Int.emod_nonneg n (show q ≠ 0 by omega)
  have h3 := Int.emod_lt_of_pos n (show 0 < q by omega)
  split
  · rename_i h
    have : (n - 1) / q = n / q := ((Int.ediv_emod_unique (a := n - 1) (b := q) (q := n / q) (r := n % q - 1) (by omega)).2 ⟨by omega, by omega, by omega⟩).1
    rw [this]
  · rename_i h
    have h0 : n % q = 0 := by omega
    have : (n - 1) / q = n / q - 1 := ((Int.ediv_emod_unique (a := n - 1) (b := q) (q := n / q - 1) (r := q - 1) (by omega)).2 ⟨by rw [Int.mul_sub]; omega, by omega, by omega⟩).1
    rw [this]
    omega

set_option maxHeartbeats 4000000 in
set_option maxRecDepth 100000 in
theorem rgrp_any (s : Sp) (w : World) (hb : -1099511627776 ≤ s.blo ∧ s.blo ≤ 1099511627776) (hp : -1099511627776 ≤ s.per ∧ s.per ≤ 1099511627776) :
    Calls Tryd.prog 40 #[.agg s.cs] w fun e w' => e = .returned (.int .i64 s.grp) ∧ Below w.heap.size w w' := by
  obtain ⟨c0, c1, c2, c3, c4, c5, c6, c7⟩ := cells_sp (Blk.new w s.cs 30)
  have HB := hide ((Below.refl w.heap.size w).alloc (Nat.le_refl _) (.cells s.cs 30))
  obtain ⟨n, hn⟩ : ∃ n, n = max s.blo 2 - 1 := ⟨_, rfl⟩
  obtain ⟨q, hq⟩ : ∃ q, q = max s.per 1 := ⟨_, rfl⟩
  have hg : s.grp = (if 0 < n % q then n / q + 1 else n / q) := by rw [ceil_grp n q (by omega)]; unfold Sp.grp; rw [hn, hq]
  have hd0 : 0 ≤ n / q := Int.ediv_nonneg (by omega) (by omega)
  have hd1 := Int.ediv_le_self q (a := n) (by omega)
  have hm0 := Int.emod_nonneg n (show q ≠ 0 by omega)
  have hm1 := Int.emod_lt_of_pos n (show 0 < q by omega)
  have e1 : n.tdiv q = n / q := Int.tdiv_eq_ediv_of_nonneg (by omega)
  have e2 : n.tmod q = n % q := Int.tmod_eq_emod_of_nonneg (by omega)
  obtain ⟨D, hD⟩ : ∃ D, D = n / q := ⟨_, rfl⟩
  obtain ⟨M, hM⟩ : ∃ M, M = n % q := ⟨_, rfl⟩
  rw [← hD] at hd0 hd1 e1 hg
  rw [← hM] at hm0 hm1 e2 hg
  have w1 : IntKind.i64.wrap (n.tdiv q) = D := by rw [e1, IntKind.wrap_i64]; omega
  have w2 : IntKind.i64.wrap (n.tmod q) = M := by rw [e2, IntKind.wrap_i64]; omega
  have w3 : IntKind.i64.wrap (D + 1) = D + 1 := by rw [IntKind.wrap_i64]; omega
  have w4 : IntKind.i64.wrap (s.blo - 1) = s.blo - 1 := by rw [IntKind.wrap_i64]; omega
  have w5 : n % q = M := hM.symm
  have hq0 : ¬ q = 0 := by omega
  obtain ⟨r, hr⟩ : ∃ r, r = s.grp := ⟨_, rfl⟩
  rw [← hr] at hg ⊢
  have HG := hide hg
  have HGr := hide hr
  clear e1 e2 hD hM hd0 hd1 hm1 hr hg
  by_cases h1 : s.per < 1
  · have hq1 : q = 1 := by omega
    have hr1 : r = n := by rw [HGr.out]; unfold Sp.grp; rw [← hq, hq1, Int.ediv_one]; omega
    clear w1 w2 w5
    by_cases h2 : s.blo - 1 < 1
    · have hn1 : n = 1 := by omega
      rw [hr1, hn1]
      clear hn hb hp hm0 hq hq1 hn1 hr1 hq0 w3
      go_enter Tryd.func40, Tryd.ntmps40
      go_wp2_with fail
      go_ret
      exact ⟨rfl, HB.out⟩
    · have hn1 : n = s.blo - 1 := by omega
      rw [hr1, hn1]
      clear hn hb hp hm0 hq hq1 hn1 hr1 hq0 w3
      go_enter Tryd.func40, Tryd.ntmps40
      go_wp2_with fail
      go_ret
      exact ⟨rfl, HB.out⟩
  · have hq1 : q = s.per := by omega
    subst hq1
    clear hq
    by_cases h2 : s.blo - 1 < 1
    · have hn1 : n = 1 := by omega
      subst hn1
      by_cases h3 : 0 < M
      · have HM := hide h3
        clear hn hb hp hm0
        go_enter Tryd.func40, Tryd.ntmps40
        go_wp2_with fail
        go_ret
        exact ⟨by rw [HG.out, if_pos HM.out]; rfl, HB.out⟩
      · have HM := hide h3
        clear hn hb hp hm0
        go_enter Tryd.func40, Tryd.ntmps40
        go_wp2_with fail
        go_ret
        exact ⟨by rw [HG.out, if_neg (by have := HM.out; omega)]; rfl, HB.out⟩
    · have hn1 : n = s.blo - 1 := by omega
      subst hn1
      by_cases h3 : 0 < M
      · have HM := hide h3
        clear hn hb hp hm0
        go_enter Tryd.func40, Tryd.ntmps40
        go_wp2_with fail
        go_ret
        exact ⟨by rw [HG.out, if_pos HM.out]; rfl, HB.out⟩
      · have HM := hide h3
        clear hn hb hp hm0
        go_enter Tryd.func40, Tryd.ntmps40
        go_wp2_with fail
        go_ret
        exact ⟨by rw [HG.out, if_neg (by have := HM.out; omega)]; rfl, HB.out⟩

set_option maxHeartbeats 2000000 in
theorem rtab_any (s : Sp) (w : World) (he : -1099511627776 ≤ s.each ∧ s.each ≤ 1099511627776) :
    Calls Tryd.prog 41 #[.agg s.cs] w fun e w' => e = .returned (.int .i64 s.tab) ∧ Below w.heap.size w w' := by
  obtain ⟨c0, c1, c2, c3, c4, c5, c6, c7⟩ := cells_sp (Blk.new w s.cs 30)
  have HB := hide ((Below.refl w.heap.size w).alloc (Nat.le_refl _) (.cells s.cs 30))
  have e1 : (s.each * 128).tdiv 1024 = s.tab := by
    have h := Int.mul_tdiv_mul_of_pos_left s.each (b := 128) 8 (by omega)
    exact h
  have hb : -1099511627776 ≤ s.tab ∧ s.tab ≤ 1099511627776 := by
    unfold Sp.tab
    rcases Int.le_total 0 s.each with h | h
    · rw [Int.tdiv_eq_ediv_of_nonneg h]
      omega
    · have e : s.each = -(-s.each) := by omega
      rw [e, Int.neg_tdiv, Int.tdiv_eq_ediv_of_nonneg (by omega)]
      omega
  have w1 : IntKind.i64.wrap (s.each * 128) = s.each * 128 := by rw [IntKind.wrap_i64]; omega
  have w2 : IntKind.i64.wrap ((s.each * 128).tdiv 1024) = s.tab := by rw [e1, IntKind.wrap_i64]; omega
  obtain ⟨z, hz⟩ : ∃ z, z = s.tab := ⟨_, rfl⟩
  rw [← hz] at w2 ⊢
  clear e1 hb hz he
  go_enter Tryd.func41, Tryd.ntmps41
  go_wp2_with fail
  go_ret
  exact ⟨rfl, HB.out⟩

theorem ret_rsp1 {fn : Func} {p : Tmp} (hr : fn.results = #[.cell p 30]) (tmps : Array Value) (w : World) (R : Nat) (s : Sp)
    (hp : tmps.getD p undef = .pointer (some ⟨R, 0, none⟩)) (hs : Blk w R s.cs 30) :
    (results fn tmps).run Tryd.prog w = .ok (.agg s.cs) w :=
  results_cell_row hr tmps w R 30 _ (0, 0) _ hp hs Tryd.underlying30 rfl (by kernel_rfl)

/-- A number that isn't far. -/
def nearN (x : Int) : Prop := -1099511627776 ≤ x ∧ x ≤ 1099511627776

def Sp.all (s : Sp) : Prop := nearN s.ino ∧ nearN s.blo ∧ nearN s.fbl ∧ nearN s.fin ∧ nearN s.per ∧ nearN s.each ∧ nearN s.first

set_option maxHeartbeats 4000000 in
set_option maxRecDepth 100000 in
theorem efar_any (s : Sp) (w : World) :
    Calls Tryd.prog 6 #[.agg s.cs] w fun e w' => (∃ r, e = .returned (.bool r) ∧ (r = false → s.all)) ∧ Below w.heap.size w w' := by
  obtain ⟨c0, c1, c2, c3, c4, c5, c6, c7⟩ := cells_sp (Blk.new w s.cs 23)
  obtain ⟨L, hL⟩ : ∃ L, L = [s.ino, s.blo, s.fbl, s.fin, s.per, s.each, s.first] := ⟨_, rfl⟩
  obtain ⟨w1, hw1⟩ : ∃ w1, w1 = w.alloc (.cells s.cs 23) := ⟨_, rfl⟩
  obtain ⟨w2, hw2⟩ : ∃ w2, w2 = w1.alloc (.cells #[.int .i64 s.ino, .int .i64 s.blo, .int .i64 s.fbl, .int .i64 s.fin, .int .i64 s.per, .int .i64 s.each, .int .i64 s.first] 2) := ⟨_, rfl⟩
  have hb1 : Below w.heap.size w w1 := by rw [hw1]; exact (Below.refl _ _).alloc (Nat.le_refl _) _
  have hb2 : Below w.heap.size w w2 := by rw [hw2]; exact hb1.alloc hb1.size _
  obtain ⟨H, hH⟩ : ∃ H, H = w.heap.size + 1 := ⟨_, rfl⟩
  have hs1 : w1.heap.size = H := by rw [hw1, hH]; simp
  have HC : ∀ k, k < 7 → Hid (w2.cell? ⟨H, k, none⟩ = some (.int .i64 (L.getD k 0))) := fun k hk => hide (by
    have h := Blk.new w1 #[.int .i64 s.ino, .int .i64 s.blo, .int .i64 s.fbl, .int .i64 s.fin, .int .i64 s.per, .int .i64 s.each, .int .i64 s.first] 2
    rw [← hw2, hs1] at h
    have : k = 0 ∨ k = 1 ∨ k = 2 ∨ k = 3 ∨ k = 4 ∨ k = 5 ∨ k = 6 := by omega
    rw [hL]
    rcases this with rfl | rfl | rfl | rfl | rfl | rfl | rfl <;> exact h.cell _ _ rfl)
  have HAll : (∀ j, j < 7 → nearN (L.getD j 0)) → s.all := fun h => by
    rw [hL] at h
    exact ⟨h 0 (by omega), h 1 (by omega), h 2 (by omega), h 3 (by omega), h 4 (by omega), h 5 (by omega), h 6 (by omega)⟩
  have HB := hide hb2
  have HW := hide (show w2 = (w.alloc (.cells s.cs 23)).alloc (.cells #[.int .i64 s.ino, .int .i64 s.blo, .int .i64 s.fbl, .int .i64 s.fin, .int .i64 s.per, .int .i64 s.each, .int .i64 s.first] 2) by rw [hw2, hw1])
  have HH := hide hH
  have HA := hide HAll
  clear hb1 hb2 hs1 hw1 hw2 hH hL HAll
  go_enter Tryd.func6, Tryd.ntmps6
  go_wp2_with fail
  rw [← HW.out, ← HH.out]
  clear c0 c1 c2 c3 c4 c5 c6 c7
  go_loopw [21] (fun i wr => ∃ k : Nat, k ≤ 7 ∧ i = .int .i64 (k : Int) ∧ (∀ j, j < k → nearN (L.getD j 0)) ∧ wr = w2) (fun i _ => 7 - (intOf i).toNat)
  case atStart => exact ⟨0, by omega, rfl, fun j hj => by omega, rfl⟩
  case round =>
    obtain ⟨k, hk, rfl, hno, hw⟩ := hrel
    rw [hw]
    clear hw
    have HNo := hide hno
    clear hno
    by_cases hlt : k < 7
    · have c := (HC k hlt).out
      have hltI : (k : Int) < 7 := by omega
      have q1 : IntKind.i64.wrap ((k : Int) + 1) = (k : Int) + 1 := by rw [IntKind.wrap_i64]; omega
      have HX : Hid (nearN (L.getD k 0) → ∀ j, j < k + 1 → nearN (L.getD j 0)) := hide (fun h j hj => by
        by_cases e : j = k
        · rw [e]; exact h
        · exact HNo.out j (by omega))
      have HJ := hide hlt
      generalize L.getD k 0 = x at *
      clear hk hlt
      by_cases g1 : 1099511627776 < x
      · have d1 : decide (1099511627776 < x) = true := by simpa using g1
        clear g1
        go_wp2_with fail
        go_ret
        exact ⟨⟨true, rfl, fun e => by cases e⟩, HB.out⟩
      have d1 : decide (1099511627776 < x) = false := by simpa using g1
      by_cases g2 : x < -1099511627776
      · have d2 : decide (x < -1099511627776) = true := by simpa using g2
        clear g1 g2
        go_wp2_with fail
        go_ret
        exact ⟨⟨true, rfl, fun e => by cases e⟩, HB.out⟩
      have d2 : decide (x < -1099511627776) = false := by simpa using g2
      have HY := hide (HX.out ⟨by omega, by omega⟩)
      clear g1 g2
      go_wp2_with fail
      go_roundw
      case rel => exact ⟨k + 1, by have := HJ.out; omega, by push_cast; rfl, HY.out, by first | rfl | trivial⟩
      case measure => have := HJ.out; simp [intOf]; omega
    · obtain rfl : k = 7 := by omega
      have HY := hide (HA.out HNo.out)
      go_wp2_with fail
      go_ret
      exact ⟨⟨false, rfl, fun _ => HY.out⟩, HB.out⟩

set_option maxHeartbeats 4000000 in
set_option maxRecDepth 100000 in
theorem eof_any (s : Sp) (w : World) :
    Calls Tryd.prog 10 #[.agg s.cs] w fun e w' => e = .returned (.agg s.cs) ∧ Below w.heap.size w w' := by
  have hb1 : Below w.heap.size w (w.alloc (.cells s.cs 23)) := (Below.refl _ _).alloc (Nat.le_refl _) _
  have hk : Blk ((w.alloc (.cells s.cs 23)).alloc (.cells s.cs 30)) (w.heap.size + 1) s.cs 30 := by
    have h := Blk.new (w.alloc (.cells s.cs 23)) s.cs 30
    rw [show (w.alloc (.cells s.cs 23)).heap.size = w.heap.size + 1 by simp] at h
    exact h
  have HK := hide hk
  have HB := hide (hb1.alloc hb1.size (.cells s.cs 30))
  obtain ⟨c0, c1, c2, c3, c4, c5, c6, c7⟩ := cells_sp ((Blk.new w s.cs 23).below ((Below.refl _ _).alloc (Nat.le_refl _) (.cells Sp.z.cs 30)))
  clear hb1 hk
  go_enter Tryd.func10, Tryd.ntmps10
  go_wp2_with fail
  exact bodyPost_ret (ret_rsp1 rfl _ _ (w.heap.size + 1) s rfl HK.out) rfl ⟨rfl, HB.out⟩
end Go.Proofs.YtjmajjfknmjifaaDoor.Oct
