/- A header as its bytes: Encode. -/
import Derived.Test.YtpmljlmcfofppaaHdc
import Derived.Test.YtpmljlmcfofppaaLow
import Derived.Test.YtpmljlmcfofppaaWr
import Derived.Test.YtpmljlmcfofppaaApp
namespace Go.Proofs.Ytpmljlmcfofppaa.Oct
open Go.RowKit

theorem check_zero {h : Hd} (hc : h.check = 0) : (9 ≤ h.bits ∧ h.bits ≤ 12) ∧ (512 ≤ h.size ∧ h.size ≤ 16777216) ∧ (1 ≤ h.host ∧ h.host ≤ 8192) ∧ (0 ≤ h.journal ∧ h.journal ≤ 8192) := by
  unfold Hd.check at hc
  split at hc
  · omega
  split at hc
  · omega
  split at hc
  · omega
  rename_i h1 h2 h3
  have hl : 0 ≤ h.least := by
    unfold Hd.least
    have := h.rc_bd
    exact (upN_bd (by omega) (by have := h.cl_bd; omega)).1
  omega

/-- The header's cluster, as it is put together. -/
def encN (h : Hd) : List Int :=
  if h.backed = true then putN (putN (putN (putN (putN (putN (List.replicate h.cl.toNat 0) 0 1280591174 4) 4 h.bits 4) 8 h.size 8) 16 h.host 4) 20 h.journal 4) 24 1 4
  else putN (putN (putN (putN (putN (List.replicate h.cl.toNat 0) 0 1280591174 4) 4 h.bits 4) 8 h.size 8) 16 h.host 4) 20 h.journal 4

theorem encN_length (h : Hd) : (encN h).length = h.cl.toNat := by
  unfold encN
  split <;> simp [putN_length]

theorem put32_at (B g q : Nat) (l : List Int) (p : Nat) (v : Int) (w : World) (hq : l.length = q) (hlen : q ≤ 1000000) (hp : p + 4 ≤ q) (hown : Own w B (.slice (some ⟨g, 0, none⟩) q q) l) :
    Calls Try.prog 40 #[.slice (some ⟨g, 0, none⟩) q q, .int .i64 p, .int .u32 v] w fun e w' =>
      e = .returned (.bool true) ∧ Own w' B (.slice (some ⟨g, 0, none⟩) q q) (putN l p v 4) ∧ w.grownBy w' (some g) := by
  subst hq
  exact Put32_yes B g _ l p v w (by unfold maxLen; omega) hp hown

theorem put64_at (B g q : Nat) (l : List Int) (p : Nat) (v : Int) (w : World) (hq : l.length = q) (hlen : q ≤ 1000000) (hp : p + 8 ≤ q) (hown : Own w B (.slice (some ⟨g, 0, none⟩) q q) l) :
    Calls Try.prog 41 #[.slice (some ⟨g, 0, none⟩) q q, .int .i64 p, .int .u64 v] w fun e w' =>
      e = .returned (.bool true) ∧ Own w' B (.slice (some ⟨g, 0, none⟩) q q) (putN l p v 8) ∧ w.grownBy w' (some g) := by
  subst hq
  exact Put64_yes B g _ l p v w (by unfold maxLen; omega) hp hown

theorem Stay.grown {u u' : World} {R g : Nat} {cs : Array Value} {t : TypeId} (h : Stay u R cs t) (hg : u.grownBy u' (some g)) (hne : R ≠ g) : Stay u' R cs t :=
  (hg.block R (Array.getElem?_eq_some_iff.1 h).1 (by simpa using hne)).trans h

theorem Stay.boxA {u : World} {R : Nat} {b s o j : Int} {k : Bool} {t : TypeId} (h : Stay u R #[.int .i64 b, .int .i64 s, .int .i64 o, .int .i64 j, .bool k] t) : HBox u R b s o j k :=
  ⟨h.cell 0 _ rfl, h.cell 1 _ rfl, h.cell 2 _ rfl, h.cell 3 _ rfl, h.cell 4 _ rfl⟩

set_option maxHeartbeats 4000000 in
theorem encode_no (b s o j : Int) (k : Bool) (w : World) (hc : Hd.check ⟨b, s, o, j, k⟩ ≠ 0) : Calls Try.prog 26 #[.agg #[.int .i64 b, .int .i64 s, .int .i64 o, .int .i64 j, .bool k]] w fun e w' => e = .returned (.tuple #[.slice none 0 0, .int .i64 (Hd.check ⟨b, s, o, j, k⟩)]) ∧ Below w.heap.size w w' := by
  have HS : Hid (Stay (w.alloc (.cells #[.int .i64 b, .int .i64 s, .int .i64 o, .int .i64 j, .bool k] 23)) w.heap.size #[.int .i64 b, .int .i64 s, .int .i64 o, .int .i64 j, .bool k] 23) := hide (heap_alloc_new w (.cells #[.int .i64 b, .int .i64 s, .int .i64 o, .int .i64 j, .bool k] 23))
  have HB := hide ((Below.refl w.heap.size w).alloc (Nat.le_refl _) (.cells #[.int .i64 b, .int .i64 s, .int .i64 o, .int .i64 j, .bool k] 23))
  obtain ⟨c0, c1, c2, c3, c4⟩ := HS.out.boxA
  have HC := fun u => hide (check_any b s o j k u)
  generalize Hd.check ⟨b, s, o, j, k⟩ = c at *
  have hcb : (c != 0) = true := by simp [hc]
  clear hc
  go_enter Try.func26, Try.ntmps26
  go_wp2_with fail
  refine ((HC _).out).mono ?_
  rintro e9 w2 ⟨rfl, hb2⟩
  have HB := hide (HB.out.trans (hb2.mono HB.out.size))
  clear hb2
  go_wp2_with fail
  go_ret2
  exact ⟨rfl, HB.out⟩

set_option maxHeartbeats 4000000 in
theorem encode_yes (b s o j : Int) (k : Bool) (w : World) (hc : Hd.check ⟨b, s, o, j, k⟩ = 0) : Calls Try.prog 26 #[.agg #[.int .i64 b, .int .i64 s, .int .i64 o, .int .i64 j, .bool k]] w fun e w' => ∃ v, e = .returned (.tuple #[v, .int .i64 0]) ∧ Own w' w.heap.size v (encN ⟨b, s, o, j, k⟩) ∧ Below w.heap.size w w' := by
  have HS : Hid (Stay (w.alloc (.cells #[.int .i64 b, .int .i64 s, .int .i64 o, .int .i64 j, .bool k] 23)) w.heap.size #[.int .i64 b, .int .i64 s, .int .i64 o, .int .i64 j, .bool k] 23) := hide (heap_alloc_new w (.cells #[.int .i64 b, .int .i64 s, .int .i64 o, .int .i64 j, .bool k] 23))
  have HB := hide ((Below.refl w.heap.size w).alloc (Nat.le_refl _) (.cells #[.int .i64 b, .int .i64 s, .int .i64 o, .int .i64 j, .bool k] 23))
  obtain ⟨c0, c1, c2, c3, c4⟩ := HS.out.boxA
  have HC := fun u => hide (check_any b s o j k u)
  have HCl := fun u => hide (cluster_any b s o j k u)
  obtain ⟨⟨hb1, hb2⟩, ⟨hs1, hs2⟩, ⟨ho1, ho2⟩, hj1, hj2⟩ := check_zero hc
  dsimp only at hb1 hb2 hs1 hs2 ho1 ho2 hj1 hj2
  rw [hc] at HC
  have hcc := clN_cases b
  obtain ⟨q, hq⟩ : ∃ q : Nat, (q : Int) = clN b := ⟨(clN b).toNat, by omega⟩
  have hq2 : Hd.cl ⟨b, s, o, j, k⟩ = (q : Int) := hq.symm
  have HE : Hid (encN ⟨b, s, o, j, k⟩ = if k = true then putN (putN (putN (putN (putN (putN (List.replicate q 0) 0 1280591174 4) 4 b 4) 8 s 8) 16 o 4) 20 j 4) 24 1 4 else putN (putN (putN (putN (putN (List.replicate q 0) 0 1280591174 4) 4 b 4) 8 s 8) 16 o 4) 20 j 4) := hide (by
    unfold encN
    rw [hq2, Int.toNat_natCast])
  rw [← hq] at HCl
  have hqb : 512 ≤ q ∧ q ≤ 4096 := by omega
  clear hq hq2 hcc hc
  go_enter Try.func26, Try.ntmps26
  go_wp2_with fail
  refine ((HC _).out).mono ?_
  rintro e9 w2 ⟨rfl, hb2⟩
  have HB := hide (HB.out.trans (hb2.mono HB.out.size))
  have HS := hide (HS.out.below hb2)
  clear hb2 c0 c1 c2 c3 c4
  obtain ⟨c0, c1, c2, c3, c4⟩ := HS.out.boxA
  go_wp2_with fail
  refine ((HCl _).out).mono ?_
  rintro e9 w3 ⟨rfl, hb2⟩
  have HB := hide (HB.out.trans (hb2.mono HB.out.size))
  have HS := hide (HS.out.below hb2)
  have hsz : w.heap.size < w3.heap.size := (Array.getElem?_eq_some_iff.1 HS.out).1
  clear hb2 c0 c1 c2 c3 c4
  have hmk := run_make_bytes w3 q (by omega)
  have HO := hide (Own.made w3 q (by unfold maxLen; omega))
  have HB := hide (HB.out.alloc HB.out.size (.cells (madeCells #[.int .u8 0] q) 5))
  have HS := hide (HS.out.below ((Below.refl _ _).alloc (Nat.le_refl _) (.cells (madeCells #[.int .u8 0] q) 5)))
  obtain ⟨L0, hL0⟩ : ∃ L0 : List Int, L0 = List.replicate q 0 := ⟨_, rfl⟩
  have l0 : L0.length = q := by rw [hL0]; simp
  rw [← hL0] at HO HE
  clear hL0
  go_wp2_with fail
  generalize w3.alloc (.cells (madeCells #[.int .u8 0] q) 5) = w4 at *
  refine (put32_at _ _ q L0 0 1280591174 _ l0 (by omega) (by omega) HO.out).mono ?_
  rintro e9 w5 ⟨rfl, ho5, hg5⟩
  have HO := hide ho5
  have HB := hide (HB.out.grown hg5 HB.out.size (by intro x hx; simp at hx; omega))
  have HS := hide (HS.out.grown hg5 (by omega))
  clear ho5 hg5
  obtain ⟨L1, hL1⟩ : ∃ L1, L1 = putN L0 0 1280591174 4 := ⟨_, rfl⟩
  have l1 : L1.length = q := by rw [hL1, putN_length]; exact l0
  rw [← hL1] at HO HE
  clear hL1 l0
  obtain ⟨c0, c1, c2, c3, c4⟩ := HS.out.boxA
  go_wp2_with fail
  clear c0 c1 c2 c3 c4
  refine (put32_at _ _ q L1 4 b _ l1 (by omega) (by omega) HO.out).mono ?_
  rintro e9 w6 ⟨rfl, ho5, hg5⟩
  have HO := hide ho5
  have HB := hide (HB.out.grown hg5 HB.out.size (by intro x hx; simp at hx; omega))
  have HS := hide (HS.out.grown hg5 (by omega))
  clear ho5 hg5
  obtain ⟨L2, hL2⟩ : ∃ L2, L2 = putN L1 4 b 4 := ⟨_, rfl⟩
  have l2 : L2.length = q := by rw [hL2, putN_length]; exact l1
  rw [← hL2] at HO HE
  clear hL2 l1
  obtain ⟨c0, c1, c2, c3, c4⟩ := HS.out.boxA
  go_wp2_with fail
  clear c0 c1 c2 c3 c4
  refine (put64_at _ _ q L2 8 s _ l2 (by omega) (by omega) HO.out).mono ?_
  rintro e9 w7 ⟨rfl, ho5, hg5⟩
  have HO := hide ho5
  have HB := hide (HB.out.grown hg5 HB.out.size (by intro x hx; simp at hx; omega))
  have HS := hide (HS.out.grown hg5 (by omega))
  clear ho5 hg5
  obtain ⟨L3, hL3⟩ : ∃ L3, L3 = putN L2 8 s 8 := ⟨_, rfl⟩
  have l3 : L3.length = q := by rw [hL3, putN_length]; exact l2
  rw [← hL3] at HO HE
  clear hL3 l2
  obtain ⟨c0, c1, c2, c3, c4⟩ := HS.out.boxA
  go_wp2_with fail
  clear c0 c1 c2 c3 c4
  refine (put32_at _ _ q L3 16 o _ l3 (by omega) (by omega) HO.out).mono ?_
  rintro e9 w8 ⟨rfl, ho5, hg5⟩
  have HO := hide ho5
  have HB := hide (HB.out.grown hg5 HB.out.size (by intro x hx; simp at hx; omega))
  have HS := hide (HS.out.grown hg5 (by omega))
  clear ho5 hg5
  obtain ⟨L4, hL4⟩ : ∃ L4, L4 = putN L3 16 o 4 := ⟨_, rfl⟩
  have l4 : L4.length = q := by rw [hL4, putN_length]; exact l3
  rw [← hL4] at HO HE
  clear hL4 l3
  obtain ⟨c0, c1, c2, c3, c4⟩ := HS.out.boxA
  go_wp2_with fail
  clear c0 c1 c2 c3 c4
  refine (put32_at _ _ q L4 20 j _ l4 (by omega) (by omega) HO.out).mono ?_
  rintro e9 w9 ⟨rfl, ho5, hg5⟩
  have HO := hide ho5
  have HB := hide (HB.out.grown hg5 HB.out.size (by intro x hx; simp at hx; omega))
  have HS := hide (HS.out.grown hg5 (by omega))
  clear ho5 hg5
  obtain ⟨L5, hL5⟩ : ∃ L5, L5 = putN L4 20 j 4 := ⟨_, rfl⟩
  have l5 : L5.length = q := by rw [hL5, putN_length]; exact l4
  rw [← hL5] at HO HE
  clear hL5 l4
  obtain ⟨c0, c1, c2, c3, c4⟩ := HS.out.boxA
  have HBz := HB
  have HOz := HO
  cases k
  · go_wp2_with fail
    go_ret2
    refine ⟨_, rfl, ?_, HBz.out⟩
    have e := HE.out
    simp only [Bool.false_eq_true, if_false] at e
    rw [e]
    exact HOz.out.mono (by omega)
  · go_wp2_with fail
    refine (put32_at _ _ q L5 24 1 _ l5 (by omega) (by omega) HOz.out).mono ?_
    rintro e9 w10 ⟨rfl, ho5, hg5⟩
    have HOz := hide ho5
    have HBz := hide (HBz.out.grown hg5 HBz.out.size (by intro x hx; simp at hx; omega))
    clear ho5 hg5
    go_wp2_with fail
    go_ret2
    refine ⟨_, rfl, ?_, HBz.out⟩
    have e := HE.out
    simp only [if_true] at e
    rw [e]
    exact HOz.out.mono (by omega)

end Go.Proofs.Ytpmljlmcfofppaa.Oct
