/- A volume is made, of any size: Make. -/
import Derived.Test.YtcbbaoiefdbcpaaDoorPLst
import Derived.Test.YtcbbaoiefdbcpaaDoorPFnx
import Derived.Test.YtcbbaoiefdbcpaaDoorPFpv
namespace Go.Proofs.YtcbbaoiefdbcpaaDoor.Oct
open Go.RowKit

theorem Zeros_big (n : Nat) (w : World) (hn : n ≤ 2000000) :
    Calls Tryd.prog 36 #[.int .i64 n] w fun e w' => ∃ v, e = .returned v ∧ Own w' w.heap.size v (List.replicate n 0) ∧ Below w.heap.size w w' := by
  have hmk := run_make_bytes w n (by omega)
  have ho := Own.made w n (by unfold maxLen; omega)
  have HO := hide ho
  clear ho
  go_enter Tryd.func36, Tryd.ntmps36
  go_wp2
  go_ret
  exact ⟨.slice (some ⟨_, 0, none⟩) n n, rfl, HO.out, (Below.refl _ _).alloc (Nat.le_refl _) _⟩

set_option maxHeartbeats 1000000 in
/-- Bytes, others in the place of some. -/
theorem With_big (b off cap : Nat) (l : List Int) (a' : Option Addr) (cap' : Nat) (m : List Int) (p : Nat) (w : World) (hlen : l.length ≤ 2000000) (hlen' : m.length ≤ 2000000) (hpos : 0 < l.length) (hfit : p + m.length ≤ l.length)
    (hcap : l.length ≤ cap) (hl : Lies w (some ⟨b, off, none⟩) l) (hl' : Lies w a' m) :
    Calls Tryd.prog 16 #[.slice (some ⟨b, off, none⟩) l.length cap, .int .i64 p, .slice a' m.length cap'] w fun e w' => ∃ v, e = .returned v ∧ Own w' w.heap.size v (over l p m) ∧ Below w.heap.size w w' := by
  have h1 : Lies w (some ⟨b, off, none⟩) (l.take p) := by have := hl.of_part 0 p; simpa using this
  have e1 : (l.take p).length = p := by simp; omega
  have H1 := hide h1
  have H2 := hide hl'
  have H3 := hide hl
  have HE1 := hide e1
  clear h1 hl hl' e1
  by_cases hrest : p + m.length < l.length
  · go_enter Tryd.func16, Tryd.ntmps16
    go_wp2_with (first
      | (at_builtin; refine wpList_append_bytes rfl _ _ 26 rfl Tryd.underlying26 info5 w.heap.size _ [] rfl (Own.nil _ _) _ _ _ (l.take p) rfl HE1.out.symm (by exact H1.out) (by rw [HE1.out]; simp; omega) (by exact Nat.le_refl _) ?_; intro v1 w1 ho1 hg1; have HB1 := hide (Own.behind (Own.nil _ _) (Below.refl _ _) hg1 (Nat.le_refl _)); clear hg1)
      | (at_builtin; refine wpList_append_bytes rfl _ _ 26 rfl Tryd.underlying26 info5 w.heap.size _ ([] ++ l.take p) rfl ho1 _ _ _ m rfl rfl (by exact H2.out.below HB1.out) (by rw [List.nil_append, HE1.out]; omega) (by exact HB1.out.size) ?_; intro v2 w2 ho2 hg2; have HB2 := hide (Own.behind ho1 HB1.out hg2 HB1.out.size); clear hg2)
      | (at_builtin; refine wpList_append_bytes rfl _ _ 26 rfl Tryd.underlying26 info5 w.heap.size _ ([] ++ l.take p ++ m) rfl ho2 _ _ _ ((l.drop (p + m.length)).take (l.length - (p + m.length))) rfl (by simp) (by exact (H3.out.of_part (p + m.length) (l.length - (p + m.length))).below HB2.out) (by simp; omega) (by exact HB2.out.size) ?_; intro v3 w3 ho3 hg3; have HB3 := hide (Own.behind ho2 HB2.out hg3 HB2.out.size); clear hg3))
    go_ret
    refine ⟨_, rfl, ?_, HB3.out⟩
    have e : over l p m = [] ++ l.take p ++ m ++ (l.drop (p + m.length)).take (l.length - (p + m.length)) := by
      have e0 : (l.drop (p + m.length)).take (l.length - (p + m.length)) = l.drop (p + m.length) := List.take_of_length_le (by simp)
      rw [e0]
      simp [over]
    rw [e]
    exact ho3
  · go_enter Tryd.func16, Tryd.ntmps16
    go_wp2_with (first
      | (at_builtin; refine wpList_append_bytes rfl _ _ 26 rfl Tryd.underlying26 info5 w.heap.size _ [] rfl (Own.nil _ _) _ _ _ (l.take p) rfl HE1.out.symm (by exact H1.out) (by rw [HE1.out]; simp; omega) (by exact Nat.le_refl _) ?_; intro v1 w1 ho1 hg1; have HB1 := hide (Own.behind (Own.nil _ _) (Below.refl _ _) hg1 (Nat.le_refl _)); clear hg1)
      | (at_builtin; refine wpList_append_bytes rfl _ _ 26 rfl Tryd.underlying26 info5 w.heap.size _ ([] ++ l.take p) rfl ho1 _ _ _ m rfl rfl (by exact H2.out.below HB1.out) (by rw [List.nil_append, HE1.out]; omega) (by exact HB1.out.size) ?_; intro v2 w2 ho2 hg2; have HB2 := hide (Own.behind ho1 HB1.out hg2 HB1.out.size); clear hg2)
      | (at_builtin; refine wpList_append_bytes rfl _ _ 26 rfl Tryd.underlying26 info5 w.heap.size _ ([] ++ l.take p ++ m) rfl ho2 _ _ _ [] rfl (by simp; omega) (by exact Lies.nil _ _) (by simp; omega) (by exact HB2.out.size) ?_; intro v3 w3 ho3 hg3; have HB3 := hide (Own.behind ho2 HB2.out hg3 HB2.out.size); clear hg3))
    all_goals
      go_ret
      refine ⟨_, rfl, ?_, HB3.out⟩
      have e : over l p m = [] ++ l.take p ++ m ++ [] := by
        simp [over]
        omega
      rw [e]
      exact ho3

set_option maxHeartbeats 1000000 in
/-- Bytes are put over others of an own row. -/
theorem Patch_big (B g cap : Nat) (l : List Int) (a' : Option Addr) (cap' : Nat) (m : List Int) (p : Nat) (w : World) (hlen : l.length ≤ 2000000) (hcap : l.length ≤ cap) (hm : m ≠ []) (hp : p + m.length ≤ l.length)
    (hown : Own w B (.slice (some ⟨g, 0, none⟩) l.length cap) l) (hl' : Lies w a' m) :
    Calls Tryd.prog 42 #[.slice (some ⟨g, 0, none⟩) l.length cap, .int .i64 p, .slice a' m.length cap'] w fun e w' =>
      e = .returned (.bool true) ∧ Own w' B (.slice (some ⟨g, 0, none⟩) l.length cap) (over l p m) ∧ w.grownBy w' (some g) := by
  have hpos : 0 < m.length := List.length_pos_iff.2 hm
  obtain ⟨w1, hrun, ho, hg⟩ := run_copy_part (P := Tryd.prog) (dT := 26) (sT := 26) (ty := 3) Tryd.underlying26 size5 w B g p l.length cap (l.length - p) (cap - p) m.length cap' (some ⟨g, p, none⟩) a'
    m l hown rfl hl' (fun _ => rfl) (Nat.min_eq_left (by omega)).symm hp
  have HO := hide ho
  have HG := hide hg
  clear hown hl' ho hg hm
  go_enter Tryd.func42, Tryd.ntmps42
  go_wp2_with (go_at_call 57; refine (there_yes _ _ _ _ _ _ (by unfold maxLen; omega) (by omega) (by omega) (by omega)).mono ?_; rintro e w' ⟨rfl, rfl⟩)
  go_ret
  exact ⟨rfl, HO.out, HG.out⟩
end Go.Proofs.YtcbbaoiefdbcpaaDoor.Oct

namespace Go.Proofs.YtcbbaoiefdbcpaaDoor.Oct
open Go.RowKit

/-- A size that is none: Make. -/
theorem make_off (s e : Int) (w : World) (h : witN 16 32768 s = false ∨ witN 1 8 e = false) :
    Calls Tryd.prog 18 #[.int .i64 s, .int .i64 e] w fun e w' => e = .returned (.tuple #[.slice none 0 0, .int .i64 4]) ∧ w' = w := by
  have HWi := fun x y n u => hide (within_any x y n u)
  cases hw0 : witN 16 32768 s
  · clear h
    go_enter Tryd.func18, Tryd.ntmps18
    go_wp2_with fail
    refine (HWi _ _ _ _).out.mono ?_
    rintro e9 w3 ⟨rfl, h3⟩
    rw [h3, hw0]
    clear h3
    go_wp2_with fail
    go_ret2
    exact ⟨rfl, rfl⟩
  · have hw1 : witN 1 8 e = false := h.resolve_left (by rw [hw0]; simp)
    clear h
    go_enter Tryd.func18, Tryd.ntmps18
    go_wp2_with fail
    refine (HWi _ _ _ _).out.mono ?_
    rintro e9 w3 ⟨rfl, h3⟩
    rw [h3, hw0]
    clear h3
    go_wp2_with fail
    refine (HWi _ _ _ _).out.mono ?_
    rintro e9 w3 ⟨rfl, h3⟩
    rw [h3, hw1]
    clear h3
    go_wp2_with fail
    go_ret2
    exact ⟨rfl, rfl⟩

/-- The arithmetic of Make. -/
theorem lg_steps {s e : Nat} (h2 : s ≤ 2000) : IntKind.i64.wrap ((s : Int).tdiv (e : Int)) = ((s / e : Nat) : Int) ∧ IntKind.i64.wrap (((s / e : Nat) : Int) + 2) = ((s / e : Nat) : Int) + 2 ∧ IntKind.i64.wrap (((s / e : Nat) : Int) + 2 + 128) = ((s / e : Nat) : Int) + 2 + 128 ∧ IntKind.i64.wrap (((s / e : Nat) : Int) + 2 + 128 - 1) = ((s / e : Nat) : Int) + 2 + 128 - 1 ∧ IntKind.i64.wrap ((((s / e : Nat) : Int) + 2 + 128 - 1).tdiv 128) = (lgM s e : Int) := by
  have hq : s / e ≤ s := Nat.div_le_self _ _
  have hd : (s : Int).tdiv (e : Int) = ((s / e : Nat) : Int) := by rw [Int.tdiv_eq_ediv_of_nonneg (by omega)]; rfl
  rw [hd]
  unfold lgM
  generalize s / e = q at *
  refine ⟨by rw [IntKind.wrap_i64]; omega, by rw [IntKind.wrap_i64]; omega, by rw [IntKind.wrap_i64]; omega, by rw [IntKind.wrap_i64]; omega, ?_⟩
  rw [Int.tdiv_eq_ediv_of_nonneg (by omega), IntKind.wrap_i64]
  omega

theorem patchN (B g N p : Nat) (l m : List Int) (a' : Option Addr) (c' : Nat) (u : World) (hl : l.length = N) (hN : N ≤ 2000000) (hm : m.length = 512) (hp : p + 512 ≤ N) (hown : Own u B (.slice (some ⟨g, 0, none⟩) N N) l) (hlm : Lies u a' m) :
    Calls Tryd.prog 42 #[.slice (some ⟨g, 0, none⟩) N N, .int .i64 (p : Int), .slice a' 512 c'] u fun e w' => (∃ v, e = .returned v) ∧ Own w' B (.slice (some ⟨g, 0, none⟩) N N) (over l p m) ∧ u.grownBy w' (some g) := by
  have h := Patch_big B g N l a' c' m p u (by rw [hl]; exact hN) (by rw [hl]; exact Nat.le_refl _) (by intro e; rw [e] at hm; simp at hm) (by rw [hm, hl]; exact hp) (by rw [hl]; exact hown) hlm
  rw [hl, hm] at h
  exact h.mono fun e w' ⟨h1, h2, h3⟩ => ⟨⟨_, h1⟩, h2, h3⟩

theorem begin_t12 (B g n : Nat) (l : List Int) (s : Int) (p : Nat) (w : World) (hn : l.length = n) (hn2 : n ≤ 1000000000) (hs : IntKind.i64.wrap (s * 512) = (p : Int)) (hp : p + 12 ≤ n) (hown : Own w B (.slice (some ⟨g, 0, none⟩) n n) l) :
    Calls Tryd.prog 43 #[.slice (some ⟨g, 0, none⟩) n n, .int .i64 s] w fun e w' => (∃ v, e = .returned v) ∧ Own w' B (.slice (some ⟨g, 0, none⟩) n n) (over l p t12) ∧ Chg (fun k => some k = some g) w w' := by
  have h := begin_ok B g n l s p w hn hn2 hs hp hown
  rw [begL_t12 l p (by omega)] at h
  exact h

set_option maxHeartbeats 8000000 in
set_option maxRecDepth 100000 in
theorem make_core (s e : Nat) (h1 : 16 ≤ s) (h2 : s ≤ 2000) (e1 : 1 ≤ e) (e2 : e ≤ 8) (S E Q L K : Int) (N : Nat) (hS : S = (s : Int)) (hE : E = (e : Int)) (hQ : Q = ((s / e : Nat) : Int)) (hL : L = (lgM s e : Int)) (hN : N = 512 * s) (hbm : bM s e = Bt.mk E 4 2 S L 2 1 2) (hk : (Bt.mk E 4 2 S L 2 1 2).chk = 0) (hK : K = (Bt.mk E 4 2 S L 2 1 2).clus) (w : World) (hV : Vars w) :
    Calls Tryd.prog 18 #[.int .i64 S, .int .i64 E] w fun e' w' => (∃ g, e' = .returned (.tuple #[.slice (some ⟨g, 0, none⟩) N N, .int .i64 0]) ∧ Own w' w.heap.size (.slice (some ⟨g, 0, none⟩) N N) (m5 s e)) ∧ Below w.heap.size w w' := by
  have HWi := fun x y n u => hide (within_any x y n u)
  obtain ⟨q1, q2, q3, q4, q5⟩ := lg_steps (s := s) (e := e) h2
  rw [← hS, ← hE, ← hQ] at q1
  rw [← hQ] at q2 q3 q4 q5
  rw [← hL] at q5
  have hlg := lg_says h1 h2 e1 e2
  have hw0 : witN 16 32768 S = true := by simp [witN]; omega
  have hw1 : witN 1 8 E = true := by simp [witN]; omega
  have hE0 : ¬ E = 0 := by omega
  have hEb : (E == 0) = false := by simpa using hE0
  have hcs := chk_says hk
  have hcl := (Bt.clus_says hcs.1)
  have hcl1 := hcs.2.1
  rw [← hK] at hcl hcl1
  have HNe := hide (Bt.form_near hcs.1).1
  have k1 : IntKind.i64.wrap (K - 1) = K - 1 := by rw [IntKind.wrap_i64]; omega
  have n1 : IntKind.i64.wrap (S * 512) = (N : Int) := by rw [IntKind.wrap_i64]; omega
  have l1 : IntKind.i64.wrap L = L := by rw [IntKind.wrap_i64]; omega
  have l2 : IntKind.i64.wrap (4 + L) = 4 + L := by rw [IntKind.wrap_i64]; omega
  have HNum := hide (show N = 512 * s ∧ 16 ≤ s ∧ s ≤ 2000 ∧ L = (lgM s e : Int) ∧ 4 + 2 * lgM s e < s ∧ 1 ≤ lgM s e ∧ 1 ≤ K ∧ K ≤ 32768 from ⟨hN, h1, h2, hL, hlg.2.1, hlg.1, by omega, by omega⟩)
  have HF : Hid (fM s e = putB (Bt.mk E 4 2 S L 2 1 2) (List.replicate 512 0)) := hide (by unfold fM; rw [hbm])
  have HC : Hid (cM s e = cntP (K - 1) 3) := hide (by unfold cM; rw [hbm, hK])
  have HE5 := hide (And.intro e1 e2)
  obtain ⟨w1, hw1'⟩ : ∃ w1, w1 = (w.alloc (.cells #[.int .i64 E, .int .i64 4, .int .i64 2, .int .i64 S, .int .i64 L, .int .i64 2, .int .i64 1, .int .i64 2] 63)) := ⟨_, rfl⟩
  have hb1 : Below w.heap.size w w1 := by rw [hw1']; exact (Below.refl _ _).alloc (Nat.le_refl _) _
  have hs1 : w1.heap.size = w.heap.size + 1 := by rw [hw1']; simp
  have HI1 := hide (show Blk w1 w.heap.size #[.int .i64 E, .int .i64 4, .int .i64 2, .int .i64 S, .int .i64 L, .int .i64 2, .int .i64 1, .int .i64 2] 63 by rw [hw1']; exact Blk.new _ _ _)
  have hmk := run_make_bytes w1 512 (by omega)
  have ho2 := Own.made w1 512 (by unfold maxLen; omega)
  obtain ⟨w2, hw2⟩ : ∃ w2, w2 = w1.alloc (.cells (madeCells #[.int .u8 0] 512) 5) := ⟨_, rfl⟩
  rw [← hw2] at hmk ho2
  have hb2 : Below w1.heap.size w1 w2 := by rw [hw2]; exact (Below.refl _ _).alloc (Nat.le_refl _) _
  have hmk2 : (Instr.makeSlice 26 (.int .i64 512) (.int .i64 512)).run Tryd.prog w1 = .ok (.slice (some ⟨w1.heap.size, 0, none⟩) 512 512) w2 := hmk
  have hV2 : Vars w2 := (hV.below hb1).below hb2
  have h1w : 1 < w1.heap.size := by
    have h1 := lt_of_cell (hV.1 0 (by omega)).1
    have h2 := lt_of_cell (hV.2 0 (by omega)).1
    omega
  have HPt := hide (put_yes (Bt.mk E 4 2 S L 2 1 2) w1.heap.size w1.heap.size 512 (List.replicate 512 0) w2 hV2 List.length_replicate (by rw [hw2]; simp) h1w hk ho2)
  have HI2 := hide (HI1.out.below hb2)
  have HB2 := hide (hb1.trans (hb2.mono hb1.size))
  have HV2 := hide hV2
  have HS1 := hide hs1
  have H1w := hide h1w
  have hmkw : (Instr.makeSlice 26 (.int .i64 512) (.int .i64 512)).run Tryd.prog (w.alloc (.cells #[.int .i64 E, .int .i64 4, .int .i64 2, .int .i64 S, .int .i64 L, .int .i64 2, .int .i64 1, .int .i64 2] 63)) = .ok (.slice (some ⟨w1.heap.size, 0, none⟩) 512 512) w2 := by rw [← hw1']; exact hmk2
  have HKc := hide hK
  clear hmk ho2 hb2 hw2 hV2 hV hw1' hb1 hmk2 hs1 h1w hcs hcl hcl1 hlg hk hK hbm hS hE hQ hL hN h1 h2 e1 e2
  go_enter Tryd.func18, Tryd.ntmps18
  go_wp2_with fail
  refine (HWi _ _ _ _).out.mono ?_
  rintro e9 w3 ⟨rfl, h3⟩
  rw [h3, hw0]
  clear h3
  go_wp2_with fail
  refine (HWi _ _ _ _).out.mono ?_
  rintro e9 w3 ⟨rfl, h3⟩
  rw [h3, hw1]
  clear h3 hw0 hw1
  have d0 := HI2.out.cell 0 _ rfl
  have d1 := HI2.out.cell 1 _ rfl
  have d2 := HI2.out.cell 2 _ rfl
  have d3 := HI2.out.cell 3 _ rfl
  have d4 := HI2.out.cell 4 _ rfl
  have d5 := HI2.out.cell 5 _ rfl
  have d6 := HI2.out.cell 6 _ rfl
  have d7 := HI2.out.cell 7 _ rfl
  go_wp2_with fail
  clear d0 d1 d2 d3 d4 d5 d6 d7 hmkw
  refine HPt.out.mono ?_
  rintro e9 w4 ⟨rfl, ho4, hc4⟩
  have hs1 := HS1.out
  have h1w := H1w.out
  have HI4 := hide (HI2.out.chg hc4 (fun e => by have := Option.some.inj e; omega))
  have HB4 := hide (HB2.out.trans (Chg.below w.heap.size hc4 HB2.out.size (fun i hi e => by have := Option.some.inj e; omega)))
  have HV4 := hide (HV2.out.chg hc4 (fun e => by have := Option.some.inj e; omega) (fun e => by have := Option.some.inj e; omega))
  have HO4 := hide (show Own w4 w1.heap.size (.slice (some ⟨w1.heap.size, 0, none⟩) 512 512) (fM s e) by rw [HF.out]; exact ho4)
  have HCl : ∀ u, Hid (Calls Tryd.prog 20 #[.agg #[.int .i64 E, .int .i64 4, .int .i64 2, .int .i64 S, .int .i64 L, .int .i64 2, .int .i64 1, .int .i64 2]] u fun e w' => e = .returned (.int .i64 K) ∧ Below u.heap.size u w') := fun u => hide (by
    have h := clus_any (Bt.mk E 4 2 S L 2 1 2) u HNe.out
    rw [← HKc.out] at h
    exact h)
  have HPc : ∀ u, Vars u → Hid (Calls Tryd.prog 41 #[.agg #[.int .i64 (K - 1), .int .i64 3]] u fun e' w' => (∃ v, e' = .returned (.tuple #[v, .int .i64 0]) ∧ Own w' u.heap.size v (cM s e)) ∧ Below u.heap.size u w') := fun u hv => hide (by
    have h := putc_any (K - 1) 3 u hv
    have hnn := HNum.out
    have hif : (witN 0 4294967295 (K - 1) && witN 0 4294967295 3) = true := by simp [witN]; omega
    rw [HC.out]
    exact h.mono fun e w' ⟨h1, h2⟩ => ⟨by rw [if_pos hif] at h1; exact h1, h2⟩)
  clear ho4 hc4 HPt HI2 HB2 HV2 hs1 h1w
  have HI := hide HI4.out.drew
  have HO := hide HO4.out.drew
  have HB := hide HB4.out.drew
  have HV := hide (show Vars w4.drew from HV4.out)
  obtain ⟨e0, e1, e2, e3, e4, e5, e6, e7⟩ : w4.cell? ⟨w.heap.size, 0, none⟩ = some (.int .i64 E) ∧ w4.cell? ⟨w.heap.size, 1, none⟩ = some (.int .i64 4) ∧ w4.cell? ⟨w.heap.size, 2, none⟩ = some (.int .i64 2) ∧ w4.cell? ⟨w.heap.size, 3, none⟩ = some (.int .i64 S) ∧ w4.cell? ⟨w.heap.size, 4, none⟩ = some (.int .i64 L) ∧ w4.cell? ⟨w.heap.size, 5, none⟩ = some (.int .i64 2) ∧ w4.cell? ⟨w.heap.size, 6, none⟩ = some (.int .i64 1) ∧ w4.cell? ⟨w.heap.size, 7, none⟩ = some (.int .i64 2) := ⟨HI4.out.cell 0 _ rfl, HI4.out.cell 1 _ rfl, HI4.out.cell 2 _ rfl, HI4.out.cell 3 _ rfl, HI4.out.cell 4 _ rfl, HI4.out.cell 5 _ rfl, HI4.out.cell 6 _ rfl, HI4.out.cell 7 _ rfl⟩
  have hsb : w4.drew.cell? ⟨w.heap.size, 0, none⟩ = some (.int .i64 E) ∧ w4.drew.cell? ⟨w.heap.size, 1, none⟩ = some (.int .i64 4) ∧ w4.drew.cell? ⟨w.heap.size, 2, none⟩ = some (.int .i64 2) ∧ w4.drew.cell? ⟨w.heap.size, 3, none⟩ = some (.int .i64 S) ∧ w4.drew.cell? ⟨w.heap.size, 4, none⟩ = some (.int .i64 L) ∧ w4.drew.cell? ⟨w.heap.size, 5, none⟩ = some (.int .i64 2) ∧ w4.drew.cell? ⟨w.heap.size, 6, none⟩ = some (.int .i64 1) ∧ w4.drew.cell? ⟨w.heap.size, 7, none⟩ = some (.int .i64 2) := ⟨HI.out.cell 0 _ rfl, HI.out.cell 1 _ rfl, HI.out.cell 2 _ rfl, HI.out.cell 3 _ rfl, HI.out.cell 4 _ rfl, HI.out.cell 5 _ rfl, HI.out.cell 6 _ rfl, HI.out.cell 7 _ rfl⟩
  go_wp2_with fail
  go_region_held3 (fun u => u.cell? ⟨w.heap.size, 0, none⟩ = some (.int .i64 E) ∧ u.cell? ⟨w.heap.size, 1, none⟩ = some (.int .i64 4) ∧ u.cell? ⟨w.heap.size, 2, none⟩ = some (.int .i64 2) ∧ u.cell? ⟨w.heap.size, 3, none⟩ = some (.int .i64 S) ∧ u.cell? ⟨w.heap.size, 4, none⟩ = some (.int .i64 L) ∧ u.cell? ⟨w.heap.size, 5, none⟩ = some (.int .i64 2) ∧ u.cell? ⟨w.heap.size, 6, none⟩ = some (.int .i64 1) ∧ u.cell? ⟨w.heap.size, 7, none⟩ = some (.int .i64 2)) (first | go_keep | exact hsb | exact hsc | exact hsd) (first
    | (go_at_call 20; refine ((HCl _).out).mono ?_; rintro e9 w8 ⟨rfl, hb8⟩; have HI := hide (HI.out.below hb8); have HO := hide (HO.out.below hb8); have HV := hide (HV.out.below hb8); have HB := hide (HB.out.trans (hb8.mono HB.out.size)); have hsc : w8.cell? ⟨w.heap.size, 0, none⟩ = some (.int .i64 E) ∧ w8.cell? ⟨w.heap.size, 1, none⟩ = some (.int .i64 4) ∧ w8.cell? ⟨w.heap.size, 2, none⟩ = some (.int .i64 2) ∧ w8.cell? ⟨w.heap.size, 3, none⟩ = some (.int .i64 S) ∧ w8.cell? ⟨w.heap.size, 4, none⟩ = some (.int .i64 L) ∧ w8.cell? ⟨w.heap.size, 5, none⟩ = some (.int .i64 2) ∧ w8.cell? ⟨w.heap.size, 6, none⟩ = some (.int .i64 1) ∧ w8.cell? ⟨w.heap.size, 7, none⟩ = some (.int .i64 2) := ⟨HI.out.cell 0 _ rfl, HI.out.cell 1 _ rfl, HI.out.cell 2 _ rfl, HI.out.cell 3 _ rfl, HI.out.cell 4 _ rfl, HI.out.cell 5 _ rfl, HI.out.cell 6 _ rfl, HI.out.cell 7 _ rfl⟩; clear hb8)
    | (go_at_call 41; refine ((HPc _ HV.out).out).mono ?_; rintro e9 w7 ⟨⟨v7, rfl, ho7⟩, hb8⟩; have HI := hide (HI.out.below hb8); have HO := hide (HO.out.below hb8); have HB7 := hide (HB.out.trans (hb8.mono HB.out.size)); have HO7 := hide ho7; have hsd : w7.cell? ⟨w.heap.size, 0, none⟩ = some (.int .i64 E) ∧ w7.cell? ⟨w.heap.size, 1, none⟩ = some (.int .i64 4) ∧ w7.cell? ⟨w.heap.size, 2, none⟩ = some (.int .i64 2) ∧ w7.cell? ⟨w.heap.size, 3, none⟩ = some (.int .i64 S) ∧ w7.cell? ⟨w.heap.size, 4, none⟩ = some (.int .i64 L) ∧ w7.cell? ⟨w.heap.size, 5, none⟩ = some (.int .i64 2) ∧ w7.cell? ⟨w.heap.size, 6, none⟩ = some (.int .i64 1) ∧ w7.cell? ⟨w.heap.size, 7, none⟩ = some (.int .i64 2) := ⟨HI.out.cell 0 _ rfl, HI.out.cell 1 _ rfl, HI.out.cell 2 _ rfl, HI.out.cell 3 _ rfl, HI.out.cell 4 _ rfl, HI.out.cell 5 _ rfl, HI.out.cell 6 _ rfl, HI.out.cell 7 _ rfl⟩; clear hb8 ho7))
  all_goals
    have hN := HNum.out.1
    have h16 := HNum.out.2.1
    have h20 := HNum.out.2.2.1
    obtain ⟨a7, c7, hv7, hl7, _, _, hx7⟩ := HO7.out.form
    rw [cM_len] at hv7
    subst hv7
    obtain ⟨g7, ha7, _, hg7⟩ := hx7.2 (by intro e9; have := cM_len s e; rw [e9] at this; simp at this)
    have hmk := run_make_bytes w7 N (by omega)
    have ho8 := Own.made w7 N (by unfold maxLen; omega)
    obtain ⟨x0, hx0⟩ : ∃ x0, x0 = w7.alloc (.cells (madeCells #[.int .u8 0] N) 5) := ⟨_, rfl⟩
    rw [← hx0] at hmk ho8
    have hb8 : Below w7.heap.size w7 x0 := by rw [hx0]; exact (Below.refl _ _).alloc (Nat.le_refl _) _
    have hmk2 : (Instr.makeSlice 26 (.int .i64 (N : Int)) (.int .i64 (N : Int))).run Tryd.prog w7 = .ok (.slice (some ⟨w7.heap.size, 0, none⟩) N N) x0 := hmk
    have HQ0 := hide (show Own x0 w7.heap.size (.slice (some ⟨w7.heap.size, 0, none⟩) N N) (m0 s e) by unfold m0; rw [← hN]; exact ho8)
    have hf7 : Lies w7 (some ⟨w1.heap.size, 0, none⟩) (fM s e) := Lies.mk (Own.lies (B := w1.heap.size) (cap := 512) (by rw [fM_len]; exact HO.out))
    have HN7 := hide (show w.heap.size < w7.heap.size from HI.out.lt)
    have hw17 : w1.heap.size < w7.heap.size := (World.ownsRow.lt HO.out w1.heap.size rfl).2
    have HN8 := hide (show ∀ z : Addr, some (⟨w1.heap.size, 0, none⟩ : Addr) = some z ∨ a7 = some z → z.block < w7.heap.size from fun z hz => by
      rcases hz with hz | hz
      · cases hz; exact hw17
      · rw [ha7] at hz; cases hz; exact hg7)
    have HF0 := hide (hf7.below hb8)
    have HC0 := hide (hl7.below hb8)
    have HI0x := hide (HI.out.below hb8)
    have HB0x := hide (HB7.out.trans (hb8.mono HB7.out.size))
    have HL0 := hide (show (m0 s e).length = N by rw [m0_len]; omega)
    have HL1 := hide (show (m1 s e).length = N by rw [m1_len h16]; omega)
    have HL2 := hide (show (m2 s e).length = N by rw [m2_len h16]; omega)
    have HL3 := hide (show (m3 s e).length = N by rw [m3_len h16]; omega)
    have HL4 := hide (show (m4 s e).length = N by rw [m4_len h16]; omega)
    have HN2 := hide (show N ≤ 2000000 ∧ 8192 ≤ N by omega)
    clear hmk ho8 hx0 hb8 hf7 hl7 hx7 hw17 hg7 ha7 HO HO7 e0 e1 e2 e3 e4 e5 e6 e7 hsb hsc hsd hN h16 h20
    have HP0 := hide (patchN w7.heap.size w7.heap.size N 0 (m0 s e) (fM s e) (some ⟨w1.heap.size, 0, none⟩) 512 x0 HL0.out HN2.out.1 (fM_len s e) (by have := HN2.out.2; omega) HQ0.out HF0.out)
    push_cast at HP0
    go_wp2_with fail
    refine (HP0.out).mono ?_
    rintro e9 x1 ⟨⟨vv0, rfl⟩, ho1, hg1⟩
    have HQ1 := hide (show Own x1 w7.heap.size (.slice (some ⟨w7.heap.size, 0, none⟩) N N) (m1 s e) from ho1)
    have HI1x := hide (HI0x.out.chg (Chg.of_grown hg1) (fun e => by have := Option.some.inj e; have := HN7.out; omega))
    have HF1 := hide (HF0.out.chg (Chg.of_grown hg1) (fun z hz e => by have h1 := Option.some.inj e; have h2 := HN8.out z (Or.inl hz); omega))
    have HC1 := hide (HC0.out.chg (Chg.of_grown hg1) (fun z hz e => by have h1 := Option.some.inj e; have h2 := HN8.out z (Or.inr hz); omega))
    have HB1x := hide (HB0x.out.trans (Chg.below w.heap.size (Chg.of_grown hg1) HB0x.out.size (fun i hi e => by have := Option.some.inj e; have := HN7.out; omega)))
    clear ho1 hg1
    have HP1 := hide (patchN w7.heap.size w7.heap.size N 512 (m1 s e) (cM s e) a7 c7 x1 HL1.out HN2.out.1 (cM_len s e) (by have := HN2.out.2; omega) HQ1.out HC1.out)
    push_cast at HP1
    go_wp2_with fail
    refine (HP1.out).mono ?_
    rintro e9 x2 ⟨⟨vv1, rfl⟩, ho2, hg2⟩
    have HQ2 := hide (show Own x2 w7.heap.size (.slice (some ⟨w7.heap.size, 0, none⟩) N N) (m2 s e) from ho2)
    have HI2x := hide (HI1x.out.chg (Chg.of_grown hg2) (fun e => by have := Option.some.inj e; have := HN7.out; omega))
    have HF2 := hide (HF1.out.chg (Chg.of_grown hg2) (fun z hz e => by have h1 := Option.some.inj e; have h2 := HN8.out z (Or.inl hz); omega))
    have HC2 := hide (HC1.out.chg (Chg.of_grown hg2) (fun z hz e => by have h1 := Option.some.inj e; have h2 := HN8.out z (Or.inr hz); omega))
    have HB2x := hide (HB1x.out.trans (Chg.below w.heap.size (Chg.of_grown hg2) HB1x.out.size (fun i hi e => by have := Option.some.inj e; have := HN7.out; omega)))
    clear ho2 hg2
    have HP2 := hide (patchN w7.heap.size w7.heap.size N 1024 (m2 s e) (fM s e) (some ⟨w1.heap.size, 0, none⟩) 512 x2 HL2.out HN2.out.1 (fM_len s e) (by have := HN2.out.2; omega) HQ2.out HF2.out)
    push_cast at HP2
    go_wp2_with fail
    refine (HP2.out).mono ?_
    rintro e9 x3 ⟨⟨vv2, rfl⟩, ho3, hg3⟩
    have HQ3 := hide (show Own x3 w7.heap.size (.slice (some ⟨w7.heap.size, 0, none⟩) N N) (m3 s e) from ho3)
    have HI3x := hide (HI2x.out.chg (Chg.of_grown hg3) (fun e => by have := Option.some.inj e; have := HN7.out; omega))
    have HF3 := hide (HF2.out.chg (Chg.of_grown hg3) (fun z hz e => by have h1 := Option.some.inj e; have h2 := HN8.out z (Or.inl hz); omega))
    have HC3 := hide (HC2.out.chg (Chg.of_grown hg3) (fun z hz e => by have h1 := Option.some.inj e; have h2 := HN8.out z (Or.inr hz); omega))
    have HB3x := hide (HB2x.out.trans (Chg.below w.heap.size (Chg.of_grown hg3) HB2x.out.size (fun i hi e => by have := Option.some.inj e; have := HN7.out; omega)))
    clear ho3 hg3
    have d2 := HI3x.out.cell 2 _ rfl
    go_wp2_with fail
    clear d2
    go_loopw [67] (fun i wr => (i = .int .i64 0 ∧ Own wr w7.heap.size (.slice (some ⟨w7.heap.size, 0, none⟩) N N) (m3 s e) ∨ i = .int .i64 1 ∧ Own wr w7.heap.size (.slice (some ⟨w7.heap.size, 0, none⟩) N N) (m4 s e) ∨ i = .int .i64 2 ∧ Own wr w7.heap.size (.slice (some ⟨w7.heap.size, 0, none⟩) N N) (m5 s e)) ∧ Blk wr w.heap.size #[.int .i64 E, .int .i64 4, .int .i64 2, .int .i64 S, .int .i64 L, .int .i64 2, .int .i64 1, .int .i64 2] 63 ∧ Below w.heap.size w wr) (fun i _ => 2 - (intOf i).toNat)
    case atStart => exact ⟨Or.inl ⟨rfl, HQ3.out⟩, HI3x.out, HB3x.out⟩
    case round =>
      obtain ⟨hj, hk, hb⟩ := hrel
      have HIr := hide hk
      have HBr := hide hb
      clear hk hb
      rcases hj with ⟨rfl, ho⟩ | ⟨rfl, ho⟩ | ⟨rfl, ho⟩
      · have HBg := hide (begin_t12 w7.heap.size w7.heap.size N (m3 s e) 4 2048 wr HL3.out (by have := HN2.out; omega) (by decide) (by have := HN2.out; omega) ho)
        have e1 := HIr.out.cell 1 _ rfl
        have e4 := HIr.out.cell 4 _ rfl
        clear ho
        go_wp2_with fail
        refine (HBg.out).mono ?_
        rintro e9 y1 ⟨⟨vb, rfl⟩, ho9, hc9⟩
        have HQ9 := hide (show Own y1 w7.heap.size (.slice (some ⟨w7.heap.size, 0, none⟩) N N) (m4 s e) from ho9)
        have HI9 := hide (HIr.out.chg hc9 (fun e => by have := Option.some.inj e; have := HN7.out; omega))
        have HB9 := hide (HBr.out.trans (Chg.below w.heap.size hc9 HBr.out.size (fun i hi e => by have := Option.some.inj e; have := HN7.out; omega)))
        clear ho9 hc9 e1 e4
        go_wp2_with fail
        go_roundw
        case rel => exact ⟨Or.inr (Or.inl ⟨by go_num, HQ9.out⟩), HI9.out, HB9.out⟩
        case measure => simp [intOf]
      · have HBg := hide (begin_t12 w7.heap.size w7.heap.size N (m4 s e) (4 + L) (2048 + 512 * lgM s e) wr HL4.out (by have := HN2.out; omega) (by have := HNum.out; rw [IntKind.wrap_i64]; omega) (by have := HNum.out; omega) ho)
        have e1 := HIr.out.cell 1 _ rfl
        have e4 := HIr.out.cell 4 _ rfl
        clear ho
        go_wp2_with fail
        refine (HBg.out).mono ?_
        rintro e9 y1 ⟨⟨vb, rfl⟩, ho9, hc9⟩
        have HQ9 := hide (show Own y1 w7.heap.size (.slice (some ⟨w7.heap.size, 0, none⟩) N N) (m5 s e) from ho9)
        have HI9 := hide (HIr.out.chg hc9 (fun e => by have := Option.some.inj e; have := HN7.out; omega))
        have HB9 := hide (HBr.out.trans (Chg.below w.heap.size hc9 HBr.out.size (fun i hi e => by have := Option.some.inj e; have := HN7.out; omega)))
        clear ho9 hc9 e1 e4
        go_wp2_with fail
        go_roundw
        case rel => exact ⟨Or.inr (Or.inr ⟨by go_num, HQ9.out⟩), HI9.out, HB9.out⟩
        case measure => simp [intOf]
      · have HQ := hide ho
        clear ho
        go_wp2_with fail
        go_ret2
        exact ⟨⟨w7.heap.size, rfl, HQ.out.mono (Nat.le_of_lt HN7.out)⟩, HBr.out⟩
end Go.Proofs.YtcbbaoiefdbcpaaDoor.Oct
