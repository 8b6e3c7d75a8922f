/- What the statements of the counts begin with. -/
import Derived.Test.YtiokjlckngkhnaaGreatPRfk
import Derived.Test.YtiokjlckngkhnaaGreatPRfnRfw
import Derived.Test.YtiokjlckngkhnaaGreatPLstTxbTak
namespace Go.Proofs.YtiokjlckngkhnaaGreat.Oct
open Go.RowKit Go.Deep

def Bx8 (u : World) (P H : Nat) : Prop := u.heap[P]? = some (.cells #[.int .i64 9, .int .i64 32768, .int .i64 (H : Int), .int .i64 29, .bool false] 25 (0, 0))
theorem Bx8.lt {u : World} {P H : Nat} (h : Bx8 u P H) : P < u.heap.size := (Array.getElem?_eq_some_iff.1 h).1
theorem Bx8.below {u u' : World} {P H : Nat} (h : Bx8 u P H) (hb : Below u.heap.size u u') : Bx8 u' P H := (hb.block P h.lt).trans h
theorem Bx8.drew {u : World} {P H : Nat} (h : Bx8 u P H) : Bx8 u.drew P H := h
theorem Bx8.cell {u : World} {P H : Nat} (h : Bx8 u P H) : u.cell? ⟨P, 0, none⟩ = some (.int .i64 9) ∧ u.cell? ⟨P, 1, none⟩ = some (.int .i64 32768) ∧ u.cell? ⟨P, 2, none⟩ = some (.int .i64 (H : Int)) ∧ u.cell? ⟨P, 3, none⟩ = some (.int .i64 29) ∧ u.cell? ⟨P, 4, none⟩ = some (.bool false) := by
  unfold Bx8 at h
  simp [World.cell?, h]
theorem Bx8.grown {u u' : World} {P H g : Nat} (h : Bx8 u P H) (hg : u.grownBy u' (some g)) (hne : g ≠ P) : Bx8 u' P H := (hg.block P h.lt (by simpa using fun e => hne e.symm)).trans h

theorem journal9 (H : Nat) (w : World) : Calls Tryz.prog 14 #[.agg #[.int .i64 9, .int .i64 32768, .int .i64 (H : Int), .int .i64 29, .bool false]] w fun e w' => e = .returned (.agg #[.int .i64 512, .int .i64 15360]) ∧ Below w.heap.size w w' := by
  refine (JournalAt_any 9 32768 H 29 false w).mono ?_
  rintro e9 w2 ⟨rfl, hb⟩
  have e1 : Hd.at_ ⟨9, 32768, (H : Int), 29, false⟩ 1 * clN 9 = 512 := by simp [Hd.at_, clN]
  have e2 : Hd.at_ ⟨9, 32768, (H : Int), 29, false⟩ 2 * clN 9 = 15360 := by simp [Hd.at_, Hd.jour, clN, cutN]
  rw [e1, e2]
  exact ⟨rfl, hb⟩

/-- The bytes with the first k counts. -/
def Cts (l : List Int) (k : Nat) : Prop := ∀ x, l.getD x 0 = if 15360 ≤ x ∧ x < 15360 + 2 * k ∧ x % 2 = 0 then 1 else 0

theorem Cts.more {l : List Int} {k : Nat} (h : Cts l k) (hl : 15360 + 2 * k < l.length) : Cts (l.set (15360 + 2 * k) 1) (k + 1) := by
  intro x
  rw [getD_set _ _ _ _ hl]
  by_cases hx : x = 15360 + 2 * k
  · subst hx
    rw [if_pos (by first | rfl | trivial | omega), if_pos (by omega)]
  · rw [if_neg (by omega), h x]
    by_cases hc : 15360 ≤ x ∧ x < 15360 + 2 * k ∧ x % 2 = 0
    · rw [if_pos hc, if_pos (by omega)]
    · rw [if_neg hc, if_neg (by omega)]

set_option maxRecDepth 100000 in
set_option maxHeartbeats 8000000 in
theorem begun8_any (H : Nat) (hH0 : 40 ≤ H) (hH : H < 100) (w : World) : Calls Tryz.prog 6 #[.agg #[.int .i64 9, .int .i64 32768, .int .i64 (H : Int), .int .i64 29, .bool false]] w fun e w' => ∃ T J F S, e = .returned (.tuple #[.pointer (some ⟨F, 0, none⟩), .pointer (some ⟨T, 0, none⟩), .bool true]) ∧ List.length S = 16896 ∧ Cts S 33 ∧ Bgn w w' T J F 512 15360 S := by
  have HFi := fun u => hide (first9 H hH0 hH u)
  have HCl : ∀ u, Hid (Calls Tryz.prog 20 #[.agg #[.int .i64 9, .int .i64 32768, .int .i64 (H : Int), .int .i64 29, .bool false]] u fun e w' => e = .returned (.int .i64 512) ∧ Below u.heap.size u w') := fun u => hide (cluster_any 9 32768 H 29 false u)
  have HRa := fun u => hide (refsAt9 H u)
  have HJa := fun u => hide (journal9 H u)
  have HZ : ∀ u, Hid (Calls Tryz.prog 16 #[.int .i64 16896] u fun e w' => ∃ S g cap, e = .returned (.slice (some ⟨g, 0, none⟩) 16896 cap) ∧ Own w' u.heap.size (.slice (some ⟨g, 0, none⟩) 16896 cap) S ∧ S.length = 16896 ∧ Cts S 0 ∧ u.heap.size ≤ g ∧ Below u.heap.size u w') := fun u => hide (by
    have hz := Zeros_any 16896 u (by omega)
    have hcast : ((16896 : Nat) : Int) = 16896 := rfl
    rw [hcast] at hz
    refine hz.mono ?_
    rintro e9 w1 ⟨v, rfl, ho, hb⟩
    obtain ⟨S, hS⟩ : ∃ S, S = List.replicate 16896 (0 : Int) := ⟨_, rfl⟩
    have hSl : S.length = 16896 := by rw [hS]; exact List.length_replicate
    have hSz : Cts S 0 := fun x => by
      rw [if_neg (by omega), hS, List.getD_eq_getElem?_getD, List.getElem?_replicate]
      split <;> rfl
    rw [← hS] at ho
    clear hS
    obtain ⟨a, cap, rfl, hl, _, _, _, hg⟩ := ho.form
    obtain ⟨g, rfl, hg1, _⟩ := hg (fun e => by rw [e] at hSl; simp at hSl)
    rw [hSl] at ho ⊢
    exact ⟨S, g, cap, rfl, ho, hSl, hSz, hg1, hb⟩)
  have HX0 : Hid (Bx8 (w.alloc (.cells #[.int .i64 9, .int .i64 32768, .int .i64 (H : Int), .int .i64 29, .bool false] 25)) w.heap.size H) := hide (heap_new9 w _)
  have HB0 := hide ((Below.refl w.heap.size w).alloc (Nat.le_refl _) (.cells #[.int .i64 9, .int .i64 32768, .int .i64 (H : Int), .int .i64 29, .bool false] 25))
  go_enter Tryz.func6, Tryz.ntmps6
  go_wp2_with fail
  generalize w.alloc (.cells #[.int .i64 9, .int .i64 32768, .int .i64 (H : Int), .int .i64 29, .bool false] 25) = w1 at *
  have HX := hide HX0.out.drew
  have HB := hide HB0.out.drew
  obtain ⟨x0, x1, x2, x3, x4⟩ := HX.out.cell
  go_region_held3 (fun u => u.cell? ⟨w.heap.size, 0, none⟩ = some (.int .i64 9) ∧ u.cell? ⟨w.heap.size, 1, none⟩ = some (.int .i64 32768) ∧ u.cell? ⟨w.heap.size, 2, none⟩ = some (.int .i64 (H : Int)) ∧ u.cell? ⟨w.heap.size, 3, none⟩ = some (.int .i64 29) ∧ u.cell? ⟨w.heap.size, 4, none⟩ = some (.bool false)) (first | go_keep | exact HX.out.cell) (first
    | (go_at_call 9; refine ((HFi _).out).mono ?_; rintro e9 w2 ⟨rfl, hb2⟩; have HX := hide (HX.out.below hb2); have HB := hide (HB.out.trans (hb2.mono HB.out.size)); clear hb2)
    | (go_at_call 20; refine ((HCl _).out).mono ?_; rintro e9 w2 ⟨rfl, hb2⟩; have HX := hide (HX.out.below hb2); have HB := hide (HB.out.trans (hb2.mono HB.out.size)); clear hb2)
    | (go_at_call 16; refine ((HZ _).out).mono ?_; rintro e9 w3 ⟨S, g, cap, rfl, ho, hSl, hSz, hg, hb2⟩; have HGg := hide (And.intro HX.out.lt (And.intro hg HB.out.size)); have HX := hide (HX.out.below hb2); have HB := hide (HB.out.trans (hb2.mono HB.out.size)); have HO := hide (And.intro ho (And.intro hSl hSz)); clear hb2 ho hSl hSz hg))
  all_goals
    have hgw : w.heap.size < g := by have := HGg.out; omega
    have HO1 : Hid (Own w3 w.heap.size (.slice (some ⟨g, 0, none⟩) 16896 cap) S) := hide (HO.out.1.mono (by have := HGg.out; omega))
    go_wp2_with fail
    have hfl : ∀ z u, (Instr.field 46 (.agg #[.int .i64 15360, .int .i64 z]) 0).run Tryz.prog u = .ok (.int .i64 15360) u := fun _ _ => by kernel_rfl
    clear x0 x1 x2 x3 x4
    go_loopw [6] (fun i wr => ∃ (k : Nat) (L : List Int), k ≤ 33 ∧ i = .int .i64 (k : Int) ∧ Own wr w.heap.size (.slice (some ⟨g, 0, none⟩) 16896 cap) L ∧ L.length = 16896 ∧ Cts L k ∧ Bx8 wr w.heap.size H ∧ Below w.heap.size w wr) (fun i _ => 33 - (intOf i).toNat)
    case atStart => exact ⟨0, S, by omega, rfl, HO1.out, HO.out.2.1, HO.out.2.2, HX.out, HB.out⟩
    case round =>
      obtain ⟨k, L, hk, rfl, ho, hLl, hLc, hx, hbel⟩ := hrel
      have HOw := hide ho
      have HLl := hide hLl
      have HLc := hide hLc
      have HXr := hide hx
      have HBl := hide hbel
      obtain ⟨x0, x1, x2, x3, x4⟩ := hx.cell
      clear ho hLl hLc hx hbel
      go_wp2_with fail
      refine ((HFi _).out).mono ?_
      rintro e9 w4 ⟨rfl, hb4⟩
      have HO4 := hide (HOw.out.below hb4)
      have HX4 := hide (HXr.out.below hb4)
      have HB4 := hide (HBl.out.trans (hb4.mono HBl.out.size))
      clear hb4 x0 x1 x2 x3 x4
      obtain ⟨x0, x1, x2, x3, x4⟩ := HX4.out.cell
      by_cases hlt : k < 33
      · go_wp2_with fail
        refine ((HRa _).out).mono ?_
        rintro e9 w5 ⟨z, rfl, hb5⟩
        have HO5 := hide (HO4.out.below hb5)
        have HX5 := hide (HX4.out.below hb5)
        have HB5 := hide (HB4.out.trans (hb5.mono HB4.out.size))
        clear hb5 x0 x1 x2 x3 x4
        have cc := HO5.out.cell HLl.out.symm (15360 + 2 * k) (by omega)
        have ff := HO5.out.free HLl.out.symm (15360 + 2 * k)
        generalize L.getD (15360 + 2 * k) 0 = old at cc
        have htn : (15360 + 2 * (k : Int)).toNat = 15360 + 2 * k := by omega
        go_wp2_with fail
        have hs := HO5.out.set HLl.out.symm (15360 + 2 * k) 1
        exact ⟨⟨k + 1, L.set (15360 + 2 * k) 1, by omega, by go_num, hs.1, by rw [List.length_set]; exact HLl.out, HLc.out.more (by rw [HLl.out]; omega), HX5.out.grown hs.2 (by omega), HB5.out.grown hs.2 HB5.out.size (fun q hq => by simp at hq; omega)⟩, by simp [intOf]; omega⟩
      · obtain rfl : k = 33 := by omega
        have hl : Lies w4 (some ⟨g, 0, none⟩) L := by
          obtain ⟨a, c, e, hl, _⟩ := HO4.out.form
          simp at e
          obtain ⟨rfl, -, -⟩ := e
          exact hl
        have HN := hide (new_file w4 (some ⟨g, 0, none⟩) cap L hl (by rw [HLl.out]; omega))
        rw [HLl.out] at HN
        clear hl x0 x1 x2 x3 x4
        go_wp2_with fail
        refine HN.out.mono ?_
        rintro e9 w5 ⟨F, v1, v2, rfl, hf, hb5⟩
        have hsz4 := HB4.out.size
        have HF := hide (hf.mono (Y := fun k => w.heap.size ≤ k ∧ k < w5.heap.size) (fun k hk hx => ⟨by omega, hk⟩))
        have HB5 := hide (HB4.out.trans (hb5.mono HB4.out.size))
        have HX5 := hide (HX4.out.below hb5)
        obtain ⟨x0, x1, x2, x3, x4⟩ := HX5.out.cell
        clear hf hb5
        go_wp2_with fail
        refine ((HJa _).out).mono ?_
        rintro e9 w6 ⟨rfl, hb6⟩
        have HB6 := hide hb6
        clear hb6 x0 x1 x2 x3 x4
        go_wp2_with fail
        have hb7 : Below w5.heap.size w5 (w6.alloc (.cells #[.int .i64 512, .int .i64 15360] 46)) := HB6.out.trans (((Below.refl w6.heap.size w6).alloc (Nat.le_refl _) (.cells #[.int .i64 512, .int .i64 15360] 46)).mono HB6.out.size)
        have HB7 := hide (HB5.out.trans (hb7.mono HB5.out.size))
        have HF7 := hide (HF.out.chg (Chg.of_below (X := fun _ => False) hb7) (fun k _ _ => fun h => h))
        have hsz7 := hb7.size
        have hsz5 := HB5.out.size
        clear hb7
        generalize w6.alloc (.cells #[.int .i64 512, .int .i64 15360] 46) = w7 at *
        have HJ := hide (jnew_ok w7 _ F _ L L [] HF7.out 512 14848 (by omega) (by omega) (by omega) (by rw [HLl.out]; omega) (by rw [HLl.out]; omega))
        refine HJ.out.mono ?_
        rintro e9 w8 ⟨J, rfl, hj, hjr, hb8⟩
        have HB8 := hide (HB7.out.trans (hb8.mono HB7.out.size))
        have HF8 := hide ((HF7.out.chg (Chg.of_below (X := fun _ => False) hb8) (fun k _ _ => fun h => h)).mono (Y := fun k => w.heap.size ≤ k ∧ k < J) (fun k _ hx => ⟨hx.1, by omega⟩))
        have HJr := hide hjr
        have HT := hide (begin_ok w8 J)
        have hj2 := hjr.lt
        clear hjr hb8
        go_wp2_with fail
        refine HT.out.mono ?_
        rintro e9 w9 ⟨T, rfl, ht, htx, hb9⟩
        have HB9 := hide (HB8.out.trans (hb9.mono HB8.out.size))
        have HF9 := hide (HF8.out.chg (Chg.of_below (X := fun _ => False) hb9) (fun k _ _ => fun h => h))
        have HJ9 := hide (HJr.out.below hb9)
        have HTx := hide htx
        clear htx hb9
        go_wp2_with fail
        go_ret3
        exact ⟨T, J, F, L, rfl, HLl.out, HLc.out, HB9.out, HTx.out, HJ9.out, ⟨v1, v2, HF9.out⟩, by omega, by omega⟩
end Go.Proofs.YtiokjlckngkhnaaGreat.Oct
