/- The reference's file: a write is laid; what is seen. -/
import Derived.Test.YtnhbncbiflnapaaOnto
import Derived.Test.YtnhbncbiflnapaaSts
import Derived.Test.YtnhbncbiflnapaaHlv
namespace Go.Proofs.Ytnhbncbiflnapaa.Oct
open Go.RowKit Go.Deep

/-- A write of the reference's. -/
structure RW where
  cut : Bool
  at_ : Nat
  a : Option Addr
  p : List Int
  cap : Nat

def RW.cells (r : RW) : List Value := [.bool r.cut, .int .i64 r.at_, .slice r.a r.p.length r.cap]

theorem lies_b1 (w : World) (x : Int) : Lies (w.alloc (.cells #[.int .u8 x] 5)) (some ⟨w.heap.size, 0, none⟩) [x] := by
  refine Lies.mk fun k hk => ?_
  have : k = 0 := by simpa using hk
  subst this
  simp

/-- What the call made. -/
def Fresh (n : Nat) (w : World) (a : Option Addr) (c : Nat) (l : List Int) : Prop := Sl w a c l ∧ l.length ≤ 4194304 ∧ ∀ x, a = some x → n ≤ x.block ∧ x.block < w.heap.size

theorem Fresh.of_own {w : World} {B n : Nat} {v : Value} {l : List Int} (h : Own w B v l) (hn : n ≤ B) (hl : l.length ≤ 4194304) : ∃ a c, v = .slice a l.length c ∧ Fresh n w a c l := by
  obtain ⟨a, c, h1, h2, _⟩ := h.sl
  refine ⟨a, c, h1, h2, hl, fun x hx => ?_⟩
  rcases h.v_form with ⟨e, _⟩ | ⟨g, cap, e, _, _, h3, h4⟩
  · rw [e] at h1; simp at h1; rw [← h1.1] at hx; cases hx
  · rw [e] at h1; simp at h1; rw [← h1.1] at hx; cases hx; exact ⟨Nat.le_trans hn h3, h4⟩

set_option maxHeartbeats 4000000 in
set_option maxRecDepth 100000 in
theorem lay_cut (w : World) (ab : Option Addr) (cb : Nat) (b : List Int) (hb : Lies w ab b) (hbl : b.length ≤ 4194304) (at_ : Nat) (hat : at_ ≤ 4194304) (a : Option Addr) (cap n : Nat) :
    Calls Try.prog 35 #[.slice ab b.length cb, .agg #[.bool true, .int .i64 at_, .slice a n cap]] w fun e w' => ∃ a' c' l', e = .returned (.slice a' (List.length l') c') ∧ Fresh w.heap.size w' a' c' l' ∧ Below w.heap.size w w' := by
  obtain ⟨b0, b1, b2⟩ := box3 w 68 (.bool true) (.int .i64 at_) (.slice a n cap)
  have HB := hide hb
  clear hb
  go_enter Try.func35, Try.ntmps35
  go_wp2_with fail
  have hw1 : Below w.heap.size w (w.alloc (.cells #[.bool true, .int .i64 at_, .slice a n cap] 68)) := (Below.refl _ _).alloc (Nat.le_refl _) _
  have hs1 : (w.alloc (.cells #[.bool true, .int .i64 at_, .slice a n cap] 68)).heap.size = w.heap.size + 1 := by simp
  generalize w.alloc (.cells #[.bool true, .int .i64 at_, .slice a n cap] 68) = w1 at *
  have HB1 := hide (HB.out.below hw1)
  have HW1 := hide hw1
  have HS1 := hide hs1
  clear hw1 hs1
  go_loopw [5, 6] (fun v i wr => ∃ (k : Nat) (l : List Int), k ≤ at_ ∧ i = .int .i64 k ∧ l.length = k ∧ Own wr w1.heap.size v l ∧ Below w1.heap.size w1 wr) (fun _ i _ => at_ - (intOf i).toNat)
  case atStart => exact ⟨0, [], by omega, rfl, rfl, Own.nil _ _, Below.refl _ _⟩
  case round =>
    obtain ⟨k, l, hk, rfl, hl, ho, hbel⟩ := hrel
    have HO := hide ho
    have HBel := hide hbel
    have HL := hide hl
    have d1 := (hbel.cell (p := ⟨w.heap.size, 1, none⟩) (by have := HS1.out; show w.heap.size < w1.heap.size; omega)).trans b1
    have hsz := hbel.size
    clear ho hbel hl
    by_cases hlt : k < at_
    · have hk1 : (k : Int) < (at_ : Int) := by omega
      have hk0 : (0 : Int) ≤ (k : Int) := by omega
      by_cases hkb : k < b.length
      · have hk2 : (k : Int) < (b.length : Int) := by omega
        rcases HB1.out.below HBel.out with h | ⟨bb, ob, hab, hbb, hcb⟩
        · rw [h] at hkb; simp at hkb
        subst hab
        have y := hcb k hkb
        obtain ⟨x, hx⟩ : ∃ x, x = b.getD k 0 := ⟨_, rfl⟩
        rw [← hx] at y
        clear hx hcb
        go_wp2_with (at_builtin; refine wpList_append_bytes rfl _ _ 22 rfl Try.underlying22 info5 w1.heap.size _ l rfl (by exact HO.out.alloc _) _ _ _ [x] rfl rfl (by exact lies_b1 _ _) (by rw [HL.out]; simp; omega) (by simp; omega) ?_; intro v' w2 ho' hg')
        refine ⟨⟨k + 1, l ++ [x], by omega, by go_num, by rw [List.length_append, HL.out]; rfl, ho', Own.behind (HO.out.alloc _) (HBel.out.alloc HBel.out.size _) hg' (by simp; omega)⟩, ?_⟩
        simp [intOf]; omega
      · have hk2 : ¬ ((k : Int) < (b.length : Int)) := by omega
        go_wp2_with (at_builtin; refine wpList_append_bytes rfl _ _ 22 rfl Try.underlying22 info5 w1.heap.size _ l rfl (by exact HO.out.alloc _) _ _ _ [0] rfl rfl (by exact lies_b1 _ _) (by rw [HL.out]; simp; omega) (by simp; omega) ?_; intro v' w2 ho' hg')
        refine ⟨⟨k + 1, l ++ [0], by omega, by go_num, by rw [List.length_append, HL.out]; rfl, ho', Own.behind (HO.out.alloc _) (HBel.out.alloc HBel.out.size _) hg' (by simp; omega)⟩, ?_⟩
        simp [intOf]; omega
    · obtain rfl : k = at_ := by omega
      obtain ⟨a', c', rfl, hfr⟩ := Fresh.of_own (n := w.heap.size) HO.out (by have := HS1.out; omega) (by rw [HL.out]; omega)
      go_wp2_with fail
      go_ret
      exact ⟨a', c', l, rfl, hfr, HW1.out.trans (HBel.out.mono HW1.out.size)⟩

set_option maxHeartbeats 4000000 in
set_option maxRecDepth 100000 in
theorem lay_put (w : World) (ab : Option Addr) (cb : Nat) (b : List Int) (hb : Lies w ab b) (hbl : b.length ≤ 4194304) (at_ : Nat) (a : Option Addr) (p : List Int) (cap : Nat) (hp : Lies w a p) (hat : at_ + p.length ≤ 4194304) :
    Calls Try.prog 35 #[.slice ab b.length cb, .agg #[.bool false, .int .i64 at_, .slice a p.length cap]] w fun e w' => ∃ a' c' l', e = .returned (.slice a' (List.length l') c') ∧ Fresh w.heap.size w' a' c' l' ∧ Below w.heap.size w w' := by
  obtain ⟨b0, b1, b2⟩ := box3 w 68 (.bool false) (.int .i64 at_) (.slice a p.length cap)
  obtain ⟨N, hN⟩ : ∃ N, N = max (at_ + p.length) b.length := ⟨_, rfl⟩
  have hw1 : Below w.heap.size w (w.alloc (.cells #[.bool false, .int .i64 at_, .slice a p.length cap] 68)) := (Below.refl _ _).alloc (Nat.le_refl _) _
  have hs1 : (w.alloc (.cells #[.bool false, .int .i64 at_, .slice a p.length cap] 68)).heap.size = w.heap.size + 1 := by simp
  obtain ⟨w1, hw1e⟩ : ∃ w1, w1 = w.alloc (.cells #[.bool false, .int .i64 at_, .slice a p.length cap] 68) := ⟨_, rfl⟩
  rw [← hw1e] at hw1 hs1 b0 b1 b2
  have hmk := run_make_u8 w1 N (by omega)
  have ho2 := Own.made w1 N (by unfold maxLen; omega)
  have hb2 : Below w1.heap.size w1 (w1.alloc (.cells (madeCells #[.int .u8 0] N) 5)) := (Below.refl _ _).alloc (Nat.le_refl _) _
  rw [hs1] at hmk ho2
  obtain ⟨w2, hw2e⟩ : ∃ w2, w2 = w1.alloc (.cells (madeCells #[.int .u8 0] N) 5) := ⟨_, rfl⟩
  rw [← hw2e] at hmk ho2 hb2
  obtain ⟨z, hz⟩ : ∃ z, z = List.replicate N (0 : Int) := ⟨_, rfl⟩
  have hzl : z.length = N := by rw [hz]; simp
  rw [← hz] at ho2
  have ho2' : Own w2 (w.heap.size + 1) (.slice (some ⟨w.heap.size + 1, 0, none⟩) N N) z := ho2
  obtain ⟨w3, hrun, ho3, hg3⟩ := run_copy_any (P := Try.prog) (dT := 22) (sT := 22) (ty := 3) Try.underlying22 size5 w2 (w.heap.size + 1) 0 N N b.length cb (.slice (some ⟨w.heap.size + 1, 0, none⟩) N N) (some ⟨w.heap.size + 1, 0, none⟩) ab b z ho2'
    ((hb.below hw1).below hb2) (fun g _ h => by simp [Value.ownBlock] at h; subst h; rfl) ((Nat.min_eq_left (by omega)).symm) (by rw [hzl]; omega)
  have hml : (over z 0 b).length = N := by rw [over_length (by rw [hzl]; omega), hzl]
  obtain ⟨m, hm⟩ : ∃ m, m = over z 0 b := ⟨_, rfl⟩
  rw [← hm] at ho3 hml
  have hne : some w.heap.size ≠ (Value.slice (some ⟨w.heap.size + 1, 0, none⟩) N N).ownBlock := by simp [Value.ownBlock]
  have c1 : w3.cell? ⟨w.heap.size, 1, none⟩ = some (.int .i64 at_) := hg3.cell (a := ⟨w.heap.size, 1, none⟩) ((hb2.cell (p := ⟨w.heap.size, 1, none⟩) (by show w.heap.size < w1.heap.size; omega)).trans b1) hne
  have c2 : w3.cell? ⟨w.heap.size, 2, none⟩ = some (.slice a p.length cap) := hg3.cell (a := ⟨w.heap.size, 2, none⟩) ((hb2.cell (p := ⟨w.heap.size, 2, none⟩) (by show w.heap.size < w1.heap.size; omega)).trans b2) hne
  have hb3 : Below w1.heap.size w1 w3 := hb2.grown hg3 hb2.size (fun k hk => by simp [Value.ownBlock] at hk; omega)
  have HP3 := hide ((hp.below hw1).below hb3)
  have HB3 := hide (hw1.trans (hb3.mono (by omega)))
  have HO3 := hide ho3
  have HD1 : Hid (∀ g, p ≠ [] → (Value.slice (some ⟨w.heap.size + 1, 0, none⟩) N N).ownBlock = some g → (some (⟨w.heap.size + 1, 0, none⟩ : Addr)).map (fun x => x.add at_) = some ⟨g, at_, none⟩) := hide (fun g _ h => by
    simp [Value.ownBlock] at h
    rw [Option.map_some, Go.WideShapes.add_plain, Nat.zero_add, h])
  have HD0 : Hid (N = at_ → ∀ g, p ≠ [] → (Value.slice (some ⟨w.heap.size + 1, 0, none⟩) N N).ownBlock = some g → some ⟨w.heap.size + 1, 0, none⟩ = some (⟨g, at_, none⟩ : Addr)) := hide (fun e g h _ => by have := List.length_pos_iff.2 h; omega)
  have HDL : Hid (p.length = Nat.min p.length (N - at_)) := hide ((Nat.min_eq_left (by omega)).symm)
  have HLE : Hid (at_ + p.length ≤ m.length) := hide (by rw [hml]; omega)
  have HML := hide hml
  have HS1 := hide hs1
  have hn1 : (at_ : Int) ≤ (N : Int) := by omega
  have hn0 : (0 : Int) ≤ (at_ : Int) := by omega
  have HKE8 : Hid (∀ w8, w3.drew.grownBy w8 (Value.slice (some ⟨w.heap.size + 1, 0, none⟩) N N).ownBlock → w8.cell? ⟨w.heap.size, 1, none⟩ = some (.int .i64 at_) ∧ w8.cell? ⟨w.heap.size, 2, none⟩ = some (.slice a p.length cap) ∧ Below w.heap.size w w8) := hide (fun w8 h8 =>
    ⟨h8.cell (a := ⟨w.heap.size, 1, none⟩) c1 hne, h8.cell (a := ⟨w.heap.size, 2, none⟩) c2 hne, HB3.out.drew.grown h8 HB3.out.size (fun k hk => by simp [Value.ownBlock] at hk; have := HS1.out; omega)⟩)
  have HN : Hid (N ≤ 4194304) := hide (by omega)
  have hwr : wrap64 ((at_ : Int) + (p.length : Int)) = (at_ : Int) + (p.length : Int) := by unfold wrap64; omega
  clear hb hp ho2 ho2' hg3 hb2 hb3 hw1 hm hz hzl ho3 hne hml hs1
  subst hw1e
  by_cases hk : at_ + p.length < b.length
  · have hk1 : (at_ : Int) + (p.length : Int) < (b.length : Int) := by omega
    rw [show b.length = N by omega] at hrun hk1 ⊢
    clear hN hk hw2e
    go_enter Try.func35, Try.ntmps35
    go_wp2_with fail
    by_cases hca : N = at_
    · have HD2 := hide (HD0.out hca)
      clear HD0 HD1
      exfalso
      omega
    · clear HD0
      go_region_held3 (fun w' => w'.cell? ⟨w.heap.size, 1, none⟩ = some (.int .i64 at_) ∧ w'.cell? ⟨w.heap.size, 2, none⟩ = some (.slice a p.length cap))
        (first | go_keep | exact ⟨HKC.out.1, HKC.out.2.1⟩)
        ((refine step_copy_any (by rfl) _ _ 22 22 (by rfl) Try.underlying22 size5 _ _ _ _ _ _ (by rfl) (by rfl) (w.heap.size + 1) at_ _ p m HO3.out.drew HP3.out.drew (fun g _ h => by simp [Value.ownBlock] at h; subst h; first | rfl | simp [Go.WideShapes.add_plain]) HDL.out HLE.out ?_; intro w8 ho8 hg8; have HKC := hide (HKE8.out w8 hg8); clear hg8))
      go_wp2_with fail
      go_ret
      obtain ⟨a', c', e', hfr⟩ := Fresh.of_own (n := w.heap.size) ho8 (by omega) (by rw [over_length HLE.out, HML.out]; exact HN.out)
      exact ⟨a', c', over m at_ p, by rw [← e']; rfl, hfr, HKC.out.2.2⟩
  · have hNi : (N : Int) = (at_ : Int) + (p.length : Int) := by omega
    have hk1 : ¬ ((at_ : Int) + (p.length : Int) < (b.length : Int)) := by omega
    rw [hNi] at hmk
    have hpN : N = at_ → p.length = Nat.min p.length 0 := fun e => by rw [show p.length = 0 by omega]; rfl
    have HPN := hide hpN
    have HPE : Hid (N = at_ → p = []) := hide (fun e => List.length_eq_zero_iff.1 (by omega))
    clear hN hk hw2e hpN hNi
    go_enter Try.func35, Try.ntmps35
    go_wp2_with fail
    by_cases hca : N = at_
    · have HDZ := hide (HPN.out hca)
      have HPZ := hide (HPE.out hca)
      clear HPE HPN
      subst hca
      clear HD0 HD1
      go_region_held3 (fun w' => w'.cell? ⟨w.heap.size, 1, none⟩ = some (.int .i64 N) ∧ w'.cell? ⟨w.heap.size, 2, none⟩ = some (.slice a p.length cap))
        (first | go_keep | exact ⟨HKC.out.1, HKC.out.2.1⟩)
        ((refine step_copy_any (by rfl) _ _ 22 22 (by rfl) Try.underlying22 size5 _ _ _ _ _ _ (by rfl) (by rfl) (w.heap.size + 1) N _ p m HO3.out.drew HP3.out.drew (fun g hp0 _ => absurd HPZ.out hp0) HDZ.out HLE.out ?_; intro w8 ho8 hg8; have HKC := hide (HKE8.out w8 hg8); clear hg8))
      go_wp2_with fail
      go_ret
      obtain ⟨a', c', e', hfr⟩ := Fresh.of_own (n := w.heap.size) ho8 (by omega) (by rw [over_length HLE.out, HML.out]; exact HN.out)
      exact ⟨a', c', over m N p, by rw [← e']; rfl, hfr, HKC.out.2.2⟩
    · clear HD0
      go_region_held3 (fun w' => w'.cell? ⟨w.heap.size, 1, none⟩ = some (.int .i64 at_) ∧ w'.cell? ⟨w.heap.size, 2, none⟩ = some (.slice a p.length cap))
        (first | go_keep | exact ⟨HKC.out.1, HKC.out.2.1⟩)
        ((refine step_copy_any (by rfl) _ _ 22 22 (by rfl) Try.underlying22 size5 _ _ _ _ _ _ (by rfl) (by rfl) (w.heap.size + 1) at_ _ p m HO3.out.drew HP3.out.drew (fun g _ h => by simp [Value.ownBlock] at h; subst h; first | rfl | simp [Go.WideShapes.add_plain]) HDL.out HLE.out ?_; intro w8 ho8 hg8; have HKC := hide (HKE8.out w8 hg8); clear hg8))
      go_wp2_with fail
      go_ret
      obtain ⟨a', c', e', hfr⟩ := Fresh.of_own (n := w.heap.size) ho8 (by omega) (by rw [over_length HLE.out, HML.out]; exact HN.out)
      exact ⟨a', c', over m at_ p, by rw [← e']; rfl, hfr, HKC.out.2.2⟩

/-- A write is laid. -/
theorem lay_any (w : World) (ab : Option Addr) (cb : Nat) (b : List Int) (hb : Lies w ab b) (hbl : b.length ≤ 4194304) (r : RW) (hp : Lies w r.a r.p) (hat : r.at_ + r.p.length ≤ 4194304) :
    Calls Try.prog 35 #[.slice ab b.length cb, .agg r.cells.toArray] w fun e w' => ∃ a' c' l', e = .returned (.slice a' (List.length l') c') ∧ Fresh w.heap.size w' a' c' l' ∧ Below w.heap.size w w' := by
  obtain ⟨cut, at_, a, p, cap⟩ := r
  cases cut with
  | true => exact lay_cut w ab cb b hb hbl at_ (by simp at hat; omega) a cap p.length
  | false => exact lay_put w ab cb b hb hbl at_ a p cap hp (by simpa using hat)

end Go.Proofs.Ytnhbncbiflnapaa.Oct
