/- An entry is written into a sector. -/
import Derived.Test.YtgpggohkapdjpaaMbt
import Derived.Test.YtgpggohkapdjpaaOpen
import Derived.Lib.SmallJoins
namespace Go.Proofs.Ytgpggohkapdjpaa.Oct
open Go.RowKit Go.ChangeShapes Go.WideShapes Go.ChangeAt

theorem array3M {α : Type} {cs : Array α} (h : cs.size = 3) : ∃ c0 c1 c2, cs = #[c0, c1, c2] := by
  obtain ⟨l⟩ := cs
  match l, h with
  | [c0, c1, c2], _ => exact ⟨c0, c1, c2, rfl⟩

theorem cellsMent : Try.prog.cellsOf 32 = 3 := by kernel_rfl

set_option maxRecDepth 100000 in
theorem open_ment {H : Type} {enc : TypeId × Value → H} {W : World} {base : Nat} {spare : Nat → Bool} {held : Bool} {r : Reach} {b0 : Nat} {v : Value} {d : DataW H} {p : List MemPlace}
    (hv : Value.okWide Try.prog W r b0 32 v) (h : DataW.Trod enc Try.prog W base spare held 32 v d p) :
    ∃ (k c o : Int), v = .agg #[.int .i64 k, .int .i64 c, .int .i64 o] := by
  obtain ⟨cs, rfl, hsz⟩ := okWide_struct Try.underlying32 hv
  obtain ⟨c0, c1, c2, rfl⟩ := array3M (hsz.trans cellsMent)
  obtain ⟨fuel, hf⟩ := h
  obtain ⟨xs, n, _, _, _, hlen, hall⟩ := DataW.trod_struct Try.underlying32 hf
  match xs, hlen with
  | [y0, y1, y2], _ =>
    have e3 : Try.prog.cellsOf 3 = 1 := by kernel_rfl
    have e2 : Try.prog.cellsOf 2 = 1 := by kernel_rfl
    have h0 := hall 0 _ rfl
    have h1 := hall 1 _ rfl
    have h2 := hall 2 _ rfl
    simp [Value.cells, e3] at h0
    simp [Value.cells, e2] at h1
    simp [Value.cells, e2] at h2
    obtain ⟨x0, q0, _, w0⟩ := DataW.trod_int Try.underlying3 h0
    obtain ⟨x1, q1, _, w1⟩ := DataW.trod_int Try.underlying2 h1
    obtain ⟨x2, q2, _, w2⟩ := DataW.trod_int Try.underlying2 h2
    simp at q0 q1 q2
    subst q0 q1 q2
    exact ⟨x0, x1, x2, rfl⟩

/-- Do an entry's numbers fit? -/
def fitM (x1 x2 x3 : Int) : Bool := decide (0 ≤ x1) && (decide (x1 ≤ 255) && (decide (0 ≤ x2) && (decide (x2 ≤ 4294967295) && (decide (0 ≤ x3) && decide (x3 ≤ 4294967295)))))

set_option maxHeartbeats 4000000 in
theorem mfits_any (x1 x2 x3 : Int) (w : World) :
    Calls Try.prog 22 #[.agg #[.int .i64 x1, .int .i64 x2, .int .i64 x3]] w fun e w' => e = .returned (.bool (fitM x1 x2 x3)) ∧ Below w.heap.size w w' := by
  have HB := hide ((Below.refl w.heap.size w).alloc (Nat.le_refl _) (.cells #[.int .i64 x1, .int .i64 x2, .int .i64 x3] 32))
  obtain ⟨f, hf⟩ : ∃ f, fitM x1 x2 x3 = f := ⟨_, rfl⟩
  rw [hf]
  have HF := hide hf
  clear hf
  by_cases h1 : 0 ≤ x1
  case neg =>
    have hff : f = false := by rw [← HF.out]; unfold fitM; simp [h1]
    subst hff
    go_enter Try.func22, Try.ntmps22
    go_wp2_with fail
    go_ret
    exact ⟨rfl, HB.out⟩
  by_cases h2 : x1 ≤ 255
  case neg =>
    have hff : f = false := by rw [← HF.out]; unfold fitM; simp [h1, h2]
    subst hff
    go_enter Try.func22, Try.ntmps22
    go_wp2_with fail
    go_ret
    exact ⟨rfl, HB.out⟩
  by_cases h3 : 0 ≤ x2
  case neg =>
    have hff : f = false := by rw [← HF.out]; unfold fitM; simp [h1, h2, h3]
    subst hff
    go_enter Try.func22, Try.ntmps22
    go_wp2_with fail
    go_ret
    exact ⟨rfl, HB.out⟩
  by_cases h4 : x2 ≤ 4294967295
  case neg =>
    have hff : f = false := by rw [← HF.out]; unfold fitM; simp [h1, h2, h3, h4]
    subst hff
    go_enter Try.func22, Try.ntmps22
    go_wp2_with fail
    go_ret
    exact ⟨rfl, HB.out⟩
  by_cases h5 : 0 ≤ x3
  case neg =>
    have hff : f = false := by rw [← HF.out]; unfold fitM; simp [h1, h2, h3, h4, h5]
    subst hff
    go_enter Try.func22, Try.ntmps22
    go_wp2_with fail
    go_ret
    exact ⟨rfl, HB.out⟩
  by_cases h6 : x3 ≤ 4294967295
  case neg =>
    have hff : f = false := by rw [← HF.out]; unfold fitM; simp [h1, h2, h3, h4, h5, h6]
    subst hff
    go_enter Try.func22, Try.ntmps22
    go_wp2_with fail
    go_ret
    exact ⟨rfl, HB.out⟩
  have hff : f = true := by rw [← HF.out]; unfold fitM; simp [h1, h2, h3, h4, h5, h6]
  subst hff
  go_enter Try.func22, Try.ntmps22
  go_wp2_with fail
  go_ret
  exact ⟨rfl, HB.out⟩

set_option maxHeartbeats 4000000 in
theorem lfits_any (x1 x2 x3 : Int) (w : World) :
    Calls Try.prog 13 #[.agg #[.int .i64 x1, .int .i64 x2, .int .i64 x3]] w fun e w' => e = .returned (.bool (fitM x1 x2 x3)) ∧ Below w.heap.size w w' := by
  have HB := hide ((Below.refl w.heap.size w).alloc (Nat.le_refl _) (.cells #[.int .i64 x1, .int .i64 x2, .int .i64 x3] 32))
  obtain ⟨f, hf⟩ : ∃ f, fitM x1 x2 x3 = f := ⟨_, rfl⟩
  rw [hf]
  have HF := hide hf
  clear hf
  by_cases h1 : 0 ≤ x1
  case neg =>
    have hff : f = false := by rw [← HF.out]; unfold fitM; simp [h1]
    subst hff
    go_enter Try.func13, Try.ntmps13
    go_wp2_with fail
    go_ret
    exact ⟨rfl, HB.out⟩
  by_cases h2 : x1 ≤ 255
  case neg =>
    have hff : f = false := by rw [← HF.out]; unfold fitM; simp [h1, h2]
    subst hff
    go_enter Try.func13, Try.ntmps13
    go_wp2_with fail
    go_ret
    exact ⟨rfl, HB.out⟩
  by_cases h3 : 0 ≤ x2
  case neg =>
    have hff : f = false := by rw [← HF.out]; unfold fitM; simp [h1, h2, h3]
    subst hff
    go_enter Try.func13, Try.ntmps13
    go_wp2_with fail
    go_ret
    exact ⟨rfl, HB.out⟩
  by_cases h4 : x2 ≤ 4294967295
  case neg =>
    have hff : f = false := by rw [← HF.out]; unfold fitM; simp [h1, h2, h3, h4]
    subst hff
    go_enter Try.func13, Try.ntmps13
    go_wp2_with fail
    go_ret
    exact ⟨rfl, HB.out⟩
  by_cases h5 : 0 ≤ x3
  case neg =>
    have hff : f = false := by rw [← HF.out]; unfold fitM; simp [h1, h2, h3, h4, h5]
    subst hff
    go_enter Try.func13, Try.ntmps13
    go_wp2_with fail
    go_ret
    exact ⟨rfl, HB.out⟩
  by_cases h6 : x3 ≤ 4294967295
  case neg =>
    have hff : f = false := by rw [← HF.out]; unfold fitM; simp [h1, h2, h3, h4, h5, h6]
    subst hff
    go_enter Try.func13, Try.ntmps13
    go_wp2_with fail
    go_ret
    exact ⟨rfl, HB.out⟩
  have hff : f = true := by rw [← HF.out]; unfold fitM; simp [h1, h2, h3, h4, h5, h6]
  subst hff
  go_enter Try.func13, Try.ntmps13
  go_wp2_with fail
  go_ret
  exact ⟨rfl, HB.out⟩

theorem bytesOf_get (v : Int) (i : Nat) : ∀ n, i < n → (bytesOf v n).getD i 0 = v / 256 ^ i % 256
  | 0, h => by omega
  | n + 1, h => by
    rw [bytesOf, List.getD_eq_getElem?_getD, List.getElem?_append]
    rw [bytesOf_length]
    split
    · rename_i h1
      have := bytesOf_get v i n h1
      rwa [List.getD_eq_getElem?_getD] at this
    · have : i = n := by omega
      subst this
      simp

/-- What is put, and what the document lays, are one. -/
theorem putM_eq (l : List Int) (t : Nat) (x1 x2 x3 : Int) (hl : t + 16 ≤ l.length) (h1 : 0 ≤ x1 ∧ x1 ≤ 255) (h2 : 0 ≤ x2 ∧ x2 ≤ 4294967295) (h3 : 0 ≤ x3 ∧ x3 ≤ 4294967295) :
    putN (putN (l.set (t + 4) x1) (t + 8) x2 4) (t + 12) x3 4 = over (over l (t + 4) [x1 % 256]) (t + 8) (bytesOf (x2 % p64) 4 ++ bytesOf (x3 % p64) 4) := by
  have e1 : x1 % 256 = x1 := by omega
  have e2 : x2 % p64 = x2 := by unfold p64; omega
  have e3 : x3 % p64 = x3 := by unfold p64; omega
  rw [e1, e2, e3]
  have hb : (bytesOf x2 4 ++ bytesOf x3 4).length = 8 := by simp [bytesOf_length]
  have ho : (over l (t + 4) [x1]).length = l.length := over_length (by simp; omega)
  have hp : ∀ k : Nat, (2 : Int) ^ (8 * k) = 256 ^ k := fun k => by rw [Int.pow_mul]; rfl
  apply list_eq
  · rw [putN_length, putN_length, List.length_set, over_length (by rw [hb, ho]; omega), ho]
  · intro i _
    rw [getD_putN _ _ _ _ _ (by rw [putN_length, List.length_set]; omega), getD_putN _ _ _ _ _ (by rw [List.length_set]; omega), getD_set _ _ _ _ (by omega), over_getM (by rw [hb, ho]; omega), over_getM (by simp; omega), hb]
    by_cases c3 : t + 12 ≤ i ∧ i < t + 12 + 4
    · rw [if_pos c3, if_pos (by omega), hp, List.getD_eq_getElem?_getD, List.getElem?_append_right (by rw [bytesOf_length]; omega), bytesOf_length, ← List.getD_eq_getElem?_getD, bytesOf_get _ _ _ (by omega), show i - (t + 8) - 4 = i - (t + 12) by omega]
    · rw [if_neg c3]
      by_cases c2 : t + 8 ≤ i ∧ i < t + 8 + 4
      · rw [if_pos c2, if_pos (by omega), hp, List.getD_eq_getElem?_getD, List.getElem?_append_left (by rw [bytesOf_length]; omega), ← List.getD_eq_getElem?_getD, bytesOf_get _ _ _ (by omega)]
      · rw [if_neg c2]
        by_cases c1 : t + 4 = i
        · rw [if_pos c1, if_neg (by omega), if_pos (by simp; omega)]
          subst c1
          simp
        · rw [if_neg c1, if_neg (by omega), if_neg (by simp; omega)]

set_option maxHeartbeats 4000000 in
theorem put_no4 (a : Option Addr) (n cap : Nat) (i x1 x2 x3 : Int) (w : World) (h : ¬ (n = 512 ∧ 0 ≤ i ∧ i ≤ 3)) :
    Calls Try.prog 11 #[.slice a n cap, .int .i64 i, .agg #[.int .i64 x1, .int .i64 x2, .int .i64 x3]] w fun e w' => e = .returned (.int .i64 4) ∧ Below w.heap.size w w' := by
  have HB := hide ((Below.refl w.heap.size w).alloc (Nat.le_refl _) (.cells #[.int .i64 x1, .int .i64 x2, .int .i64 x3] 32))
  have h3 : ¬ n = 512 ∨ (n = 512 ∧ i < 0) ∨ (n = 512 ∧ ¬ i < 0 ∧ 4 ≤ i) := by omega
  rcases h3 with h3 | ⟨h3, h4⟩ | ⟨h3, h4, h5⟩
  · have hne : ((n : Int) != 512) = true := by simp; omega
    go_enter Try.func11, Try.ntmps11
    go_wp2_with fail
    go_ret
    exact ⟨rfl, HB.out⟩
  · subst h3
    go_enter Try.func11, Try.ntmps11
    go_wp2_with fail
    go_ret
    exact ⟨rfl, HB.out⟩
  · subst h3
    go_enter Try.func11, Try.ntmps11
    go_wp2_with fail
    go_ret
    exact ⟨rfl, HB.out⟩

set_option maxHeartbeats 4000000 in
theorem put_no20 (a : Option Addr) (cap : Nat) (i x1 x2 x3 : Int) (w : World) (h : 0 ≤ i ∧ i ≤ 3) (hf : fitM x1 x2 x3 = false) :
    Calls Try.prog 11 #[.slice a 512 cap, .int .i64 i, .agg #[.int .i64 x1, .int .i64 x2, .int .i64 x3]] w fun e w' => e = .returned (.int .i64 20) ∧ Below w.heap.size w w' := by
  have hb := (Below.refl w.heap.size w).alloc (Nat.le_refl _) (.cells #[.int .i64 x1, .int .i64 x2, .int .i64 x3] 32)
  have HB := hide hb
  have HF := fun u => hide (mfits_any x1 x2 x3 u)
  rw [hf] at HF
  have h4 : ¬ i < 0 := by omega
  have h5 : ¬ 4 ≤ i := by omega
  clear hf hb
  go_enter Try.func11, Try.ntmps11
  go_wp2_with fail
  refine ((HF _).out).mono ?_
  rintro e9 w1 ⟨rfl, hb1⟩
  have HB1 := hide (HB.out.trans (hb1.mono HB.out.size))
  clear hb1
  go_wp2_with fail
  go_ret
  exact ⟨rfl, HB1.out⟩

set_option maxHeartbeats 8000000 in
set_option maxRecDepth 100000 in
theorem put_yes (B g cap : Nat) (l : List Int) (k : Nat) (x1 x2 x3 : Int) (w : World) (hl : l.length = 512) (hk : k < 4) (hf : fitM x1 x2 x3 = true) (ho : Own w B (.slice (some ⟨g, 0, none⟩) 512 cap) l) :
    Calls Try.prog 11 #[.slice (some ⟨g, 0, none⟩) 512 cap, .int .i64 (k : Int), .agg #[.int .i64 x1, .int .i64 x2, .int .i64 x3]] w fun e w' => e = .returned (.int .i64 0) ∧ Own w' B (.slice (some ⟨g, 0, none⟩) 512 cap) (putN (putN (l.set (446 + 16 * k + 4) x1) (446 + 16 * k + 8) x2 4) (446 + 16 * k + 12) x3 4) ∧ Chg (fun q => q = g) w w' := by
  have HF := fun u => hide (mfits_any x1 x2 x3 u)
  rw [hf] at HF
  have hx : (0 ≤ x1 ∧ x1 ≤ 255) ∧ (0 ≤ x2 ∧ x2 ≤ 4294967295) ∧ (0 ≤ x3 ∧ x3 ≤ 4294967295) := by
    unfold fitM at hf
    simp at hf
    omega
  obtain ⟨⟨_, _⟩, ⟨_, _⟩, ⟨_, _⟩⟩ := hx
  have hw1 : IntKind.u8.wrap x1 = x1 := by rw [IntKind.wrap_u8]; omega
  have hw2 : IntKind.u32.wrap x2 = x2 := by rw [IntKind.wrap_u32]; omega
  have hw3 : IntKind.u32.wrap x3 = x3 := by rw [IntKind.wrap_u32]; omega
  have h4 : ¬ (k : Int) < 0 := by omega
  have h5 : ¬ 4 ≤ (k : Int) := by omega
  have hm : IntKind.i64.wrap ((k : Int) * 16) = (k : Int) * 16 := by rw [IntKind.wrap_i64]; omega
  obtain ⟨t, ht⟩ : ∃ t : Nat, t = 446 + 16 * k := ⟨_, rfl⟩
  have htc : (446 : Int) + (k : Int) * 16 = (t : Int) := by omega
  have hn1 : IntKind.i64.wrap (t : Int) = (t : Int) := by rw [IntKind.wrap_i64]; omega
  have hn2 : IntKind.i64.wrap ((t : Int) + 4) = (t : Int) + 4 := by rw [IntKind.wrap_i64]; omega
  have hn3 : IntKind.i64.wrap ((t : Int) + 8) = (t : Int) + 8 := by rw [IntKind.wrap_i64]; omega
  have hn4 : IntKind.i64.wrap ((t : Int) + 12) = (t : Int) + 12 := by rw [IntKind.wrap_i64]; omega
  have ht0 : (0 : Int) ≤ (t : Int) + 4 := by omega
  have ht1 : (t : Int) + 4 < 512 := by omega
  have hxn := Blk.new w #[.int .i64 x1, .int .i64 x2, .int .i64 x3] 32
  have HXn := hide hxn
  have hba := (Below.refl w.heap.size w).alloc (Nat.le_refl _) (.cells #[.int .i64 x1, .int .i64 x2, .int .i64 x3] 32)
  have HBa := hide hba
  have HOa := hide (ho.below hba)
  have hgl : g < w.heap.size := (World.ownsRow.lt (show w.ownsRow B 5 1 _ l.length _ from ho) g rfl).2
  have HNe : Hid (w.heap.size ≠ g) := hide (by omega)
  have HP := fun (m : List Int) (p : Nat) (v : Int) u (hm : m.length = 512) (hp : p + 4 ≤ 512) (hu : Own u B (.slice (some ⟨g, 0, none⟩) 512 cap) m) => hide (show Calls Try.prog 23 #[.slice (some ⟨g, 0, none⟩) 512 cap, .int .i64 (p : Int), .int .u32 v] u fun e w' => e = .returned (.bool true) ∧ Own w' B (.slice (some ⟨g, 0, none⟩) 512 cap) (putN m p v 4) ∧ u.grownBy w' (some g) from by
    have := Put32_yes B g cap m p v u (by rw [hm]; unfold maxLen; omega) (by rw [hm]; exact hp) (by rw [hm]; exact hu)
    rw [hm] at this
    exact this)
  rw [← ht]
  have HL := hide hl
  clear hf hxn hba ho hl ht
  go_enter Try.func11, Try.ntmps11
  go_wp2_with fail
  refine ((HF _).out).mono ?_
  rintro e9 w1 ⟨rfl, hb1⟩
  have ho1 := HOa.out.below hb1
  have hx1 := HXn.out.below hb1
  have HC1 : Hid (Chg (fun q => q = g) w w1) := hide (Chg.of_below (HBa.out.trans (hb1.mono HBa.out.size)))
  have c0 : w1.cell? ⟨w.heap.size, 0, none⟩ = some (.int .i64 x1) := hx1.cell 0 _ rfl
  have hsl : (512 : Nat) = l.length := HL.out.symm
  have ho1l : Own w1 B (.slice (some ⟨g, 0, none⟩) l.length cap) l := by rw [← hsl]; exact ho1
  have g4 : w1.cell? ⟨g, t + 4, none⟩ = some (.int .u8 (l.getD (t + 4) 0)) := by
    have := ho1l.lies (t + 4) (by omega)
    rw [Nat.zero_add] at this
    exact this
  have z4 : w1.frozen? ⟨g, t + 4, none⟩ = false := World.ownsRow.frozenAt ho1l (t + 4)
  have hst := Own.stored ho1l (t + 4) x1
  obtain ⟨w2, hw2'⟩ : ∃ w2, w2 = w1.setCell ⟨g, t + 4, none⟩ (.int .u8 x1) := ⟨_, rfl⟩
  rw [← hw2', List.length_set, ← hsl] at hst
  have HO2 := hide hst.1
  have HC2 : Hid (Chg (fun q => q = g) w w2) := hide (HC1.out.trans (by have := Chg.of_grown hst.2; exact this.mono (fun k _ e => by simpa using e)))
  have hx2 : Blk w2 w.heap.size #[.int .i64 x1, .int .i64 x2, .int .i64 x3] 32 := by rw [hw2']; exact hx1.other HNe.out _ _
  have HX2 := hide hx2
  have c1 : (w1.setCell ⟨g, t + 4, none⟩ (.int .u8 x1)).cell? ⟨w.heap.size, 1, none⟩ = some (.int .i64 x2) := by rw [← hw2']; exact hx2.cell 1 _ rfl
  have HW2 := hide hw2'
  have hls : (l.set (t + 4) x1).length = 512 := by rw [List.length_set]; exact HL.out
  have HP1 := HP (l.set (t + 4) x1) (t + 8) x2 w2 hls (by omega) HO2.out
  have e8 : (((t + 8 : Nat)) : Int) = (t : Int) + 8 := by omega
  rw [e8] at HP1
  generalize l.getD (t + 4) 0 = old at *
  clear hb1 ho1 ho1l hx1 hst hw2' hx2 hsl e8
  go_wp2_with fail
  rw [← HW2.out]
  refine HP1.out.mono ?_
  rintro e9 w3 ⟨rfl, ho3, hg3⟩
  have hx3 := HX2.out.chg (Chg.of_grown hg3) (fun e => HNe.out (by simpa using e))
  have c2 : w3.cell? ⟨w.heap.size, 2, none⟩ = some (.int .i64 x3) := hx3.cell 2 _ rfl
  have HC3 : Hid (Chg (fun q => q = g) w w3) := hide (HC2.out.trans ((Chg.of_grown hg3).mono (fun k _ e => by simpa using e)))
  have HP2 := HP (putN (l.set (t + 4) x1) (t + 8) x2 4) (t + 12) x3 w3 (by rw [putN_length]; exact hls) (by omega) ho3
  have e12 : (((t + 12 : Nat)) : Int) = (t : Int) + 12 := by omega
  rw [e12] at HP2
  clear hg3 hx3 ho3 e12 hls HP HP1
  go_wp2_with fail
  refine HP2.out.mono ?_
  rintro e9 w4 ⟨rfl, ho4, hg4⟩
  have HO4 := hide ho4
  have HC4 : Hid (Chg (fun q => q = g) w w4) := hide (HC3.out.trans ((Chg.of_grown hg4).mono (fun k _ e => by simpa using e)))
  clear ho4 hg4
  go_wp2_with fail
  go_ret
  exact ⟨rfl, HO4.out, HC4.out⟩
end Go.Proofs.Ytgpggohkapdjpaa.Oct
