/- Numbers out of bytes; is all that is the same in every header as it must be? A header's sum. -/
import Derived.Test.YtpbnjobjjnhplaaDoorPMore
import Derived.Test.YtpbnjobjjnhplaaDoorPWrLst
import Derived.Deep.RegionWith
import Derived.Test.YtpbnjobjjnhplaaDoorPGva
import Derived.Test.YtpbnjobjjnhplaaDoorPGpl
namespace Go.Proofs.YtpbnjobjjnhplaaDoor.Oct
open Go.RowKit Go.ChangeShapes Go.WideShapes Go.ChangeAt

theorem Lies.cut {w : World} {a : Option Addr} {l : List Int} (h : Lies w a l) (p n : Nat) : Lies w (a.map fun x => x.add p) ((l.drop p).take n) := by
  cases a with
  | none =>
    rcases h with rfl | ⟨b, off, h, _⟩
    · left; simp
    · cases h
  | some x =>
    rcases h with rfl | ⟨b, off, h, hlt, hc⟩
    · left; simp
    · cases h
      have := Lies.of_part (Or.inr ⟨b, off, rfl, hlt, hc⟩ : Lies w (some ⟨b, off, none⟩) l) p n
      simpa [Go.WideShapes.add_plain] using this

theorem Sl.take {w : World} {a : Option Addr} {cap : Nat} {l : List Int} (h : Sl w a cap l) (n : Nat) : Sl w a cap (l.take n) := ⟨by have := h.le; simp; omega, h.max, h.none, by
  rcases h.lies with e | ⟨b0, o0, rfl, _, _⟩
  · left; rw [e]; simp
  · have := h.lies.of_part 0 n; simpa using this⟩

theorem Sum_three (x0 x1 x2 : Option Addr) (n0 n1 n2 c0 c1 c2 : Nat) (l0 l1 l2 : List Int) (w : World) (H : Nat) (hH : w.heap.size = H) (e0 : n0 = l0.length) (e1 : n1 = l1.length) (e2 : n2 = l2.length)
    (hm : l0.length ≤ 1000000 ∧ l1.length ≤ 1000000 ∧ l2.length ≤ 1000000) (b0 : Byts l0) (b1 : Byts l1) (b2 : Byts l2) (s0 : Sl w x0 c0 l0) (s1 : Sl w x1 c1 l1) (s2 : Sl w x2 c2 l2) :
    Calls Tryd.prog 70 #[.slice (some ⟨H, 0, none⟩) 3 3] (w.alloc (.cells #[.slice x0 n0 c0, .slice x1 n1 c1, .slice x2 n2 c2] 31)) fun e w' =>
      e = .returned (.int .u32 (moreC 0 (l0 ++ l1 ++ l2))) ∧ Below w.heap.size w w' := by
  subst hH e0 e1 e2
  have hal := (Below.refl w.heap.size w).alloc (Nat.le_refl _) (.cells #[.slice x0 l0.length c0, .slice x1 l1.length c1, .slice x2 l2.length c2] 31)
  refine (Sum_any (some ⟨w.heap.size, 0, none⟩) 3 [l0, l1, l2] _ (by unfold maxLen; simp) (fun r => by
    match r with
    | 0 => unfold maxLen; simp; omega
    | 1 => unfold maxLen; simp; omega
    | 2 => unfold maxLen; simp; omega
    | r + 3 => simp) (fun r => by
    match r with
    | 0 => simpa using b0
    | 1 => simpa using b1
    | 2 => simpa using b2
    | r + 3 => intro k; simp) (Or.inr ⟨w.heap.size, 0, rfl, by simp, fun r hr => by
      have hr3 : r < 3 := by simpa using hr
      match r, hr3 with
      | 0, _ => exact ⟨x0, c0, by simp, by simpa using s0.below hal⟩
      | 1, _ => exact ⟨x1, c1, by simp, by simpa using s1.below hal⟩
      | 2, _ => exact ⟨x2, c2, by simp, by simpa using s2.below hal⟩⟩)).mono ?_
  rintro e w' ⟨rfl, rfl⟩
  exact ⟨by simp, hal⟩

set_option maxHeartbeats 400000 in
theorem gap_no (p : Int) (n : Nat) (w : World) (h : p ≤ -4 ∨ (n : Int) ≤ p) :
    Calls Tryd.prog 105 #[.int .i64 p, .int .i64 n] w fun e w' => e = .returned (.tuple #[.int .i64 0, .int .i64 0]) ∧ w' = w := by
  by_cases h1 : p ≤ -4
  all_goals
    go_enter Tryd.func105, Tryd.ntmps105
    go_wp2_with fail
    go_ret2
    exact ⟨rfl, rfl⟩

set_option maxHeartbeats 400000 in
theorem gap_yes (p : Int) (n f t : Nat) (w : World) (h0 : ¬ p ≤ -4) (h1 : ¬ (n : Int) ≤ p) (hn : n ≤ 1000000) (hf : (f : Int) = max p 0) (ht : (t : Int) = min (p + 4) n) :
    Calls Tryd.prog 105 #[.int .i64 p, .int .i64 n] w fun e w' => e = .returned (.tuple #[.int .i64 f, .int .i64 t]) ∧ w' = w := by
  have HF := hide hf
  have HT := hide ht
  clear hf ht
  by_cases h2 : p < 0
  all_goals
    by_cases h3 : (n : Int) < p + 4
    all_goals
      go_enter Tryd.func105, Tryd.ntmps105
      go_wp2_with fail
      all_goals
        go_ret2
        refine ⟨?_, rfl⟩
        have := HF.out
        have := HT.out
        simp
        omega

theorem size5' : (Tryd.prog.info? 5).map (fun i => i.size) = some 1 := by kernel_rfl

theorem run_noughts (u : World) (H : Nat) (d : Int) (n : Nat) (hd : d = n) (hn : n ≤ 4) :
    (Instr.sliceAt 163 (.pointer (some ⟨H, 0, none⟩)) none (some (.int .i64 d)) none).run Tryd.prog u = .ok (.slice (some ⟨H, 0, none⟩) n 4) u := by
  subst hd
  have e1 : Tryd.prog.arrayLen 163 = 4 := by simp [Program.arrayLen, Tryd.underlying163]
  have e2 : Tryd.prog.elem 163 = 5 := by simp [Program.elem, Tryd.underlying163]
  have ht : Tryd.prog.underlying 163 = some (.array (Tryd.prog.arrayLen 163) (Tryd.prog.elem 163)) := by rw [e1, e2]; exact Tryd.underlying163
  have hsz : (sizeOf 5).run Tryd.prog u = .ok 1 u := by
    have h5 := size5'
    cases hq : Tryd.prog.info? 5 with
    | none => simp [hq] at h5
    | some i =>
      have hi : i.size = 1 := by simpa [hq] using h5
      simp [sizeOf, typeInfo, hq, hi]
  rw [run_sliceAt_array_h u 163 ⟨H, 0, none⟩ ht .i64 n (by omega) (by rw [e1]; omega), e1, e2, hsz]
  simp [slicedAt, Result.andThen, Go.WideShapes.add_plain]

set_option maxHeartbeats 4000000 in
theorem Over_core (a : Option Addr) (cap : Nat) (l : List Int) (p : Int) (f t : Nat) (w : World) (hlen : l.length ≤ 400) (hb : Byts l) (hs : Sl w a cap l) (hft : f ≤ t) (ht4 : t - f ≤ 4) (htl : t ≤ l.length)
    (hgap : ∀ u : World, Calls Tryd.prog 105 #[.int .i64 p, .int .i64 l.length] u fun e w' => e = .returned (.tuple #[.int .i64 f, .int .i64 t]) ∧ w' = u) :
    Calls Tryd.prog 97 #[.slice a l.length cap, .int .i64 p] w fun e w' => e = .returned (.int .u32 (moreC 0 (l.take f ++ List.replicate (t - f) 0 ++ l.drop t))) ∧ Below w.heap.size w w' := by
  obtain ⟨S, hS⟩ : ∃ S, S = moreC 0 (l.take f ++ List.replicate (t - f) 0 ++ l.drop t) := ⟨_, rfl⟩
  rw [← hS]
  have HSS := hide hS
  clear hS
  have HG := hide hgap
  have hle := hs.le
  have hsl := fun u H => run_noughts u H (IntKind.i64.wrap ((t : Int) - f)) (t - f) (by rw [IntKind.wrap_i64]; omega) ht4
  have hsl2 := fun u H => run_noughts u H ((t : Int) - f) (t - f) (by omega) ht4
  have hal := (Below.refl w.heap.size w).alloc (Nat.le_refl _) (.cells #[.int .u8 0, .int .u8 0, .int .u8 0, .int .u8 0] 163)
  have S0 : Hid (Sl (w.alloc (.cells #[.int .u8 0, .int .u8 0, .int .u8 0, .int .u8 0] 163)).drew a cap (l.take f)) := (hs.take f).below hal.drew
  have S1 : Hid (Sl (w.alloc (.cells #[.int .u8 0, .int .u8 0, .int .u8 0, .int .u8 0] 163)).drew (some ⟨w.heap.size, 0, none⟩) 4 (List.replicate (t - f) 0)) := by
    refine ⟨by simp; omega, by unfold maxLen; omega, fun h => (by cases h), Lies.drew (Lies.mk fun k hk => ?_)⟩
    have hk4 : k < t - f := by simpa using hk
    have : k = 0 ∨ k = 1 ∨ k = 2 ∨ k = 3 := by omega
    rcases this with rfl | rfl | rfl | rfl <;> simp [hk4]
  have E0 : Hid (f = (l.take f).length) := by show _ = _; simp; omega
  have HAL := hide hal
  have L2 : Hid (Lies (w.alloc (.cells #[.int .u8 0, .int .u8 0, .int .u8 0, .int .u8 0] 163)).drew (a.map fun x => x.add t) (l.drop t)) := by
    have := (hs.lies.cut t (l.length - t)).below hal.drew
    rwa [List.take_of_length_le (by simp)] at this
  have HMX := hide hs.max
  have HNN := hide hs.none
  clear hs hgap hal
  go_enter Tryd.func97, Tryd.ntmps97
  go_wp2_with fail
  refine (HG.out _).mono ?_
  rintro e w1 ⟨rfl, rfl⟩
  by_cases hend : cap = t
  · subst hend
    have htl2 : l.length = cap := by omega
    have HTL := hide htl2
    clear htl2
    have S2 : Hid (Sl (w.alloc (.cells #[.int .u8 0, .int .u8 0, .int .u8 0, .int .u8 0] 163)).drew a 0 (l.drop cap)) := by
      rw [List.drop_of_length_le (by have := HTL.out; omega)]
      exact ⟨by simp, by simp, fun _ => rfl, Or.inl rfl⟩
    go_wp2_with fail
    go_region_with (go_at_call 70; refine (Sum_three a (some ⟨w.heap.size, 0, none⟩) a f (cap - f) _ cap 4 0 (l.take f) (List.replicate (cap - f) 0) (l.drop cap) _ _ (by simp) E0.out (by simp) (by have := HTL.out; simp; omega) ⟨by simp; omega, by simp; omega, by simp; omega⟩ (hb.take f) (Byts.zeros _) (hb.drop cap) S0.out S1.out S2.out).mono ?_; rw [← HSS.out]; rintro e w2 ⟨rfl, hb2⟩)
    have HBZ := hide (HAL.out.drew.trans (hb2.mono HAL.out.size))
    clear hb2
    go_wp2_with fail
    go_ret
    exact ⟨rfl, HBZ.out⟩
  · have S2 : Hid (Sl (w.alloc (.cells #[.int .u8 0, .int .u8 0, .int .u8 0, .int .u8 0] 163)).drew (a.map fun x => x.add t) (cap - t) (l.drop t)) := 
      ⟨by simp; omega, by have := HMX.out; omega, fun h => by have := HNN.out (by simpa using h); omega, L2.out⟩
    go_wp2_with fail
    go_region_with (go_at_call 70; refine (Sum_three a (some ⟨w.heap.size, 0, none⟩) (a.map fun x => x.add t) f (t - f) _ cap 4 _ (l.take f) (List.replicate (t - f) 0) (l.drop t) _ _ (by simp) E0.out (by simp) (by simp) ⟨by simp; omega, by simp; omega, by simp; omega⟩ (hb.take f) (Byts.zeros _) (hb.drop t) S0.out S1.out S2.out).mono ?_; rw [← HSS.out]; rintro e w2 ⟨rfl, hb2⟩)
    have HBZ := hide (HAL.out.drew.trans (hb2.mono HAL.out.size))
    clear hb2
    go_wp2_with fail
    go_ret
    exact ⟨rfl, HBZ.out⟩

/-- The four bytes that count as 0 are laid. -/
theorem over_list (l m : List Int) (p : Int) (f t : Nat) (hm : m.length = l.length) (hft : f ≤ t) (htl : t ≤ l.length)
    (hin : ∀ i : Nat, i < l.length → ((p ≤ i ∧ (i : Int) < p + 4) ↔ (f ≤ i ∧ i < t)))
    (h : ∀ i, i < l.length → m.getD i 0 = if p ≤ (i : Int) ∧ (i : Int) < p + 4 then 0 else l.getD i 0) : m = l.take f ++ List.replicate (t - f) 0 ++ l.drop t := by
  apply List.ext_getElem
  · simp
    omega
  · intro i h1 h2
    have hi : i < l.length := by omega
    have e := h i hi
    rw [List.getD_eq_getElem?_getD, List.getElem?_eq_getElem h1] at e
    simp only [Option.getD_some] at e
    rw [e]
    have el : l.getD i 0 = l[i] := by simp [hi]
    by_cases hc : p ≤ (i : Int) ∧ (i : Int) < p + 4
    · have hf := (hin i hi).1 hc
      rw [if_pos hc, List.getElem_append_left (by simp; omega), List.getElem_append_right (by simp; omega)]
      simp
    · have hf : ¬ (f ≤ i ∧ i < t) := fun h => hc ((hin i hi).2 h)
      rw [if_neg hc, el]
      by_cases hlt : i < f
      · rw [List.getElem_append_left (by simp; omega), List.getElem_append_left (by simp; omega)]
        simp
      · rw [List.getElem_append_right (by simp; omega)]
        simp
        congr 1
        omega

theorem Over_any (a : Option Addr) (cap : Nat) (l m : List Int) (p : Int) (w : World) (hlen : l.length ≤ 400) (hb : Byts l) (hs : Sl w a cap l) (hm : m.length = l.length)
    (h : ∀ i, i < l.length → m.getD i 0 = if p ≤ (i : Int) ∧ (i : Int) < p + 4 then 0 else l.getD i 0) :
    Calls Tryd.prog 97 #[.slice a l.length cap, .int .i64 p] w fun e w' => e = .returned (.int .u32 (moreC 0 m)) ∧ Below w.heap.size w w' := by
  by_cases h1 : p ≤ -4 ∨ (l.length : Int) ≤ p
  · have e := over_list l m p 0 0 hm (by omega) (by omega) (fun i hi => by omega) h
    rw [e]
    exact Over_core a cap l p 0 0 w hlen hb hs (by omega) (by omega) (by omega) (fun u => gap_no p l.length u h1)
  · obtain ⟨f, hf⟩ : ∃ f : Nat, (f : Int) = max p 0 := ⟨(max p 0).toNat, by omega⟩
    obtain ⟨t, ht⟩ : ∃ t : Nat, (t : Int) = min (p + 4) l.length := ⟨(min (p + 4) (l.length : Int)).toNat, by omega⟩
    have e := over_list l m p f t hm (by omega) (by omega) (fun i hi => by omega) h
    rw [e]
    exact Over_core a cap l p f t w hlen hb hs (by omega) (by omega) (by omega) (fun u => gap_yes p l.length f t u (by omega) (by omega) (by omega) hf ht)
end Go.Proofs.YtpbnjobjjnhplaaDoor.Oct

namespace Go.Proofs.YtpbnjobjjnhplaaDoor.Oct
open Go.RowKit

theorem U32_atG (a : Option Addr) (cap : Nat) (l : List Int) (p : Nat) (w : World) (hlen : l.length ≤ maxLen) (hb : Byts l) (hl : Lies w a l) (hp : p + 4 ≤ l.length) :
    Calls Tryd.prog 78 #[.slice a l.length cap, .int .i64 (p : Int)] w fun e w' => e = .returned (.tuple #[.int .u32 (num l p 4), .bool true]) ∧ w' = w := by
  unfold maxLen at hlen
  have h := U32_any a cap l (p : Int) w (by unfold maxLen; omega) hb hl (by omega) (by omega)
  rw [numAt_yes hp, thereB_yes (by omega) (by omega) (by omega)] at h
  exact h
theorem U64_atG (a : Option Addr) (cap : Nat) (l : List Int) (p : Nat) (w : World) (hlen : l.length ≤ maxLen) (hb : Byts l) (hl : Lies w a l) (hp : p + 8 ≤ l.length) :
    Calls Tryd.prog 98 #[.slice a l.length cap, .int .i64 (p : Int)] w fun e w' => e = .returned (.tuple #[.int .u64 (num l p 8), .bool true]) ∧ w' = w := by
  unfold maxLen at hlen
  have h := U64_any a cap l (p : Int) w (by unfold maxLen; omega) hb hl (by omega) (by omega)
  rw [numAt_yes hp, thereB_yes (by omega) (by omega) (by omega)] at h
  exact h

/-- A number of 8 bytes, as it counts. -/
def numG (l : List Int) (p : Nat) : Int := if num l p 8 ≤ 8388608 then num l p 8 else 8388608

theorem numG_lt (l : List Int) (p : Nat) (hb : Byts l) : 0 ≤ numG l p ∧ numG l p ≤ 8388608 := by
  have h := num_lt l p hb 8
  unfold numG
  split <;> omega

set_option maxHeartbeats 1000000 in
theorem number_any (a : Option Addr) (cap : Nat) (l : List Int) (p : Nat) (w : World) (hlen : l.length ≤ maxLen) (hb : Byts l) (hl : Lies w a l) (hp : p + 8 ≤ l.length) :
    Calls Tryd.prog 81 #[.slice a l.length cap, .int .i64 (p : Int)] w fun e w' => e = .returned (.int .i64 (numG l p)) ∧ w' = w := by
  have HU := hide (U64_atG a cap l p w hlen hb hl hp)
  have hn := num_lt l p hb 8
  have HG := hide (numG_lt l p hb)
  obtain ⟨g, hg⟩ : ∃ g, g = numG l p := ⟨_, rfl⟩
  have HGG := hide hg
  rw [← hg] at HG ⊢
  unfold numG at hg
  obtain ⟨x, hx⟩ : ∃ x, x = num l p 8 := ⟨_, rfl⟩
  rw [← hx] at HU hg hn
  obtain ⟨n, hnn⟩ : ∃ n, n = l.length := ⟨_, rfl⟩
  rw [← hnn] at HU ⊢
  obtain ⟨q, hq⟩ : ∃ q : Int, q = (p : Int) := ⟨_, rfl⟩
  rw [← hq] at HU ⊢
  have hw : IntKind.i64.wrap g = g := by have := HG.out; rw [IntKind.wrap_i64]; omega
  clear hlen hb hl hp hx hnn hq hn
  by_cases hc : x ≤ 8388608
  · rw [if_pos hc] at hg
    have hm : min x 8388608 = x := by omega
    subst hg
    clear hc
    go_enter Tryd.func81, Tryd.ntmps81
    go_wp2_with fail
    refine HU.out.mono ?_
    rintro e9 w2 ⟨rfl, h2⟩
    rw [h2]
    clear h2
    go_wp2_with fail
    go_ret
    exact ⟨rfl, rfl⟩
  · rw [if_neg hc] at hg
    have hm : min x 8388608 = 8388608 := by omega
    subst hg
    go_enter Tryd.func81, Tryd.ntmps81
    go_wp2_with fail
    refine HU.out.mono ?_
    rintro e9 w2 ⟨rfl, h2⟩
    rw [h2]
    clear h2
    go_wp2_with fail
    go_ret
    exact ⟨rfl, rfl⟩
/-- Is all that is the same in every header as it must be? -/
def formG (l : List Int) : Bool := decide (num l 8 4 = 65536) && (decide (num l 12 4 = 92) && (decide (num l 20 4 = 0) && (decide (num l 84 4 = 128) && allZ (l.drop 92))))

theorem Lies.dropG {w : World} {b off : Nat} {l : List Int} (h : Lies w (some ⟨b, off, none⟩) l) (n : Nat) : Lies w (some ⟨b, off + n, none⟩) (l.drop n) := by
  have := h.of_part n (l.length - n)
  rwa [List.take_of_length_le (by simp)] at this

set_option maxHeartbeats 4000000 in
set_option maxRecDepth 100000 in
theorem formed_any (b off cap : Nat) (l : List Int) (w : World) (hlen : l.length = 512) (hcap : 512 ≤ cap) (hcm : cap ≤ maxLen) (hb : Byts l) (hl : Lies w (some ⟨b, off, none⟩) l) (hV : VarG w) :
    Calls Tryd.prog 79 #[.slice (some ⟨b, off, none⟩) 512 cap] w fun e w' => e = .returned (.bool (formG l)) ∧ Below w.heap.size w w' := by
  unfold maxLen at hcm
  have u32a := fun (p : Nat) (hp : p + 4 ≤ l.length) (u : World) (hu : Lies u (some ⟨b, off, none⟩) l) => hide (U32_atG (some ⟨b, off, none⟩) cap l p u (by unfold maxLen; omega) hb hu hp)
  rw [hlen] at u32a
  have HZ := fun (u : World) (hu : Lies u (some ⟨b, off, none⟩) l) => hide (show Calls Tryd.prog 96 #[.slice (some ⟨b, off + 92, none⟩) 420 (cap - 92)] u fun e w' => e = .returned (.bool (allZ (l.drop 92))) ∧ w' = u by
    have h := Zero_any (some ⟨b, off + 92, none⟩) (cap - 92) (l.drop 92) u (by rw [List.length_drop, hlen]; unfold maxLen; omega) (hu.dropG 92)
    rw [List.length_drop, hlen] at h
    exact h)
  have HU8 := u32a 8 (by omega)
  push_cast at HU8
  have HU12 := u32a 12 (by omega)
  push_cast at HU12
  have HU20 := u32a 20 (by omega)
  push_cast at HU20
  have HU84 := u32a 84 (by omega)
  push_cast at HU84
  have HF := hide (show formG l = (decide (num l 8 4 = 65536) && (decide (num l 12 4 = 92) && (decide (num l 20 4 = 0) && (decide (num l 84 4 = 128) && allZ (l.drop 92))))) from rfl)
  obtain ⟨fv, hfv⟩ : ∃ fv, fv = formG l := ⟨_, rfl⟩
  rw [← hfv] at HF ⊢
  have HL := hide hl
  have HV := hide hV
  have hc92 : ¬ (512 : Int) < 92 := by decide
  obtain ⟨s0, s1, s2, s3, s4, s5, s6, s7⟩ := hV.all
  have i0 := fun u => (ix_fxG u).1
  have i1 := fun u => (ix_fxG u).2.1
  have i2 := fun u => (ix_fxG u).2.2.1
  have i3 := fun u => (ix_fxG u).2.2.2
  clear u32a hlen hb hl hV hfv
  generalize allZ (l.drop 92) = zv at *
  generalize num l 8 4 = v8 at *
  generalize num l 12 4 = v12 at *
  generalize num l 20 4 = v20 at *
  generalize num l 84 4 = v84 at *
  go_enter Tryd.func79, Tryd.ntmps79
  go_wp2_with fail
  clear s0 s1 s2 s3 s4 s5 s6 s7
  go_loopw [8] (fun i wr => ∃ j : Nat, j ≤ 4 ∧ i = .int .i64 (j : Int) ∧ Below w.heap.size w wr ∧ (0 < j → v8 = 65536) ∧ (1 < j → v12 = 92) ∧ (2 < j → v20 = 0) ∧ (3 < j → v84 = 128)) (fun i _ => 4 - (intOf i).toNat)
  case atStart => exact ⟨0, by omega, rfl, Below.refl _ _, fun h => by omega, fun h => by omega, fun h => by omega, fun h => by omega⟩
  case round =>
    obtain ⟨j, hj, rfl, hbr, q0, q1, q2, q3⟩ := hrel
    have HBr := hide hbr
    have HLr := hide (HL.out.below hbr)
    have Q := hide (And.intro q0 (And.intro q1 (And.intro q2 q3)))
    clear hbr q0 q1 q2 q3
    obtain rfl | rfl | rfl | rfl | rfl : j = 0 ∨ j = 1 ∨ j = 2 ∨ j = 3 ∨ j = 4 := by omega
    · skip
      have hx4 := Blk.new wr #[.int .i64 8, .int .u32 65536] 153
      have y0 : (wr.alloc (.cells #[.int .i64 8, .int .u32 65536] 153)).cell? ⟨wr.heap.size, 0, none⟩ = some (.int .i64 8) := hx4.cell 0 _ rfl
      have y1 : (wr.alloc (.cells #[.int .i64 8, .int .u32 65536] 153)).cell? ⟨wr.heap.size, 1, none⟩ = some (.int .u32 65536) := hx4.cell 1 _ rfl
      have hb4 : Below wr.heap.size wr (wr.alloc (.cells #[.int .i64 8, .int .u32 65536] 153)) := (Below.refl _ _).alloc (Nat.le_refl _) _
      have HC4 := HU8 _ (HLr.out.below hb4)
      have HB4 := hide (HBr.out.trans (hb4.mono HBr.out.size))
      clear hx4 hb4
      go_wp2_with fail
      refine HC4.out.mono ?_
      rintro e9 w5 ⟨rfl, h5⟩
      rw [h5]
      clear h5
      by_cases hv : v8 = 65536
      · have HV1 := hide hv
        rw [hv]
        clear hv
        go_wp2_with fail
        go_roundw
        case rel => exact ⟨1, by omega, by go_num, HB4.out, fun _ => HV1.out, fun h => by omega, fun h => by omega, fun h => by omega⟩
        case measure => simp [intOf]
      · have hne : (v8 != 65536) = true := by simpa using hv
        have HFF := hide (show fv = false by rw [HF.out]; simp [hv])
        clear hv
        go_wp2_with fail
        go_ret
        exact ⟨by rw [HFF.out]; rfl, HB4.out⟩
    · skip
      have hx4 := Blk.new wr #[.int .i64 12, .int .u32 92] 153
      have y0 : (wr.alloc (.cells #[.int .i64 12, .int .u32 92] 153)).cell? ⟨wr.heap.size, 0, none⟩ = some (.int .i64 12) := hx4.cell 0 _ rfl
      have y1 : (wr.alloc (.cells #[.int .i64 12, .int .u32 92] 153)).cell? ⟨wr.heap.size, 1, none⟩ = some (.int .u32 92) := hx4.cell 1 _ rfl
      have hb4 : Below wr.heap.size wr (wr.alloc (.cells #[.int .i64 12, .int .u32 92] 153)) := (Below.refl _ _).alloc (Nat.le_refl _) _
      have HC4 := HU12 _ (HLr.out.below hb4)
      have HB4 := hide (HBr.out.trans (hb4.mono HBr.out.size))
      clear hx4 hb4
      go_wp2_with fail
      refine HC4.out.mono ?_
      rintro e9 w5 ⟨rfl, h5⟩
      rw [h5]
      clear h5
      by_cases hv : v12 = 92
      · have HV1 := hide hv
        rw [hv]
        clear hv
        go_wp2_with fail
        go_roundw
        case rel => exact ⟨2, by omega, by go_num, HB4.out, fun _ => Q.out.1 (by omega), fun _ => HV1.out, fun h => by omega, fun h => by omega⟩
        case measure => simp [intOf]
      · have hne : (v12 != 92) = true := by simpa using hv
        have HFF := hide (show fv = false by rw [HF.out]; simp [hv])
        clear hv
        go_wp2_with fail
        go_ret
        exact ⟨by rw [HFF.out]; rfl, HB4.out⟩
    · skip
      have hx4 := Blk.new wr #[.int .i64 20, .int .u32 0] 153
      have y0 : (wr.alloc (.cells #[.int .i64 20, .int .u32 0] 153)).cell? ⟨wr.heap.size, 0, none⟩ = some (.int .i64 20) := hx4.cell 0 _ rfl
      have y1 : (wr.alloc (.cells #[.int .i64 20, .int .u32 0] 153)).cell? ⟨wr.heap.size, 1, none⟩ = some (.int .u32 0) := hx4.cell 1 _ rfl
      have hb4 : Below wr.heap.size wr (wr.alloc (.cells #[.int .i64 20, .int .u32 0] 153)) := (Below.refl _ _).alloc (Nat.le_refl _) _
      have HC4 := HU20 _ (HLr.out.below hb4)
      have HB4 := hide (HBr.out.trans (hb4.mono HBr.out.size))
      clear hx4 hb4
      go_wp2_with fail
      refine HC4.out.mono ?_
      rintro e9 w5 ⟨rfl, h5⟩
      rw [h5]
      clear h5
      by_cases hv : v20 = 0
      · have HV1 := hide hv
        rw [hv]
        clear hv
        go_wp2_with fail
        go_roundw
        case rel => exact ⟨3, by omega, by go_num, HB4.out, fun _ => Q.out.1 (by omega), fun _ => Q.out.2.1 (by omega), fun _ => HV1.out, fun h => by omega⟩
        case measure => simp [intOf]
      · have hne : (v20 != 0) = true := by simpa using hv
        have HFF := hide (show fv = false by rw [HF.out]; simp [hv])
        clear hv
        go_wp2_with fail
        go_ret
        exact ⟨by rw [HFF.out]; rfl, HB4.out⟩
    · skip
      have hx4 := Blk.new wr #[.int .i64 84, .int .u32 128] 153
      have y0 : (wr.alloc (.cells #[.int .i64 84, .int .u32 128] 153)).cell? ⟨wr.heap.size, 0, none⟩ = some (.int .i64 84) := hx4.cell 0 _ rfl
      have y1 : (wr.alloc (.cells #[.int .i64 84, .int .u32 128] 153)).cell? ⟨wr.heap.size, 1, none⟩ = some (.int .u32 128) := hx4.cell 1 _ rfl
      have hb4 : Below wr.heap.size wr (wr.alloc (.cells #[.int .i64 84, .int .u32 128] 153)) := (Below.refl _ _).alloc (Nat.le_refl _) _
      have HC4 := HU84 _ (HLr.out.below hb4)
      have HB4 := hide (HBr.out.trans (hb4.mono HBr.out.size))
      clear hx4 hb4
      go_wp2_with fail
      refine HC4.out.mono ?_
      rintro e9 w5 ⟨rfl, h5⟩
      rw [h5]
      clear h5
      by_cases hv : v84 = 128
      · have HV1 := hide hv
        rw [hv]
        clear hv
        go_wp2_with fail
        go_roundw
        case rel => exact ⟨4, by omega, by go_num, HB4.out, fun _ => Q.out.1 (by omega), fun _ => Q.out.2.1 (by omega), fun _ => Q.out.2.2.1 (by omega), fun _ => HV1.out⟩
        case measure => simp [intOf]
      · have hne : (v84 != 128) = true := by simpa using hv
        have HFF := hide (show fv = false by rw [HF.out]; simp [hv])
        clear hv
        go_wp2_with fail
        go_ret
        exact ⟨by rw [HFF.out]; rfl, HB4.out⟩
    · skip
      have HFF := hide (show fv = zv by rw [HF.out, Q.out.1 (by omega), Q.out.2.1 (by omega), Q.out.2.2.1 (by omega), Q.out.2.2.2 (by omega)]; rfl)
      go_wp2_with fail
      refine (HZ _ HLr.out).out.mono ?_
      rintro e9 w5 ⟨rfl, h5⟩
      rw [h5]
      clear h5
      go_wp2_with fail
      go_ret
      exact ⟨by rw [HFF.out]; rfl, HBr.out⟩

/-- A header's bytes, the sum's four as noughts. -/
def blankG (l : List Int) : List Int := l.take 16 ++ (List.replicate 4 0 ++ (l.drop 20).take 72)

theorem blankG_get (l : List Int) (h : l.length = 512) (i : Nat) (hi : i < 92) : (blankG l).getD i 0 = if (16 : Int) ≤ (i : Int) ∧ (i : Int) < 16 + 4 then 0 else (l.take 92).getD i 0 := by
  have e1 : (l.take 16).length = 16 := by rw [List.length_take]; omega
  have e2 : (l.take 92)[i]? = l[i]? := by rw [List.getElem?_take, if_pos hi]
  unfold blankG
  rw [List.getD_eq_getElem?_getD, List.getD_eq_getElem?_getD, e2]
  by_cases h1 : i < 16
  · rw [List.getElem?_append_left (by omega), List.getElem?_take, if_pos h1, if_neg (by omega)]
  · rw [List.getElem?_append_right (by omega), e1]
    by_cases h2 : i < 20
    · rw [List.getElem?_append_left (by simp; omega), if_pos (by omega), List.getElem?_replicate, if_pos (by omega)]
      rfl
    · rw [List.getElem?_append_right (by simp; omega), if_neg (by omega), List.length_replicate, List.getElem?_take, if_pos (by omega), List.getElem?_drop]
      congr 2
      omega

set_option maxHeartbeats 1000000 in
theorem headSum_any (b off cap : Nat) (l : List Int) (w : World) (hlen : l.length = 512) (hcap : 512 ≤ cap) (hcm : cap ≤ maxLen) (hb : Byts l) (hl : Lies w (some ⟨b, off, none⟩) l) :
    Calls Tryd.prog 80 #[.slice (some ⟨b, off, none⟩) 512 cap] w fun e w' => e = .returned (.int .u32 (moreC 0 (blankG l))) ∧ Below w.heap.size w w' := by
  have hl92 : (l.take 92).length = 92 := by rw [List.length_take]; omega
  have HO := hide (show Calls Tryd.prog 97 #[.slice (some ⟨b, off, none⟩) 92 cap, .int .i64 16] w fun e w' => e = .returned (.int .u32 (moreC 0 (blankG l))) ∧ Below w.heap.size w w' by
    have h := Over_any (some ⟨b, off, none⟩) cap (l.take 92) (blankG l) 16 w (by omega) (hb.take 92) ⟨by omega, hcm, (fun e => by cases e), hl.takeG 92⟩ (by rw [hl92]; unfold blankG; simp; omega) (fun i hi => blankG_get l hlen i (by omega))
    rw [hl92] at h
    exact h)
  have k1 : ¬ (cap : Int) < 92 := by omega
  clear hb hl hlen hl92 hcm hcap
  go_enter Tryd.func80, Tryd.ntmps80
  go_wp2_with fail
  refine HO.out.mono ?_
  rintro e9 w5 ⟨rfl, h5⟩
  go_wp2_with fail
  go_ret
  exact ⟨rfl, h5⟩
end Go.Proofs.YtpbnjobjjnhplaaDoor.Oct
