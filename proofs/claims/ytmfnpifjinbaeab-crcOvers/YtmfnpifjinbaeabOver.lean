/- For all texts and places the statement CrcOvers answers true and changes nothing that was there: the sum with four bytes counting as 0 is what the chapter says, wherever they stand. No condition. -/
import Derived.Test.YtmfnpifjinbaeabRows
import Derived.Test.YtmfnpifjinbaeabMore
import Derived.Test.YtmfnpifjinbaeabLst
import Derived.Deep.RegionWith
namespace Go.Proofs.Ytmfnpifjinbaeab.Oct
open Go.RowKit Go.ChangeShapes Go.WideShapes Go.ChangeAt

theorem Lies.cut {w : World} {a : Option Addr} {l : List Int} (h : Lies w a l) (p n : Nat) : Lies w (a.map fun x => x.add p) ((l.drop p).take n) := by
  cases a with
  | none =>
    rcases h with rfl | ⟨b, off, h, _⟩
    · left; simp
    · cases h
  | some x =>
    rcases h with rfl | ⟨b, off, h, hlt, hc⟩
    · left; simp
    · cases h
      have := Lies.of_part (Or.inr ⟨b, off, rfl, hlt, hc⟩ : Lies w (some ⟨b, off, none⟩) l) p n
      simpa [Go.WideShapes.add_plain] using this

theorem Sl.take {w : World} {a : Option Addr} {cap : Nat} {l : List Int} (h : Sl w a cap l) (n : Nat) : Sl w a cap (l.take n) := ⟨by have := h.le; simp; omega, h.max, h.none, by
  rcases h.lies with e | ⟨b0, o0, rfl, _, _⟩
  · left; rw [e]; simp
  · have := h.lies.of_part 0 n; simpa using this⟩

theorem Sum_three (x0 x1 x2 : Option Addr) (n0 n1 n2 c0 c1 c2 : Nat) (l0 l1 l2 : List Int) (w : World) (H : Nat) (hH : w.heap.size = H) (e0 : n0 = l0.length) (e1 : n1 = l1.length) (e2 : n2 = l2.length)
    (hm : l0.length ≤ 1000000 ∧ l1.length ≤ 1000000 ∧ l2.length ≤ 1000000) (b0 : Byts l0) (b1 : Byts l1) (b2 : Byts l2) (s0 : Sl w x0 c0 l0) (s1 : Sl w x1 c1 l1) (s2 : Sl w x2 c2 l2) :
    Calls Try.prog 16 #[.slice (some ⟨H, 0, none⟩) 3 3] (w.alloc (.cells #[.slice x0 n0 c0, .slice x1 n1 c1, .slice x2 n2 c2] 22)) fun e w' =>
      e = .returned (.int .u32 (moreC 0 (l0 ++ l1 ++ l2))) ∧ Below w.heap.size w w' := by
  subst hH e0 e1 e2
  have hal := (Below.refl w.heap.size w).alloc (Nat.le_refl _) (.cells #[.slice x0 l0.length c0, .slice x1 l1.length c1, .slice x2 l2.length c2] 22)
  refine (Sum_any (some ⟨w.heap.size, 0, none⟩) 3 [l0, l1, l2] _ (by unfold maxLen; simp) (fun r => by
    match r with
    | 0 => unfold maxLen; simp; omega
    | 1 => unfold maxLen; simp; omega
    | 2 => unfold maxLen; simp; omega
    | r + 3 => simp) (fun r => by
    match r with
    | 0 => simpa using b0
    | 1 => simpa using b1
    | 2 => simpa using b2
    | r + 3 => intro k; simp) (Or.inr ⟨w.heap.size, 0, rfl, by simp, fun r hr => by
      have hr3 : r < 3 := by simpa using hr
      match r, hr3 with
      | 0, _ => exact ⟨x0, c0, by simp, by simpa using s0.below hal⟩
      | 1, _ => exact ⟨x1, c1, by simp, by simpa using s1.below hal⟩
      | 2, _ => exact ⟨x2, c2, by simp, by simpa using s2.below hal⟩⟩)).mono ?_
  rintro e w' ⟨rfl, rfl⟩
  exact ⟨by simp, hal⟩

set_option maxHeartbeats 400000 in
theorem gap_no (p : Int) (n : Nat) (w : World) (h : p ≤ -4 ∨ (n : Int) ≤ p) :
    Calls Try.prog 29 #[.int .i64 p, .int .i64 n] w fun e w' => e = .returned (.tuple #[.int .i64 0, .int .i64 0]) ∧ w' = w := by
  by_cases h1 : p ≤ -4
  all_goals
    go_enter Try.func29, Try.ntmps29
    go_wp2_with fail
    go_ret2
    exact ⟨rfl, rfl⟩

set_option maxHeartbeats 400000 in
theorem gap_yes (p : Int) (n f t : Nat) (w : World) (h0 : ¬ p ≤ -4) (h1 : ¬ (n : Int) ≤ p) (hn : n ≤ 1000000) (hf : (f : Int) = max p 0) (ht : (t : Int) = min (p + 4) n) :
    Calls Try.prog 29 #[.int .i64 p, .int .i64 n] w fun e w' => e = .returned (.tuple #[.int .i64 f, .int .i64 t]) ∧ w' = w := by
  have HF := hide hf
  have HT := hide ht
  clear hf ht
  by_cases h2 : p < 0
  all_goals
    by_cases h3 : (n : Int) < p + 4
    all_goals
      go_enter Try.func29, Try.ntmps29
      go_wp2_with fail
      all_goals
        go_ret2
        refine ⟨?_, rfl⟩
        have := HF.out
        have := HT.out
        simp
        omega

theorem size5' : (Try.prog.info? 5).map (fun i => i.size) = some 1 := by kernel_rfl

theorem run_noughts (u : World) (H : Nat) (d : Int) (n : Nat) (hd : d = n) (hn : n ≤ 4) :
    (Instr.sliceAt 53 (.pointer (some ⟨H, 0, none⟩)) none (some (.int .i64 d)) none).run Try.prog u = .ok (.slice (some ⟨H, 0, none⟩) n 4) u := by
  subst hd
  have e1 : Try.prog.arrayLen 53 = 4 := by simp [Program.arrayLen, Try.underlying53]
  have e2 : Try.prog.elem 53 = 5 := by simp [Program.elem, Try.underlying53]
  have ht : Try.prog.underlying 53 = some (.array (Try.prog.arrayLen 53) (Try.prog.elem 53)) := by rw [e1, e2]; exact Try.underlying53
  have hsz : (sizeOf 5).run Try.prog u = .ok 1 u := by
    have h5 := size5'
    cases hq : Try.prog.info? 5 with
    | none => simp [hq] at h5
    | some i =>
      have hi : i.size = 1 := by simpa [hq] using h5
      simp [sizeOf, typeInfo, hq, hi]
  rw [run_sliceAt_array_h u 53 ⟨H, 0, none⟩ ht .i64 n (by omega) (by rw [e1]; omega), e1, e2, hsz]
  simp [slicedAt, Result.andThen, Go.WideShapes.add_plain]

set_option maxHeartbeats 4000000 in
theorem Over_core (a : Option Addr) (cap : Nat) (l : List Int) (p : Int) (f t : Nat) (w : World) (hlen : l.length ≤ 400) (hb : Byts l) (hs : Sl w a cap l) (hft : f ≤ t) (ht4 : t - f ≤ 4) (htl : t ≤ l.length)
    (hgap : ∀ u : World, Calls Try.prog 29 #[.int .i64 p, .int .i64 l.length] u fun e w' => e = .returned (.tuple #[.int .i64 f, .int .i64 t]) ∧ w' = u) :
    Calls Try.prog 21 #[.slice a l.length cap, .int .i64 p] w fun e w' => e = .returned (.int .u32 (moreC 0 (l.take f ++ List.replicate (t - f) 0 ++ l.drop t))) ∧ Below w.heap.size w w' := by
  obtain ⟨S, hS⟩ : ∃ S, S = moreC 0 (l.take f ++ List.replicate (t - f) 0 ++ l.drop t) := ⟨_, rfl⟩
  rw [← hS]
  have HSS := hide hS
  clear hS
  have HG := hide hgap
  have hle := hs.le
  have hsl := fun u H => run_noughts u H (IntKind.i64.wrap ((t : Int) - f)) (t - f) (by rw [IntKind.wrap_i64]; omega) ht4
  have hsl2 := fun u H => run_noughts u H ((t : Int) - f) (t - f) (by omega) ht4
  have hal := (Below.refl w.heap.size w).alloc (Nat.le_refl _) (.cells #[.int .u8 0, .int .u8 0, .int .u8 0, .int .u8 0] 53)
  have S0 : Hid (Sl (w.alloc (.cells #[.int .u8 0, .int .u8 0, .int .u8 0, .int .u8 0] 53)).drew a cap (l.take f)) := (hs.take f).below hal.drew
  have S1 : Hid (Sl (w.alloc (.cells #[.int .u8 0, .int .u8 0, .int .u8 0, .int .u8 0] 53)).drew (some ⟨w.heap.size, 0, none⟩) 4 (List.replicate (t - f) 0)) := by
    refine ⟨by simp; omega, by unfold maxLen; omega, fun h => (by cases h), Lies.drew (Lies.mk fun k hk => ?_)⟩
    have hk4 : k < t - f := by simpa using hk
    have : k = 0 ∨ k = 1 ∨ k = 2 ∨ k = 3 := by omega
    rcases this with rfl | rfl | rfl | rfl <;> simp [hk4]
  have E0 : Hid (f = (l.take f).length) := by show _ = _; simp; omega
  have HAL := hide hal
  have L2 : Hid (Lies (w.alloc (.cells #[.int .u8 0, .int .u8 0, .int .u8 0, .int .u8 0] 53)).drew (a.map fun x => x.add t) (l.drop t)) := by
    have := (hs.lies.cut t (l.length - t)).below hal.drew
    rwa [List.take_of_length_le (by simp)] at this
  have HMX := hide hs.max
  have HNN := hide hs.none
  clear hs hgap hal
  go_enter Try.func21, Try.ntmps21
  go_wp2_with fail
  refine (HG.out _).mono ?_
  rintro e w1 ⟨rfl, rfl⟩
  by_cases hend : cap = t
  · subst hend
    have htl2 : l.length = cap := by omega
    have HTL := hide htl2
    clear htl2
    have S2 : Hid (Sl (w.alloc (.cells #[.int .u8 0, .int .u8 0, .int .u8 0, .int .u8 0] 53)).drew a 0 (l.drop cap)) := by
      rw [List.drop_of_length_le (by have := HTL.out; omega)]
      exact ⟨by simp, by simp, fun _ => rfl, Or.inl rfl⟩
    go_wp2_with fail
    go_region_with (go_at_call 16; refine (Sum_three a (some ⟨w.heap.size, 0, none⟩) a f (cap - f) _ cap 4 0 (l.take f) (List.replicate (cap - f) 0) (l.drop cap) _ _ (by simp) E0.out (by simp) (by have := HTL.out; simp; omega) ⟨by simp; omega, by simp; omega, by simp; omega⟩ (hb.take f) (Byts.zeros _) (hb.drop cap) S0.out S1.out S2.out).mono ?_; rw [← HSS.out]; rintro e w2 ⟨rfl, hb2⟩)
    have HBZ := hide (HAL.out.drew.trans (hb2.mono HAL.out.size))
    clear hb2
    go_wp2_with fail
    go_ret
    exact ⟨rfl, HBZ.out⟩
  · have S2 : Hid (Sl (w.alloc (.cells #[.int .u8 0, .int .u8 0, .int .u8 0, .int .u8 0] 53)).drew (a.map fun x => x.add t) (cap - t) (l.drop t)) := 
      ⟨by simp; omega, by have := HMX.out; omega, fun h => by have := HNN.out (by simpa using h); omega, L2.out⟩
    go_wp2_with fail
    go_region_with (go_at_call 16; refine (Sum_three a (some ⟨w.heap.size, 0, none⟩) (a.map fun x => x.add t) f (t - f) _ cap 4 _ (l.take f) (List.replicate (t - f) 0) (l.drop t) _ _ (by simp) E0.out (by simp) (by simp) ⟨by simp; omega, by simp; omega, by simp; omega⟩ (hb.take f) (Byts.zeros _) (hb.drop t) S0.out S1.out S2.out).mono ?_; rw [← HSS.out]; rintro e w2 ⟨rfl, hb2⟩)
    have HBZ := hide (HAL.out.drew.trans (hb2.mono HAL.out.size))
    clear hb2
    go_wp2_with fail
    go_ret
    exact ⟨rfl, HBZ.out⟩

/-- The four bytes that count as 0 are laid. -/
theorem over_list (l m : List Int) (p : Int) (f t : Nat) (hm : m.length = l.length) (hft : f ≤ t) (htl : t ≤ l.length)
    (hin : ∀ i : Nat, i < l.length → ((p ≤ i ∧ (i : Int) < p + 4) ↔ (f ≤ i ∧ i < t)))
    (h : ∀ i, i < l.length → m.getD i 0 = if p ≤ (i : Int) ∧ (i : Int) < p + 4 then 0 else l.getD i 0) : m = l.take f ++ List.replicate (t - f) 0 ++ l.drop t := by
  apply List.ext_getElem
  · simp
    omega
  · intro i h1 h2
    have hi : i < l.length := by omega
    have e := h i hi
    rw [List.getD_eq_getElem?_getD, List.getElem?_eq_getElem h1] at e
    simp only [Option.getD_some] at e
    rw [e]
    have el : l.getD i 0 = l[i] := by simp [hi]
    by_cases hc : p ≤ (i : Int) ∧ (i : Int) < p + 4
    · have hf := (hin i hi).1 hc
      rw [if_pos hc, List.getElem_append_left (by simp; omega), List.getElem_append_right (by simp; omega)]
      simp
    · have hf : ¬ (f ≤ i ∧ i < t) := fun h => hc ((hin i hi).2 h)
      rw [if_neg hc, el]
      by_cases hlt : i < f
      · rw [List.getElem_append_left (by simp; omega), List.getElem_append_left (by simp; omega)]
        simp
      · rw [List.getElem_append_right (by simp; omega)]
        simp
        congr 1
        omega

theorem Over_any (a : Option Addr) (cap : Nat) (l m : List Int) (p : Int) (w : World) (hlen : l.length ≤ 400) (hb : Byts l) (hs : Sl w a cap l) (hm : m.length = l.length)
    (h : ∀ i, i < l.length → m.getD i 0 = if p ≤ (i : Int) ∧ (i : Int) < p + 4 then 0 else l.getD i 0) :
    Calls Try.prog 21 #[.slice a l.length cap, .int .i64 p] w fun e w' => e = .returned (.int .u32 (moreC 0 m)) ∧ Below w.heap.size w w' := by
  by_cases h1 : p ≤ -4 ∨ (l.length : Int) ≤ p
  · have e := over_list l m p 0 0 hm (by omega) (by omega) (fun i hi => by omega) h
    rw [e]
    exact Over_core a cap l p 0 0 w hlen hb hs (by omega) (by omega) (by omega) (fun u => gap_no p l.length u h1)
  · obtain ⟨f, hf⟩ : ∃ f : Nat, (f : Int) = max p 0 := ⟨(max p 0).toNat, by omega⟩
    obtain ⟨t, ht⟩ : ∃ t : Nat, (t : Int) = min (p + 4) l.length := ⟨(min (p + 4) (l.length : Int)).toNat, by omega⟩
    have e := over_list l m p f t hm (by omega) (by omega) (fun i hi => by omega) h
    rw [e]
    exact Over_core a cap l p f t w hlen hb hs (by omega) (by omega) (by omega) (fun u => gap_yes p l.length f t u (by omega) (by omega) (by omega) hf ht)

set_option maxHeartbeats 4000000 in
theorem overs_walk (a : Option Addr) (cap : Nat) (l : List Int) (p : Int) (w : World) (hn : l.length ≤ maxLen) (hb : Byts l) (hs : Sl w a cap l) (hp : p ≤ 9223372036854775807) (hp2 : -9223372036854775808 ≤ p) :
    Calls Try.prog 7 #[.slice a l.length cap, .int .i64 p] w fun e w' => e = .returned (.bool true) ∧ Below w.heap.size w w' := by
  have HS := hide hs
  unfold maxLen at hn
  clear hs
  by_cases hbig : 400 < l.length
  · go_enter Try.func7, Try.ntmps7
    go_wp2_with (go_at_call 15; refine (known_any _).mono ?_; rintro e w' ⟨rfl, hb⟩)
    go_ret
    exact ⟨rfl, hb⟩
  · go_enter Try.func7, Try.ntmps7
    go_wp2_with fail
    refine (Part_any a cap l w (by omega) HS.out).mono ?_
    rintro e w1 ⟨v, rfl, ho1, hb1⟩
    obtain ⟨a1, cap1, rfl, hsl1, hne1⟩ := ho1.sl
    have HB1 := hide hb1
    have HO1 := hide ho1
    have HNE := hide hne1
    clear hb1 ho1 hsl1 hne1
    go_wp2_with fail
    go_loopw [6] (fun i wr => ∃ k : Nat, k ≤ l.length ∧ i = .int .i64 k ∧ ∃ m : List Int, m.length = l.length ∧ Byts m ∧ Own wr w.heap.size (.slice a1 l.length cap1) m ∧ (∀ i, i < l.length → m.getD i 0 = if i < k ∧ p ≤ (i : Int) ∧ (i : Int) < p + 4 then 0 else l.getD i 0) ∧ Below w.heap.size w wr) (fun i _ => l.length - (intOf i).toNat)
    case atStart => exact ⟨0, by omega, rfl, l, rfl, hb, HO1.out, fun i hi => by rw [if_neg (by omega)], HB1.out⟩
    case round =>
      obtain ⟨k, hk, rfl, m, hml, hmb, ho, hval, hbel⟩ := hrel
      have HML := hide hml
      have HMB := hide hmb
      have HO := hide ho
      have HV := hide hval
      have HBel := hide hbel
      clear hml hmb ho hval hbel
      by_cases hlt : k < l.length
      · obtain ⟨g, rfl, hg1, _⟩ := HNE.out (by intro e; rw [e] at hlt; simp at hlt)
        have hcell := HO.out.cell HML.out.symm k hlt
        have hfr := HO.out.free HML.out.symm k
        have HG := hide hg1
        generalize m.getD k 0 = x at *
        clear hg1
        by_cases hin : p ≤ (k : Int) ∧ (k : Int) < p + 4
        · obtain ⟨hi1, hi2⟩ := hin
          have hneg : 0 ≤ p ∨ (k : Int) < 4 := by omega
          have fin : Hid (∃ k_1 : Nat, k_1 ≤ l.length ∧ Value.int .i64 ((k : Int) + 1) = Value.int .i64 k_1 ∧ ∃ m : List Int, m.length = l.length ∧ Byts m ∧ Own (wr.setCell ⟨g, k, none⟩ (.int .u8 0)) w.heap.size (.slice (some ⟨g, 0, none⟩) l.length cap1) m ∧ (∀ i, i < l.length → m.getD i 0 = if i < k_1 ∧ p ≤ (i : Int) ∧ (i : Int) < p + 4 then 0 else l.getD i 0) ∧ Below w.heap.size w (wr.setCell ⟨g, k, none⟩ (.int .u8 0))) := by
            have hst := HO.out.set HML.out.symm k 0
            refine ⟨k + 1, by omega, by go_num, m.set k 0, by rw [List.length_set]; exact HML.out, HMB.out.set _ _ (by omega), hst.1, fun i hi => ?_, HBel.out.grown hst.2 HBel.out.size (by intro j hj; simp at hj; have := HG.out; omega)⟩
            rw [getD_set _ _ _ _ (by rw [HML.out]; omega), HV.out i hi]
            by_cases e : k = i
            · subst e; rw [if_pos rfl, if_pos (by omega)]
            · rw [if_neg e]
              by_cases c : i < k ∧ p ≤ (i : Int) ∧ (i : Int) < p + 4
              · rw [if_pos c, if_pos (by omega)]
              · rw [if_neg c, if_neg (by omega)]
          by_cases hpz : 0 ≤ p
          · go_wp2_with fail
            go_roundw
            case rel => exact fin.out
            case measure => simp [intOf]; omega
          · have hk4 : (k : Int) < 4 := by omega
            have hp4 : -4 < p := by omega
            go_wp2_with fail
            go_roundw
            case rel => exact fin.out
            case measure => simp [intOf]; omega
        · have fin : Hid (∃ k_1 : Nat, k_1 ≤ l.length ∧ Value.int .i64 ((k : Int) + 1) = Value.int .i64 k_1 ∧ ∃ m : List Int, m.length = l.length ∧ Byts m ∧ Own wr w.heap.size (.slice (some ⟨g, 0, none⟩) l.length cap1) m ∧ (∀ i, i < l.length → m.getD i 0 = if i < k_1 ∧ p ≤ (i : Int) ∧ (i : Int) < p + 4 then 0 else l.getD i 0) ∧ Below w.heap.size w wr) := by
            refine ⟨k + 1, by omega, by go_num, m, HML.out, HMB.out, HO.out, fun i hi => ?_, HBel.out⟩
            rw [HV.out i hi]
            by_cases c : i < k ∧ p ≤ (i : Int) ∧ (i : Int) < p + 4
            · rw [if_pos c, if_pos (by omega)]
            · rw [if_neg c, if_neg (by
                intro h
                rcases Nat.lt_or_ge i k with h5 | h5
                · exact c ⟨h5, h.2⟩
                · obtain rfl : i = k := by omega
                  exact hin h.2)]
          by_cases hpk : p ≤ (k : Int)
          · have hge : ¬ (k : Int) - p < 4 := by omega
            by_cases hpz : 0 ≤ p
            · go_wp2_with fail
              go_roundw
              case rel => exact fin.out
              case measure => simp [intOf]; omega
            · by_cases hp4 : -4 < p
              · go_wp2_with fail
                go_roundw
                case rel => exact fin.out
                case measure => simp [intOf]; omega
              · by_cases hk4 : (k : Int) < 4
                all_goals
                  go_wp2_with fail
                  all_goals
                    go_roundw
                    case rel => exact fin.out
                    case measure => simp [intOf]; omega
          · go_wp2_with fail
            go_roundw
            case rel => exact fin.out
            case measure => simp [intOf]; omega
      · obtain rfl : k = l.length := by omega
        have HV2 : Hid (∀ i, i < l.length → m.getD i 0 = if p ≤ (i : Int) ∧ (i : Int) < p + 4 then 0 else l.getD i 0) := fun i hi => by
          rw [HV.out i hi]
          by_cases c : p ≤ (i : Int) ∧ (i : Int) < p + 4
          · rw [if_pos c, if_pos ⟨hi, c⟩]
          · rw [if_neg c, if_neg (fun h => c h.2)]
        obtain ⟨a3, cap3, e3, hsl3, _⟩ := HO.out.sl
        have e4 : a3 = a1 ∧ cap3 = cap1 := by simp at e3; exact ⟨e3.1.symm, e3.2.2.symm⟩
        obtain ⟨rfl, rfl⟩ := e4
        have HSL := hide hsl3
        clear hsl3 e3
        go_wp2_with fail
        refine (known_any _).mono ?_
        rintro e w3 ⟨rfl, hb3⟩
        have HB3 := hide (HBel.out.trans (hb3.mono HBel.out.size))
        have HSL3 := hide (HSL.out.below hb3)
        clear hb3
        go_wp2_with fail
        refine (Over_any a cap l m p w3 (by omega) hb (HS.out.below HB3.out) HML.out HV2.out).mono ?_
        rintro e w4 ⟨rfl, hb4⟩
        have HB4 := hide (HB3.out.trans (hb4.mono HB3.out.size))
        have HSL4 := hide (HSL3.out.below hb4)
        clear hb4
        have hfast := Fast_any a3 cap3 m w4 (by rw [HML.out]; unfold maxLen; omega) HMB.out HSL4.out.lies
        rw [HML.out] at hfast
        have HF := hide hfast
        clear hfast
        go_wp2_with fail
        refine HF.out.mono ?_
        rintro e w5 ⟨rfl, rfl⟩
        go_wp2_with fail
        go_ret
        exact ⟨by simp, HB4.out⟩

set_option maxRecDepth 100000 in
theorem crcOvers_lifted (os : Os) (started : os.Started) (H : Type) (enc : TypeId × Value → H) :
    ReturnsInHanded {} Try.checked os 7 .any (Rows.crcOversSpec.pre6 enc Try.prog Try.f7 Rows.crcOversRow.domain false) (Rows.crcOversSpec.post enc Try.prog Try.f7 false true false false) := by
  refine returnsInHanded_of_change (C := Try.checked) own started (by kernel_rfl) Try.func7
    (ChangeSpec.witness6 (enc := enc) (C := Try.checked) false ⟨#[], #[.slice none 0 0, .int .i64 0], []⟩ 8 (by kernel_rfl) (by kernel_rfl) (by kernel_rfl) (by kernel_rfl)) ?_
  intro W base args ds gs before hval0 hW _ _
  have hval : ∀ (j : Nat) t v, Try.f7.params[j]? = some t → args[j]? = some v → Value.okWide Try.prog W .any base t v := hval0
  have hW' := hW
  obtain ⟨p, q, hA0, hV, rfl, hfz, hnd⟩ := hW
  have hA : DataW.TrodAll enc Try.prog W 0 (fun _ => true) true Try.f7.params.toList args.toList ds p := hA0
  rw [Try.params7] at hA hval
  obtain ⟨v0, vs0, d0, ds0, p0, q0, hargs0, rfl, rfl, h0, r0⟩ := trodAll_cons hA
  obtain ⟨v1, vs1, d1, ds1, p1, q1, hargs1, rfl, rfl, h1, r1⟩ := trodAll_cons r0
  obtain ⟨rfl, rfl, rfl⟩ := trodAll_nil r1
  subst hargs1
  obtain rfl : args = #[v0, v1] := by cases args; simp_all
  obtain ⟨rfl, rfl⟩ := trodVars_none hV
  simp only [List.append_nil] at hW'
  have hlt0 : ∀ x ∈ p0, x.block < W.heap.size := fun x hx => by simpa using hW'.lt x (by simp [hx])
  obtain ⟨a0, cap0, l0, rfl, hn0, hb0, hl0, hs0⟩ := open_bytes (hval 0 22 v0 rfl rfl) h0
  obtain ⟨x1, rfl, rfl, rfl, w1⟩ := open_int Try.underlying3 (hval 1 3 v1 rfl rfl) h1
  clear hA0
  refine (overs_walk a0 cap0 l0 x1 W hn0 hb0 hs0 (wf_i64 w1).2 (wf_i64 w1).1).mono fun e W' ⟨he, hb⟩ => ?_
  subst he
  refine ⟨_, rfl, _, _, _, [], (p0 ++ ([] ++ [])), [], hW', ?_, ?_, rfl, hb.frame _, fun h => by cases h⟩
  · exact trodAll_cons_mk (shut_bool Try.underlying4 _) trodAll_mk0
  · exact trodAll_cons_mk (Below.trod laidOut (by kernel_rfl) (of_decide_eq_true (by kernel_rfl)) h0 hb hlt0) (trodAll_cons_mk (shut_int Try.underlying3 w1) (trodAll_mk0))

theorem crcOvers_holds : Rows.CrcOversSaid :=
  OpenClaim.holds_of_wide 7 Try.f7 rfl rfl rfl rfl rfl rfl rfl ⟨rfl, rfl, rfl, rfl, rfl⟩ rfl rfl rfl rfl rfl (by kernel_rfl) Try.func7 (by kernel_rfl)
    (of_decide_eq_true (by kernel_rfl)) (by unfold Func.isWrapper; first | (rw [if_pos (by decide +kernel)]; kernel_rfl) | (rw [if_neg (by decide +kernel)]; exact ⟨rfl, rfl⟩))
    (fun os started H enc _ => crcOvers_lifted os started H enc)
end Go.Proofs.Ytmfnpifjinbaeab.Oct
