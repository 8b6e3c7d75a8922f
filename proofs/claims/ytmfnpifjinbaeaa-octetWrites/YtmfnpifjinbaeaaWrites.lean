/- For all bytes, places, sizes and numbers the statement OctetWrites answers true and changes nothing that was there: a number that is written stands there, and nothing else is changed; where it doesn't fit nothing is. No condition. -/
import Derived.Test.YtmfnpifjinbaeaaRows
import Derived.Test.YtmfnpifjinbaeaaPatches
import Derived.Deep.RegionWith
import Derived.Lib.SmallJoins
namespace Go.Proofs.Ytmfnpifjinbaeaa.Oct
open Go.RowKit Go.ChangeShapes Go.WideShapes Go.ChangeAt

theorem mod_div (v : Int) (m : Nat) (i : Nat) (hi : 8 * i + 8 ≤ m) : v % 2 ^ m / 2 ^ (8 * i) % 256 = v / 2 ^ (8 * i) % 256 := by
  have e : (2 : Int) ^ m = 2 ^ (8 * i) * 2 ^ (m - 8 * i) := by rw [← Int.pow_add]; congr 1; omega
  have e2 : (2 : Int) ^ (m - 8 * i) = 256 * 2 ^ (m - 8 * i - 8) := by
    rw [show (256 : Int) = 2 ^ 8 from by decide, ← Int.pow_add]
    congr 1
    omega
  have h0 : (0 : Int) < 2 ^ (8 * i) := Int.pow_pos (by omega)
  have h1 : (0 : Int) < 2 ^ (m - 8 * i - 8) := Int.pow_pos (by omega)
  rw [e, e2]
  generalize (2 : Int) ^ (8 * i) = y at *
  generalize (2 : Int) ^ (m - 8 * i - 8) = z at *
  have a1 : v % (y * (256 * z)) = v - y * (256 * z * (v / (y * (256 * z)))) := by
    have := Int.emod_add_mul_ediv v (y * (256 * z))
    rw [Int.mul_assoc] at this
    omega
  rw [a1, Int.sub_eq_add_neg, ← Int.mul_neg, Int.add_mul_ediv_left _ _ (by omega), ← Int.mul_neg, Int.mul_assoc, Int.add_mul_emod_self_left]

theorem putN_mod (l : List Int) (p : Nat) (v : Int) (m : Nat) : ∀ n, 8 * n ≤ m → putN l p (v % 2 ^ m) n = putN l p v n
  | 0, _ => rfl
  | n + 1, h => by rw [putN, putN, putN_mod l p v m n (by omega), mod_div v m n (by omega)]

theorem over_snoc (l : List Int) (p : Nat) (m : List Int) (x : Int) (h : p + m.length + 1 ≤ l.length) : over l p (m ++ [x]) = (over l p m).set (p + m.length) x := by
  have e1 : (l.take p).length = p := by simp; omega
  have e2 : l.drop (p + m.length) = l[p + m.length] :: l.drop (p + m.length + 1) := List.drop_eq_getElem_cons (by omega)
  unfold over
  rw [List.set_append_right _ _ (by omega), e1, Nat.add_sub_cancel_left, List.set_append_right _ _ (by omega), Nat.sub_self, e2]
  simp [Nat.add_assoc]

theorem over_bytes (l : List Int) (p : Nat) (v : Int) : ∀ n, p + n ≤ l.length → over l p (bytesOf v n) = putN l p v n
  | 0, _ => by simp [over, bytesOf, putN]
  | n + 1, h => by
    rw [bytesOf, over_snoc l p _ _ (by rw [bytesOf_length]; omega), over_bytes l p v n (by omega), bytesOf_length, putN]
    congr 2
    rw [Int.pow_mul]
    rfl

/-- The three sizes. -/
def pw : Nat → Nat
  | 0 => 2
  | 1 => 4
  | _ => 8

theorem pw_pos (s : Nat) : 2 ≤ pw s ∧ pw s ≤ 8 := by
  match s with
  | 0 => simp [pw]
  | 1 => simp [pw]
  | s + 2 => simp [pw]

theorem pw_step (k : Nat) (hk : k < 2) : pw (k + 1) = pw k * 2 := by
  match k with
  | 0 => rfl
  | 1 => rfl

set_option maxHeartbeats 400000 in
theorem put_yes (B g n cap : Nat) (L : List Int) (v : Int) (q s : Nat) (hs : s < 3) (w : World) (ho : Own w B (.slice (some ⟨g, 0, none⟩) n cap) L) (hn : n = L.length) (hlen : n ≤ 1000000) (hq : q + pw s ≤ n) (hB : B ≤ g) (hBw : B ≤ w.heap.size) :
    Calls Try.prog 15 #[.slice (some ⟨g, 0, none⟩) n cap, .int .i64 q, .int .i64 (pw s), .int .u64 v] w fun e w' =>
      e = .returned (.bool true) ∧ Own w' B (.slice (some ⟨g, 0, none⟩) n cap) (putN L q v (pw s)) ∧ Below B w w' := by
  subst hn
  have key : ∀ {Q : Prop} {w' : World} {r : Nat}, r = g → w.grownBy w' (some r) → (Below B w w' → Q) → Q := by
    intro Q w' r e h k
    subst e
    exact k ((Below.refl B w).grown h hBw (by intro j hj; simp at hj; omega))
  match s, hs, hq with
  | 0, _, hq =>
    have h2 := Put16_yes B g cap L q (v % 65536) w (by unfold maxLen; omega) (by simpa [pw] using hq) ho
    have e : putN L q (v % 65536) 2 = putN L q v 2 := putN_mod L q v 16 2 (by omega)
    rw [e] at h2
    have H2 := hide h2
    clear h2 e ho hq
    show Calls Try.prog 15 #[.slice (some ⟨g, 0, none⟩) L.length cap, .int .i64 q, .int .i64 2, .int .u64 v] w fun e w' => e = .returned (.bool true) ∧ Own w' B (.slice (some ⟨g, 0, none⟩) L.length cap) (putN L q v 2) ∧ Below B w w'
    go_enter Try.func15, Try.ntmps15
    go_wp2_with fail
    first | rw [IntKind.wrap_u16] | skip
    refine H2.out.mono ?_
    rintro e w1 ⟨rfl, ho1, hg1⟩
    go_wp2_with fail
    go_ret
    exact key rfl hg1 fun hb => ⟨rfl, ho1, hb⟩
  | 1, _, hq =>
    have h2 := Put32_yes B g cap L q (v % 4294967296) w (by unfold maxLen; omega) (by simpa [pw] using hq) ho
    have e : putN L q (v % 4294967296) 4 = putN L q v 4 := putN_mod L q v 32 4 (by omega)
    rw [e] at h2
    have H2 := hide h2
    clear h2 e ho hq
    show Calls Try.prog 15 #[.slice (some ⟨g, 0, none⟩) L.length cap, .int .i64 q, .int .i64 4, .int .u64 v] w fun e w' => e = .returned (.bool true) ∧ Own w' B (.slice (some ⟨g, 0, none⟩) L.length cap) (putN L q v 4) ∧ Below B w w'
    go_enter Try.func15, Try.ntmps15
    go_wp2_with fail
    first | rw [IntKind.wrap_u32'] | skip
    refine H2.out.mono ?_
    rintro e w1 ⟨rfl, ho1, hg1⟩
    go_wp2_with fail
    go_ret
    exact key rfl hg1 fun hb => ⟨rfl, ho1, hb⟩
  | 2, _, hq =>
    have h2 := Put64_yes B g cap L q v w (by unfold maxLen; omega) (by simpa [pw] using hq) ho
    have H2 := hide h2
    clear h2 ho hq
    show Calls Try.prog 15 #[.slice (some ⟨g, 0, none⟩) L.length cap, .int .i64 q, .int .i64 8, .int .u64 v] w fun e w' => e = .returned (.bool true) ∧ Own w' B (.slice (some ⟨g, 0, none⟩) L.length cap) (putN L q v 8) ∧ Below B w w'
    go_enter Try.func15, Try.ntmps15
    go_wp2_with fail
    refine H2.out.mono ?_
    rintro e w1 ⟨rfl, ho1, hg1⟩
    go_wp2_with fail
    go_ret
    exact key rfl hg1 fun hb => ⟨rfl, ho1, hb⟩

set_option maxHeartbeats 400000 in
theorem put_no (a : Option Addr) (len cap : Nat) (p v : Int) (s : Nat) (hs : s < 3) (w : World) (hlen : len ≤ maxLen) (hp : p ≤ 9223372036854775807) (hp2 : -9223372036854775808 ≤ p) (h : ¬ (0 ≤ p ∧ (0 : Int) ≤ pw s ∧ pw s ≤ len - p)) :
    Calls Try.prog 15 #[.slice a len cap, .int .i64 p, .int .i64 (pw s), .int .u64 v] w fun e w' => e = .returned (.bool false) ∧ w' = w := by
  match s, hs, h with
  | 0, _, h =>
    have H2 := fun v => hide (Put16_no a len cap p v w hlen hp hp2 h)
    clear h
    show Calls Try.prog 15 #[.slice a len cap, .int .i64 p, .int .i64 2, .int .u64 v] w fun e w' => e = .returned (.bool false) ∧ w' = w
    go_enter Try.func15, Try.ntmps15
    go_wp2_with fail
    refine (H2 _).out.mono ?_
    rintro e w1 ⟨rfl, rfl⟩
    go_wp2_with fail
    go_ret
    exact ⟨rfl, rfl⟩
  | 1, _, h =>
    have H2 := fun v => hide (Put32_no a len cap p v w hlen hp hp2 h)
    clear h
    show Calls Try.prog 15 #[.slice a len cap, .int .i64 p, .int .i64 4, .int .u64 v] w fun e w' => e = .returned (.bool false) ∧ w' = w
    go_enter Try.func15, Try.ntmps15
    go_wp2_with fail
    refine (H2 _).out.mono ?_
    rintro e w1 ⟨rfl, rfl⟩
    go_wp2_with fail
    go_ret
    exact ⟨rfl, rfl⟩
  | 2, _, h =>
    have H2 := fun v => hide (Put64_no a len cap p v w hlen hp hp2 h)
    clear h
    show Calls Try.prog 15 #[.slice a len cap, .int .i64 p, .int .i64 8, .int .u64 v] w fun e w' => e = .returned (.bool false) ∧ w' = w
    go_enter Try.func15, Try.ntmps15
    go_wp2_with fail
    refine (H2 _).out.mono ?_
    rintro e w1 ⟨rfl, rfl⟩
    go_wp2_with fail
    go_ret
    exact ⟨rfl, rfl⟩

/-- What a statement's argument is boxed as. -/
def Box (w : World) (H : Nat) (x0 x1 x2 x3 : Value) : Prop :=
  w.cell? ⟨H, 0, none⟩ = some x0 ∧ w.cell? ⟨H, 1, none⟩ = some x1 ∧ w.cell? ⟨H, 2, none⟩ = some x2 ∧ w.cell? ⟨H, 3, none⟩ = some x3

theorem Box.below {w w' : World} {H B : Nat} {x0 x1 x2 x3 : Value} (h : Box w H x0 x1 x2 x3) (hb : Below B w w') (hH : H < B) : Box w' H x0 x1 x2 x3 :=
  ⟨(hb.cell (p := ⟨H, 0, none⟩) hH).trans h.1, (hb.cell (p := ⟨H, 1, none⟩) hH).trans h.2.1, (hb.cell (p := ⟨H, 2, none⟩) hH).trans h.2.2.1, (hb.cell (p := ⟨H, 3, none⟩) hH).trans h.2.2.2⟩

theorem Box.new (w : World) (t : TypeId) (x0 x1 x2 x3 : Value) : Box (w.alloc (.cells #[x0, x1, x2, x3] t)) w.heap.size x0 x1 x2 x3 := by
  refine ⟨?_, ?_, ?_, ?_⟩ <;> simp

theorem Own.lies' {w : World} {B n cap : Nat} {a : Option Addr} {L : List Int} (h : Own w B (.slice a n cap) L) : Lies w a L := by
  obtain ⟨a2, cap2, e, hsl, _⟩ := h.sl
  simp at e
  rw [e.1]
  exact hsl.lies

theorem size_of (z : Int) : ∃ s : Nat, (IntKind.u64.wrap z).tmod 3 = (s : Int) ∧ s ≤ 2 := by
  have h0 : 0 ≤ IntKind.u64.wrap z := by rw [IntKind.wrap_u64]; omega
  have e : (IntKind.u64.wrap z).tmod 3 = (IntKind.u64.wrap z) % 3 := Int.tmod_eq_emod_of_nonneg h0
  rw [e]
  exact ⟨((IntKind.u64.wrap z) % 3).toNat, by omega, by omega⟩

set_option maxHeartbeats 8000000 in
theorem writes_walk (a : Option Addr) (cap : Nat) (l : List Int) (p z v : Int) (w : World) (hn : l.length ≤ maxLen) (hb : Byts l)
    (hs : Sl w a cap l) (hp : p ≤ 9223372036854775807) (hp2 : -9223372036854775808 ≤ p) (hv0 : 0 ≤ v) (hv : v < 18446744073709551616) :
    Calls Try.prog 4 #[.agg #[.slice a l.length cap, .int .i64 p, .int .i64 z, .int .u64 v]] w fun e w' => e = .returned (.bool true) ∧ Below w.heap.size w w' := by
  have HS := hide hs
  have HN := hide hn
  unfold maxLen at hn
  clear hs
  by_cases hbig : 300 < l.length
  · go_enter Try.func4, Try.ntmps4
    go_wp2_with fail
    refine (low_any _).mono ?_
    rintro e w1 ⟨rfl, hb1⟩
    go_wp2_with fail
    go_ret
    exact ⟨rfl, ((Below.refl _ _).alloc (Nat.le_refl _) _).trans (hb1.mono (by simp))⟩
  · obtain ⟨s, hsz, hs2⟩ := size_of z
    have hnew := Box.new w 36 (.slice a l.length cap) (.int .i64 p) (.int .i64 z) (.int .u64 v)
    have HBox := hide hnew
    clear hnew
    go_enter Try.func4, Try.ntmps4
    go_wp2_with fail
    go_loop [3, 4] (fun n i => ∃ k : Nat, k ≤ s ∧ i = .int .i64 k ∧ n = .int .i64 (pw k)) (fun _ i => s - (intOf i).toNat)
    case atStart => exact ⟨0, by omega, rfl, rfl⟩
    case round =>
      obtain ⟨k, hk, rfl, rfl⟩ := hrel
      by_cases hlt : k < s
      · have hpb := pw_pos k
        have HP := hide (pw_step k (by omega))
        go_wp2_with fail
        go_round
        case rel => exact ⟨k + 1, by omega, by go_num, by rw [HP.out]; go_num⟩
        case measure => simp [intOf]; omega
      · obtain rfl : k = s := by omega
        have hpb := pw_pos k
        go_wp2_with fail
        have HW := hide ((Below.refl w.heap.size w).alloc (Nat.le_refl _) (.cells #[.slice a l.length cap, .int .i64 p, .int .i64 z, .int .u64 v] 36))
        have hH : w.heap.size < (w.alloc (.cells #[.slice a l.length cap, .int .i64 p, .int .i64 z, .int .u64 v] 36)).heap.size := by simp
        have HH := hide hH
        clear hH
        generalize w.alloc (.cells #[.slice a l.length cap, .int .i64 p, .int .i64 z, .int .u64 v] 36) = W0 at *
        have HS0 := hide ((HS.out.below HW.out))
        refine (Part_any a cap l W0 (by omega) HS0.out).mono ?_
        rintro e w1 ⟨v1, rfl, ho1, hb1⟩
        obtain ⟨a1, cap1, rfl, hsl1, hne1⟩ := ho1.sl
        have HB1 := hide hb1
        have HO1 := hide ho1
        have HSL1 := hide hsl1
        have HNE1 := hide hne1
        obtain ⟨c0, c1, c2, c3⟩ := HBox.out.below hb1 HH.out
        clear ho1 hb1 hsl1 hne1
        by_cases hthere : 0 ≤ p ∧ (0 : Int) ≤ pw k ∧ pw k ≤ l.length - p
        · obtain ⟨q, rfl⟩ := Int.eq_ofNat_of_zero_le hthere.1
          obtain ⟨g, rfl, hg1, hg2⟩ := HNE1.out (by rintro rfl; simp at hthere; omega)
          have HG := hide hg1
          clear hg1 hg2
          go_wp2_with fail
          clear c0 c1 c2 c3
          refine (put_yes _ g l.length cap1 l v q k (by omega) w1 HO1.out rfl (by omega) (by omega) HG.out HB1.out.size).mono ?_
          rintro e w2 ⟨rfl, ho2, hb2⟩
          have HB2 := hide (HB1.out.trans hb2)
          have HO2 := hide ho2
          clear ho2 hb2
          obtain ⟨c0, c1, c2, c3⟩ := HBox.out.below HB2.out HH.out
          go_wp2_with fail
          refine (In_yes _ _ _ _ _ _ HN.out (by omega) (by omega) (by omega)).mono ?_
          rintro e w3 ⟨rfl, rfl⟩
          go_wp2_with fail
          have hbl := bytesOf_length v (pw k)
          have HBL := hide hbl
          clear hbl
          have HOV := hide (over_bytes l q v (pw k) (by omega))
          go_region_with (first
            | (go_at_call 9; refine (low_any _).mono ?_; rintro e w4 ⟨rfl, hb4⟩; have HB4 := hide (HB2.out.drew.trans (hb4.mono HB2.out.size)); have HO4 := hide (Own.below (w := w3) HO2.out ⟨hb4.os, hb4.tape, hb4.output, hb4.size, hb4.block⟩); obtain ⟨d0, d1, d2, d3⟩ := HBox.out.below HB4.out HH.out; clear hb4)
            | (go_at_call 19; refine (Bytes_any v (pw k) _ (by omega) hv0 hv).mono ?_; rintro e w5 ⟨v5, rfl, ho5, hb5⟩; have HB5 := hide (HB4.out.trans (hb5.mono HB4.out.size)); have HO45 := hide (HO4.out.below hb5); obtain ⟨e0, e1, e2, e3⟩ := HBox.out.below HB5.out HH.out; obtain ⟨a5, cap5, rfl, hsl5, _⟩ := ho5.sl; have HSL5 := hide hsl5; clear hb5 ho5 hsl5)
            | (go_at_call 18; refine (With_any a cap l a5 cap5 (bytesOf v (pw k)) q _ (by omega) (by rw [HBL.out]; omega) (by rw [HBL.out]; omega) (HS0.out.below HB5.out) HSL5.out).mono ?_; rintro e w6 ⟨v6, rfl, ho6, hb6⟩; have HB6 := hide (HB5.out.trans (hb6.mono HB5.out.size)); have HO6 := hide (HO45.out.below hb6); obtain ⟨f0, f1, f2, f3⟩ := HBox.out.below HB6.out HH.out; obtain ⟨a6, cap6, rfl, hsl6, _⟩ := ho6.sl; have HSL6 := hide hsl6; clear hb6 ho6 hsl6)
            | (go_at_call 17; refine (Same_eq (some ⟨g, 0, none⟩) a6 _ _ cap1 cap6 (over l q (bytesOf v (pw k))) _ (by rw [over_length (by rw [HBL.out]; omega)]) rfl (by rw [HOV.out]; exact HO6.out.lies') HSL6.out.lies (hb.over (Byts.bytesOf v _) q)).mono ?_; rintro e w7 ⟨rfl, rfl⟩))
          all_goals go_wp2_with fail
          all_goals
            go_ret
            exact ⟨rfl, HW.out.trans (HB6.out.mono (by have := HH.out; omega))⟩
        · go_wp2_with fail
          clear c0 c1 c2 c3
          refine (put_no _ _ _ _ _ k (by omega) w1 HN.out hp hp2 hthere).mono ?_
          rintro e w2 ⟨rfl, rfl⟩
          obtain ⟨c0, c1, c2, c3⟩ := HBox.out.below HB1.out HH.out
          go_wp2_with fail
          refine (In_no _ _ _ _ _ _ HN.out hp hp2 hthere).mono ?_
          rintro e w3 ⟨rfl, rfl⟩
          go_wp2_with fail
          refine (low_any _).mono ?_
          rintro e w4 ⟨rfl, hb4⟩
          have HB4 := hide (HB1.out.trans (hb4.mono HB1.out.size))
          have HSL4 := hide (HSL1.out.below hb4)
          obtain ⟨d0, d1, d2, d3⟩ := HBox.out.below HB4.out HH.out
          clear hb4 c0 c1 c2 c3
          go_wp2_with fail
          refine (Same_eq a1 a _ _ cap1 cap l _ rfl rfl HSL4.out.lies (HS0.out.below HB4.out).lies hb).mono ?_
          rintro e w5 ⟨rfl, rfl⟩
          go_wp2_with fail
          go_ret
          exact ⟨rfl, HW.out.trans (HB4.out.mono (by have := HH.out; omega))⟩

theorem cells36 : Try.prog.cellsOf 36 = 4 := by kernel_rfl

set_option maxRecDepth 100000 in
theorem octetWrites_lifted (os : Os) (started : os.Started) (H : Type) (enc : TypeId × Value → H) :
    ReturnsInHanded {} Try.checked os 4 .any (Rows.octetWritesSpec.pre6 enc Try.prog Try.f4 Rows.octetWritesRow.domain false) (Rows.octetWritesSpec.post enc Try.prog Try.f4 false true false false) := by
  refine returnsInHanded_of_change (C := Try.checked) own started (by kernel_rfl) Try.func4
    (ChangeSpec.witness6 (enc := enc) (C := Try.checked) false ⟨#[], #[.agg #[.slice none 0 0, .int .i64 0, .int .i64 0, .int .u64 0]], []⟩ 8 (by kernel_rfl) (by kernel_rfl) (by kernel_rfl) (by kernel_rfl)) ?_
  intro W base args ds gs before hval0 hW _ _
  have hval : ∀ (j : Nat) t v, Try.f4.params[j]? = some t → args[j]? = some v → Value.okWide Try.prog W .any base t v := hval0
  have hW' := hW
  obtain ⟨p, q, hA0, hV, rfl, hfz, hnd⟩ := hW
  have hA : DataW.TrodAll enc Try.prog W 0 (fun _ => true) true Try.f4.params.toList args.toList ds p := hA0
  rw [Try.params4] at hA hval
  obtain ⟨v0, vs0, d0, ds0, p0, q0, hargs0, rfl, rfl, h0, r0⟩ := trodAll_cons hA
  obtain ⟨rfl, rfl, rfl⟩ := trodAll_nil r0
  obtain rfl : args = #[v0] := by cases args; simp_all
  obtain ⟨rfl, rfl⟩ := trodVars_none hV
  simp only [List.append_nil] at hW'
  have hlt0 : ∀ x ∈ p0, x.block < W.heap.size := fun x hx => by simpa using hW'.lt x (by simp [hx])
  have h0k := h0
  obtain ⟨u0, u1, u2, u3, y0, y1, y2, y3, n, rfl, _, _, t0, t1, t2, t3⟩ := Joins.open_agg4 Try.underlying36 (by kernel_rfl) cells36 (hval 0 36 v0 rfl rfl) h0
  obtain ⟨a0, cap0, l0, rfl, hn0, hb0, _, hs0⟩ := open_bytes_trod t0
  obtain ⟨x1, rfl, w1⟩ := open_int_trod Try.underlying3 t1
  obtain ⟨x2, rfl, w2⟩ := open_int_trod Try.underlying3 t2
  obtain ⟨x3, rfl, w3⟩ := open_int_trod Try.underlying30 t3
  clear hA0
  refine (writes_walk a0 cap0 l0 x1 x2 x3 W hn0 hb0 hs0 (wf_i64 w1).2 (wf_i64 w1).1 (wf_u64 w3).1 (wf_u64 w3).2).mono fun e W' ⟨he, hb⟩ => ?_
  subst he
  refine ⟨_, rfl, _, _, _, [], (p0 ++ []), [], hW', ?_, ?_, rfl, hb.frame _, fun h => by cases h⟩
  · exact trodAll_cons_mk (shut_bool Try.underlying4 _) trodAll_mk0
  · exact trodAll_cons_mk (Below.trod laidOut (by kernel_rfl) (of_decide_eq_true (by kernel_rfl)) h0k hb hlt0) (trodAll_mk0)

theorem octetWrites_holds : Rows.OctetWritesSaid :=
  OpenClaim.holds_of_wide 4 Try.f4 rfl rfl rfl rfl rfl rfl rfl ⟨rfl, rfl, rfl, rfl, rfl⟩ rfl rfl rfl rfl rfl (by kernel_rfl) Try.func4 (by kernel_rfl)
    (of_decide_eq_true (by kernel_rfl)) (by unfold Func.isWrapper; first | (rw [if_pos (by decide +kernel)]; kernel_rfl) | (rw [if_neg (by decide +kernel)]; exact ⟨rfl, rfl⟩))
    (fun os started H enc _ => octetWrites_lifted os started H enc)
end Go.Proofs.Ytmfnpifjinbaeaa.Oct
