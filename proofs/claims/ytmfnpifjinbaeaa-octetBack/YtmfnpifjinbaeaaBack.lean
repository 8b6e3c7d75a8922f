/- For all bytes, places and numbers the statement OctetBack answers true and changes nothing that was there: what is put is read. No condition. -/
import Derived.Test.YtmfnpifjinbaeaaRows
import Derived.Test.YtmfnpifjinbaeaaPatches
namespace Go.Proofs.Ytmfnpifjinbaeaa.Oct
open Go.RowKit Go.ChangeShapes Go.WideShapes Go.ChangeAt

theorem U16_own (B g n cap : Nat) (L : List Int) (x p : Int) (q : Nat) (w : World) (hp : p = q) (ho : Own w B (.slice (some ⟨g, 0, none⟩) n cap) L) (hn : n = L.length) (hlen : n ≤ 1000000) (hb : Byts L) (hq : q + 2 ≤ n)
    (hx : ∀ i, i < 2 → L.getD (q + i) 0 = x / 2 ^ (8 * i) % 256) :
    Calls Try.prog 10 #[.slice (some ⟨g, 0, none⟩) n cap, .int .i64 p] w fun e w' => e = .returned (.tuple #[.int .u16 (x % 65536), .bool true]) ∧ w' = w := by
  subst hn hp
  have := U16_any (some ⟨g, 0, none⟩) cap L q w (by unfold maxLen; omega) hb (Lies.mk ho.lies) (by omega) (by omega)
  rw [thereB_yes (by omega) (by omega) (by omega), numAt_yes (by omega), num_of L q x 2 hx] at this
  exact this

theorem Put16_own (B g n cap : Nat) (L : List Int) (v p : Int) (q : Nat) (w : World) (hp : p = q) (ho : Own w B (.slice (some ⟨g, 0, none⟩) n cap) L) (hn : n = L.length) (hlen : n ≤ 1000000) (hq : q + 2 ≤ n) (hB : B ≤ g) (hBw : B ≤ w.heap.size) :
    Calls Try.prog 23 #[.slice (some ⟨g, 0, none⟩) n cap, .int .i64 p, .int .u16 v] w fun e w' =>
      e = .returned (.bool true) ∧ Own w' B (.slice (some ⟨g, 0, none⟩) n cap) (putN L q v 2) ∧ Below B w w' := by
  subst hn hp
  refine (Put16_yes B g cap L q v w (by unfold maxLen; omega) hq ho).mono ?_
  rintro e w' ⟨rfl, h1, h2⟩
  exact ⟨rfl, h1, (Below.refl B w).grown h2 hBw (by intro k hk; simp at hk; omega)⟩
theorem U32_own (B g n cap : Nat) (L : List Int) (x p : Int) (q : Nat) (w : World) (hp : p = q) (ho : Own w B (.slice (some ⟨g, 0, none⟩) n cap) L) (hn : n = L.length) (hlen : n ≤ 1000000) (hb : Byts L) (hq : q + 4 ≤ n)
    (hx : ∀ i, i < 4 → L.getD (q + i) 0 = x / 2 ^ (8 * i) % 256) :
    Calls Try.prog 11 #[.slice (some ⟨g, 0, none⟩) n cap, .int .i64 p] w fun e w' => e = .returned (.tuple #[.int .u32 (x % 4294967296), .bool true]) ∧ w' = w := by
  subst hn hp
  have := U32_any (some ⟨g, 0, none⟩) cap L q w (by unfold maxLen; omega) hb (Lies.mk ho.lies) (by omega) (by omega)
  rw [thereB_yes (by omega) (by omega) (by omega), numAt_yes (by omega), num_of L q x 4 hx] at this
  exact this

theorem Put32_own (B g n cap : Nat) (L : List Int) (v p : Int) (q : Nat) (w : World) (hp : p = q) (ho : Own w B (.slice (some ⟨g, 0, none⟩) n cap) L) (hn : n = L.length) (hlen : n ≤ 1000000) (hq : q + 4 ≤ n) (hB : B ≤ g) (hBw : B ≤ w.heap.size) :
    Calls Try.prog 22 #[.slice (some ⟨g, 0, none⟩) n cap, .int .i64 p, .int .u32 v] w fun e w' =>
      e = .returned (.bool true) ∧ Own w' B (.slice (some ⟨g, 0, none⟩) n cap) (putN L q v 4) ∧ Below B w w' := by
  subst hn hp
  refine (Put32_yes B g cap L q v w (by unfold maxLen; omega) hq ho).mono ?_
  rintro e w' ⟨rfl, h1, h2⟩
  exact ⟨rfl, h1, (Below.refl B w).grown h2 hBw (by intro k hk; simp at hk; omega)⟩
theorem U64_own (B g n cap : Nat) (L : List Int) (x p : Int) (q : Nat) (w : World) (hp : p = q) (ho : Own w B (.slice (some ⟨g, 0, none⟩) n cap) L) (hn : n = L.length) (hlen : n ≤ 1000000) (hb : Byts L) (hq : q + 8 ≤ n)
    (hx : ∀ i, i < 8 → L.getD (q + i) 0 = x / 2 ^ (8 * i) % 256) :
    Calls Try.prog 12 #[.slice (some ⟨g, 0, none⟩) n cap, .int .i64 p] w fun e w' => e = .returned (.tuple #[.int .u64 (x % 18446744073709551616), .bool true]) ∧ w' = w := by
  subst hn hp
  have := U64_any (some ⟨g, 0, none⟩) cap L q w (by unfold maxLen; omega) hb (Lies.mk ho.lies) (by omega) (by omega)
  rw [thereB_yes (by omega) (by omega) (by omega), numAt_yes (by omega), num_of L q x 8 hx] at this
  exact this

theorem Put64_own (B g n cap : Nat) (L : List Int) (v p : Int) (q : Nat) (w : World) (hp : p = q) (ho : Own w B (.slice (some ⟨g, 0, none⟩) n cap) L) (hn : n = L.length) (hlen : n ≤ 1000000) (hq : q + 8 ≤ n) (hB : B ≤ g) (hBw : B ≤ w.heap.size) :
    Calls Try.prog 21 #[.slice (some ⟨g, 0, none⟩) n cap, .int .i64 p, .int .u64 v] w fun e w' =>
      e = .returned (.bool true) ∧ Own w' B (.slice (some ⟨g, 0, none⟩) n cap) (putN L q v 8) ∧ Below B w w' := by
  subst hn hp
  refine (Put64_yes B g cap L q v w (by unfold maxLen; omega) hq ho).mono ?_
  rintro e w' ⟨rfl, h1, h2⟩
  exact ⟨rfl, h1, (Below.refl B w).grown h2 hBw (by intro k hk; simp at hk; omega)⟩

theorem back_at (p : Int) (n : Nat) (hn : n ≤ 300) : ∃ q : Nat, wrap64 ((IntKind.u64.wrap p).tmod ((n : Int) + 1)) = q ∧ q ≤ n := by
  have h0 : 0 ≤ IntKind.u64.wrap p := by rw [IntKind.wrap_u64]; omega
  have e : (IntKind.u64.wrap p).tmod ((n : Int) + 1) = (IntKind.u64.wrap p) % ((n : Int) + 1) := Int.tmod_eq_emod_of_nonneg h0
  have h1 : 0 ≤ (IntKind.u64.wrap p) % ((n : Int) + 1) := Int.emod_nonneg _ (by omega)
  have h2 : (IntKind.u64.wrap p) % ((n : Int) + 1) < (n : Int) + 1 := Int.emod_lt_of_pos _ (by omega)
  rw [e]
  obtain ⟨q, hq⟩ := Int.eq_ofNat_of_zero_le h1
  rw [hq] at h2 ⊢
  refine ⟨q, ?_, by omega⟩
  simp only [wrap64]
  omega

theorem ret_bool {a : Bool} (h : a = true) : Ending.returned (.bool a) = .returned (.bool true) := by rw [h]

set_option maxHeartbeats 1000000 in
theorem back_walk (a : Option Addr) (cap : Nat) (l : List Int) (p v : Int) (w : World) (hn : l.length ≤ maxLen) (hb : Byts l)
    (hs : Sl w a cap l) (hv0 : 0 ≤ v) (hv : v < 18446744073709551616) :
    Calls Try.prog 5 #[.slice a l.length cap, .int .i64 p, .int .u64 v] w fun e w' => e = .returned (.bool true) ∧ Below w.heap.size w w' := by
  have HS := hide hs
  have HN := hide hn
  unfold maxLen at hn
  clear hs
  by_cases hbig : 300 < l.length
  · go_enter Try.func5, Try.ntmps5
    go_wp2_with fail
    refine (low_any _).mono ?_
    rintro e w1 ⟨rfl, hb1⟩
    go_wp2_with fail
    refine (low_any _).mono ?_
    rintro e w2 ⟨rfl, hb2⟩
    have hb3 := hb1.trans (hb2.mono hb1.size)
    go_wp2_with fail
    go_ret
    exact ⟨rfl, hb3⟩
  · go_enter Try.func5, Try.ntmps5
    go_wp2_with fail
    refine (low_any _).mono ?_
    rintro e w1 ⟨rfl, hb1⟩
    have HB1 := hide hb1
    clear hb1
    go_wp2_with fail
    refine (Part_any a cap l w1 (by omega) (HS.out.below HB1.out)).mono ?_
    rintro e w2 ⟨v2, rfl, ho2, hb2⟩
    have HO2 := hide (ho2.mono HB1.out.size)
    have HB2 := hide (HB1.out.trans (hb2.mono HB1.out.size))
    clear ho2 hb2
    go_wp2_with fail
    refine (Zeros_any 8 w2 (by omega)).mono ?_
    rintro e w3 ⟨v3, rfl, ho3, hb3⟩
    have HO23 := hide (HO2.out.below hb3)
    obtain ⟨a3, cap3, rfl, hsl3, _⟩ := ho3.sl
    have HB3 := hide (HB2.out.trans (hb3.mono HB2.out.size))
    have HSL3 := hide hsl3
    have h8 : (List.replicate 8 (0 : Int)).length = 8 := rfl
    rw [h8]
    clear ho3 hb3 hsl3 HO2 h8
    go_wp2_with (at_builtin; refine wpList_append_bytes rfl _ _ 22 rfl Try.underlying22 info5 w.heap.size _ l rfl HO23.out _ _ _ (List.replicate 8 0) rfl rfl (by exact HSL3.out.lies) (by simp; omega) (by exact HB3.out.size) ?_; intro v4 w4 ho4 hg4)
    have HB4 := hide (Own.behind HO23.out HB3.out hg4 HB3.out.size)
    obtain ⟨L, hL⟩ : ∃ L, L = l ++ List.replicate 8 0 := ⟨_, rfl⟩
    rw [← hL] at ho4
    have hLl : L.length = l.length + 8 := by rw [hL]; simp
    have HBL : Hid (Byts L) := by rw [hL]; exact hb.append (Byts.zeros 8)
    obtain ⟨a4, cap4, rfl, _, hne⟩ := ho4.sl
    obtain ⟨g, rfl, hg, _⟩ := hne (by intro e; rw [e] at hLl; simp at hLl)
    generalize hn4 : L.length = n4 at *
    have HN4 := hide hn4.symm
    have HO4 := hide ho4
    have HG := hide hg
    have hn4b : n4 ≤ 400 := by omega
    have hn4c : l.length + 8 ≤ n4 := by omega
    obtain ⟨q, hq, hql⟩ := back_at p l.length (by omega)
    rw [hq]
    clear hq hLl hL hn4 ho4 hne hg hg4
    refine (Put64_own _ g n4 cap4 L v _ q w4 rfl HO4.out HN4.out (by omega) (by omega) HG.out HB4.out.size).mono ?_
    rintro e w5 ⟨rfl, ho5, hb5⟩
    have HB5 := hide (HB4.out.trans hb5)
    have HO5 := hide ho5
    clear ho5 hb5
    have HN5 : Hid (n4 = (putN L q v 8).length) := by show _ = _; rw [putN_length]; exact HN4.out
    go_wp2_with fail
    refine (U64_own _ g n4 cap4 _ v _ q w5 rfl HO5.out HN5.out (by omega) (HBL.out.putN q v 8) (by omega) (fun i hi => by rw [getD_putN _ _ _ _ _ (by have := HN4.out; omega), if_pos (by omega), Nat.add_sub_cancel_left])).mono ?_
    rintro e w6 ⟨rfl, rfl⟩
    go_wp2_with fail
    refine (Put32_own _ g n4 cap4 _ _ _ q w6 rfl HO5.out HN5.out (by omega) (by omega) HG.out HB5.out.size).mono ?_
    rintro e w7 ⟨rfl, ho7, hb7⟩
    have HB7 := hide (HB5.out.trans hb7)
    have HO7 := hide ho7
    clear ho7 hb7
    go_wp2_with fail
    rw [IntKind.wrap_u16]
    have HN7 : Hid (n4 = (putN (putN L q v 8) q (v % 4294967296) 4).length) := by show _ = _; rw [putN_length]; exact HN5.out
    refine (Put16_own _ g n4 cap4 _ _ _ (q + 4) w7 (by omega) HO7.out HN7.out (by omega) (by omega) HG.out HB7.out.size).mono ?_
    rintro e w8 ⟨rfl, ho8, hb8⟩
    have HB8 := hide (HB7.out.trans hb8)
    have HO8 := hide ho8
    clear ho8 hb8
    have HBY : Hid (Byts (putN (putN (putN L q v 8) q (v % 4294967296) 4) (q + 4) (v % 65536) 2)) := ((HBL.out.putN q v 8).putN q _ 4).putN (q + 4) _ 2
    have HN8 : Hid (n4 = (putN (putN (putN L q v 8) q (v % 4294967296) 4) (q + 4) (v % 65536) 2).length) := by show _ = _; rw [putN_length]; exact HN7.out
    have HX : Hid (∀ i, i < 4 → (putN (putN (putN L q v 8) q (v % 4294967296) 4) (q + 4) (v % 65536) 2).getD (q + i) 0 = (v % 4294967296) / 2 ^ (8 * i) % 256) := fun i hi => by
      rw [getD_putN _ _ _ _ _ (by have := HN7.out; omega), if_neg (by omega), getD_putN _ _ _ _ _ (by have := HN5.out; omega), if_pos (by omega), Nat.add_sub_cancel_left]
    have HY : Hid (∀ i, i < 2 → (putN (putN (putN L q v 8) q (v % 4294967296) 4) (q + 4) (v % 65536) 2).getD (q + 4 + i) 0 = (v % 65536) / 2 ^ (8 * i) % 256) := fun i hi => by
      rw [getD_putN _ _ _ _ _ (by have := HN7.out; omega), if_pos (by omega), Nat.add_sub_cancel_left]
    go_wp2_with fail
    refine (U32_own _ g n4 cap4 _ _ _ q w8 rfl HO8.out HN8.out (by omega) HBY.out (by omega) HX.out).mono ?_
    rintro e w9 ⟨rfl, rfl⟩
    go_wp2_with fail
    refine (U16_own _ g n4 cap4 _ _ _ (q + 4) w9 (by omega) HO8.out HN8.out (by omega) HBY.out (by omega) HY.out).mono ?_
    rintro e w10 ⟨rfl, rfl⟩
    have hvm : v % 18446744073709551616 = v := Int.emod_eq_of_lt hv0 hv
    go_wp2_with fail
    go_ret
    exact ⟨ret_bool (by rw [IntKind.wrap_u16]; simp), HB8.out⟩

set_option maxRecDepth 100000 in
theorem octetBack_lifted (os : Os) (started : os.Started) (H : Type) (enc : TypeId × Value → H) :
    ReturnsInHanded {} Try.checked os 5 .any (Rows.octetBackSpec.pre6 enc Try.prog Try.f5 Rows.octetBackRow.domain false) (Rows.octetBackSpec.post enc Try.prog Try.f5 false true false false) := by
  refine returnsInHanded_of_change (C := Try.checked) own started (by kernel_rfl) Try.func5
    (ChangeSpec.witness6 (enc := enc) (C := Try.checked) false ⟨#[], #[.slice none 0 0, .int .i64 0, .int .u64 0], []⟩ 8 (by kernel_rfl) (by kernel_rfl) (by kernel_rfl) (by kernel_rfl)) ?_
  intro W base args ds gs before hval0 hW _ _
  have hval : ∀ (j : Nat) t v, Try.f5.params[j]? = some t → args[j]? = some v → Value.okWide Try.prog W .any base t v := hval0
  have hW' := hW
  obtain ⟨p, q, hA0, hV, rfl, hfz, hnd⟩ := hW
  have hA : DataW.TrodAll enc Try.prog W 0 (fun _ => true) true Try.f5.params.toList args.toList ds p := hA0
  rw [Try.params5] at hA hval
  obtain ⟨v0, vs0, d0, ds0, p0, q0, hargs0, rfl, rfl, h0, r0⟩ := trodAll_cons hA
  obtain ⟨v1, vs1, d1, ds1, p1, q1, hargs1, rfl, rfl, h1, r1⟩ := trodAll_cons r0
  obtain ⟨v2, vs2, d2, ds2, p2, q2, hargs2, rfl, rfl, h2, r2⟩ := trodAll_cons r1
  obtain ⟨rfl, rfl, rfl⟩ := trodAll_nil r2
  subst hargs2
  subst hargs1
  obtain rfl : args = #[v0, v1, v2] := by cases args; simp_all
  obtain ⟨rfl, rfl⟩ := trodVars_none hV
  simp only [List.append_nil] at hW'
  have hlt0 : ∀ x ∈ p0, x.block < W.heap.size := fun x hx => by simpa using hW'.lt x (by simp [hx])
  obtain ⟨a0, cap0, l0, rfl, hn0, hb0, hl0, hs0⟩ := open_bytes (hval 0 22 v0 rfl rfl) h0
  obtain ⟨x1, rfl, rfl, rfl, w1⟩ := open_int Try.underlying3 (hval 1 3 v1 rfl rfl) h1
  obtain ⟨x2, rfl, rfl, rfl, w2⟩ := open_int Try.underlying30 (hval 2 30 v2 rfl rfl) h2
  clear hA0
  refine (back_walk a0 cap0 l0 x1 x2 W hn0 hb0 hs0 (wf_u64 w2).1 (wf_u64 w2).2).mono fun e W' ⟨he, hb⟩ => ?_
  subst he
  refine ⟨_, rfl, _, _, _, [], (p0 ++ ([] ++ ([] ++ []))), [], hW', ?_, ?_, rfl, hb.frame _, fun h => by cases h⟩
  · exact trodAll_cons_mk (shut_bool Try.underlying4 _) trodAll_mk0
  · exact trodAll_cons_mk (Below.trod laidOut (by kernel_rfl) (of_decide_eq_true (by kernel_rfl)) h0 hb hlt0) (trodAll_cons_mk (shut_int Try.underlying3 w1) (trodAll_cons_mk (shut_int Try.underlying30 w2) (trodAll_mk0)))

theorem octetBack_holds : Rows.OctetBackSaid :=
  OpenClaim.holds_of_wide 5 Try.f5 rfl rfl rfl rfl rfl rfl rfl ⟨rfl, rfl, rfl, rfl, rfl⟩ rfl rfl rfl rfl rfl (by kernel_rfl) Try.func5 (by kernel_rfl)
    (of_decide_eq_true (by kernel_rfl)) (by unfold Func.isWrapper; first | (rw [if_pos (by decide +kernel)]; kernel_rfl) | (rw [if_neg (by decide +kernel)]; exact ⟨rfl, rfl⟩))
    (fun os started H enc _ => octetBack_lifted os started H enc)
end Go.Proofs.Ytmfnpifjinbaeaa.Oct
