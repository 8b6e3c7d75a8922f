/- MbrEntries, for all bytes: a sector's four entries are what the chapter says (no condition). -/
import Derived.Test.YtgpggohkapdjpaaMbu
import Derived.Test.YtgpggohkapdjpaaMbv
import Derived.Test.YtgpggohkapdjpaaOpen
import Derived.Test.YtgpggohkapdjpaaRows
import Derived.BigQuiet
namespace Go.Proofs.Ytgpggohkapdjpaa.Oct
open Go.RowKit Go.ChangeShapes Go.WideShapes Go.ChangeAt

theorem below_drewN {n : Nat} {w u : World} (h : Below n w u) (q : Nat) : Below n w (u.drewN q) := ⟨h.os, h.tape, h.output, h.size, h.block⟩

set_option maxHeartbeats 8000000 in
set_option maxRecDepth 100000 in
theorem mentries_walk (a : Option Addr) (cap : Nat) (l : List Int) (w : World) (hlen : l.length ≤ maxLen) (hcap : l.length ≤ cap) (hby : Byts l) (hl : Lies w a l) :
    Calls Try.prog 3 #[.slice a l.length cap] w fun e w' => e = .returned (.bool true) ∧ Below w.heap.size w w' := by
  have HCh := fun u => hide (chained_any sort_says u)
  by_cases h2 : 2000 < l.length
  · have hd : (2000 : Int) < (l.length : Int) := by omega
    clear hl hby
    go_enter Try.func3, Try.ntmps3
    go_wp2_with fail
    refine ((HCh _).out).mono ?_
    rintro e9 w1 ⟨rfl, hb1⟩
    have HB1 := hide hb1
    clear hb1
    go_wp2_with fail
    go_ret
    exact ⟨rfl, HB1.out⟩
  · have hd : ¬ (2000 : Int) < (l.length : Int) := by omega
    have HE1 := hide (entries_any a cap l w hlen hcap hby hl)
    have HE2 := fun u (hu : Below w.heap.size w u) => hide (rents_any a cap l u (by omega) hby (hl.below hu))
    obtain ⟨n, hn⟩ : ∃ n, n = l.length := ⟨_, rfl⟩
    rw [← hn] at HE1 HE2 hd ⊢
    clear hl hby hlen hcap hn
    go_enter Try.func3, Try.ntmps3
    go_wp2_with fail
    refine HE1.out.mono ?_
    rintro e9 w1 ⟨h1 | h1, hb1⟩
    · obtain ⟨hz, v1, rfl, ho1⟩ := h1
      have HB1 := hide hb1
      obtain ⟨a1, c1, hv1, hl1, _⟩ := ho1.form
      subst hv1
      have hln : (entsM l).length = 4 := rfl
      rw [hln]
      have HL1 := hide hl1
      clear ho1 hl1 hb1
      go_wp2_with fail
      refine ((HE2 _ HB1.out).out).mono ?_
      rintro e9 w2 ⟨h3 | h3, hb2⟩
      · obtain ⟨_, v2, rfl, ho2⟩ := h3
        obtain ⟨a2, c2, hv2, hl2, _⟩ := ho2.form
        subst hv2
        rw [hln]
        have HL1' := hide (HL1.out.below hb2)
        have HL2 := hide hl2
        have HB2 := hide (HB1.out.trans (hb2.mono HB1.out.size))
        generalize entsM l = E at *
        have HEl := hide hln
        clear ho2 hl2 hb2 hln hz
        go_wp2_with fail
        go_loopw [7] (fun i wr => ∃ (k : Nat), k ≤ 4 ∧ i = .int .i64 k ∧ Below w2.heap.size w2 wr) (fun i _ => 4 - (intOf i).toNat)
        case atStart => exact ⟨0, by omega, rfl, Below.refl _ _⟩
        case round =>
          obtain ⟨k, hk, rfl, hbel⟩ := hrel
          have HB := hide hbel
          clear hbel
          by_cases hlt : k < 4
          · rcases HL1'.out.below HB.out with hE | ⟨b1, o1, rfl, _, hc1⟩
            · have := HEl.out; rw [hE] at this; simp at this
            rcases HL2.out.below HB.out with hE | ⟨b2, o2, rfl, _, hc2⟩
            · have := HEl.out; rw [hE] at this; simp at this
            obtain ⟨p0, p1, p2⟩ := hc1 k (by rw [HEl.out]; exact hlt)
            obtain ⟨q0, q1, q2⟩ := hc2 k (by rw [HEl.out]; exact hlt)
            generalize E.getD k zm3 = x at *
            obtain ⟨x1, x2, x3⟩ := x
            dsimp only at p0 p1 p2 q0 q1 q2
            have hk4 : (k : Int) < 4 := by omega
            clear hc1 hc2
            go_wp2_with fail
            go_quiet (fail)
            go_wp2_with fail
            exact ⟨⟨k + 1, by omega, by go_num, below_drewN HB.out nq⟩, by simp [intOf]; omega⟩
          · obtain rfl : k = 4 := by omega
            go_wp2_with fail
            refine ((HCh _).out).mono ?_
            rintro e9 w4 ⟨rfl, hb4⟩
            have HB4 := hide (HB2.out.trans ((HB.out.trans (hb4.mono HB.out.size)).mono HB2.out.size))
            clear hb4
            go_wp2_with fail
            go_ret
            exact ⟨rfl, HB4.out⟩
      · exact absurd hz h3.1
    · obtain ⟨hz, rfl⟩ := h1
      have HB1 := hide hb1
      have HZ := hide hz
      clear hb1
      go_wp2_with fail
      refine ((HE2 _ HB1.out).out).mono ?_
      rintro e9 w2 ⟨h3 | h3, hb2⟩
      · exact absurd h3.1 HZ.out
      · obtain ⟨_, rfl⟩ := h3
        have HB2 := hide (HB1.out.trans (hb2.mono HB1.out.size))
        generalize entC l = c at *
        clear hb2 hz
        go_wp2_with fail
        go_loopw [7] (fun i wr => i = .int .i64 0 ∧ Below w2.heap.size w2 wr) (fun _ _ => 0)
        case atStart => exact ⟨rfl, Below.refl _ _⟩
        case round =>
          obtain ⟨rfl, hbel⟩ := hrel
          have HB := hide hbel
          clear hbel
          go_wp2_with fail
          refine ((HCh _).out).mono ?_
          rintro e9 w4 ⟨rfl, hb4⟩
          have HB4 := hide (HB2.out.trans ((HB.out.trans (hb4.mono HB.out.size)).mono HB2.out.size))
          clear hb4
          go_wp2_with fail
          go_ret
          exact ⟨rfl, HB4.out⟩
set_option maxRecDepth 100000 in
theorem mbrEntries_lifted (os : Os) (started : os.Started) (H : Type) (enc : TypeId × Value → H) :
    ReturnsInHanded {} Try.checked os 3 .any (Rows.mbrEntriesSpec.pre6 enc Try.prog Try.f3 Rows.mbrEntriesRow.domain false) (Rows.mbrEntriesSpec.post enc Try.prog Try.f3 false true false false) := by
  refine returnsInHanded_of_change (C := Try.checked) own started (by kernel_rfl) Try.func3
    (ChangeSpec.witness6 (enc := enc) (C := Try.checked) false ⟨#[], #[.slice none 0 0], []⟩ 8 (by kernel_rfl) (by kernel_rfl) (by kernel_rfl) (by kernel_rfl)) ?_
  intro W base args ds gs before hval0 hW _ _
  have hval : ∀ (j : Nat) t v, Try.f3.params[j]? = some t → args[j]? = some v → Value.okWide Try.prog W .any base t v := hval0
  have hW' := hW
  obtain ⟨p, q, hA0, hV, rfl, hfz, hnd⟩ := hW
  have hA : DataW.TrodAll enc Try.prog W 0 (fun _ => true) true Try.f3.params.toList args.toList ds p := hA0
  rw [Try.params3] at hA hval
  obtain ⟨v0, vs0, d0, ds0, p0, q0, hargs0, rfl, rfl, h0, r0⟩ := trodAll_cons hA
  obtain ⟨rfl, rfl, rfl⟩ := trodAll_nil r0
  obtain rfl : args = #[v0] := by cases args; simp_all
  obtain ⟨rfl, rfl⟩ := trodVars_none hV
  simp only [List.append_nil] at hW'
  have hlt0 : ∀ x ∈ p0, x.block < W.heap.size := fun x hx => by simpa using hW'.lt x (by simp [hx])
  obtain ⟨a0, cap0, l0, rfl, hn0, hb0, hl0, hs0⟩ := open_bytes (hval 0 22 v0 rfl rfl) h0
  clear hA0
  refine (mentries_walk a0 cap0 l0 W hn0 hs0.le hb0 hl0).mono fun e W' ⟨he, hb⟩ => ?_
  subst he
  refine ⟨_, rfl, _, _, _, [], (p0 ++ []), [], hW', ?_, ?_, rfl, hb.frame _, fun h => by cases h⟩
  · exact trodAll_cons_mk (shut_bool Try.underlying4 _) trodAll_mk0
  · exact trodAll_cons_mk (Below.trod laidOut (by kernel_rfl) (of_decide_eq_true (by kernel_rfl)) h0 hb hlt0) (trodAll_mk0)

theorem mbrEntries_holds : Rows.MbrEntriesSaid :=
  OpenClaim.holds_of_wide 3 Try.f3 rfl rfl rfl rfl rfl rfl rfl ⟨rfl, rfl, rfl, rfl, rfl⟩ rfl rfl rfl rfl rfl (by kernel_rfl) Try.func3 (by kernel_rfl)
    (of_decide_eq_true (by kernel_rfl)) (by unfold Func.isWrapper; first | (rw [if_pos (by decide +kernel)]; kernel_rfl) | (rw [if_neg (by decide +kernel)]; exact ⟨rfl, rfl⟩))
    (fun os started H enc _ => mbrEntries_lifted os started H enc)
end Go.Proofs.Ytgpggohkapdjpaa.Oct
