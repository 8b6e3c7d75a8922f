/- ExtMaps: bits are asked, set and counted as the document says. -/
import Derived.Test.YtjmajjfknmjifaaDoorEzs
import Derived.Test.YtjmajjfknmjifaaDoorEyv
import Derived.Test.YtjmajjfknmjifaaDoorOpen
import Derived.Lib.SmallJoins
import Derived.Deep.Slices
import Derived.Deep.Strs
import Derived.Test.YtjmajjfknmjifaaDoorRows
import Derived.Test.YtjmajjfknmjifaaDoorCards
import Derived.Test.YtjmajjfknmjifaaDoorTie
import Derived.LaidMore
import Derived.Stop.Joined
import Derived.SevenTiedAt
namespace Go.Proofs.YtjmajjfknmjifaaDoor.Oct
open Go.RowKit Go.Deep Go.ChangeShapes Go.WideShapes Go.ChangeAt

theorem cellsMi : Tryd.prog.cellsOf 2 = 1 := by kernel_rfl
theorem cellsMo : Tryd.prog.cellsOf 4 = 1 := by kernel_rfl
theorem cellsMb : Tryd.prog.cellsOf 24 = 1 := by kernel_rfl
theorem cellsMz : Tryd.prog.cellsOf 42 = 1 := by kernel_rfl
theorem cellsMp : Tryd.prog.cellsOf 60 = 1 := by kernel_rfl
theorem cellsMc : Tryd.prog.cellsOf 62 = 4 := by kernel_rfl

theorem open_o_trod {H : Type} {enc : TypeId × Value → H} {W : World} {fuel : Nat} {v : Value} {x : DataW H × List MemPlace}
    (hf : DataW.trod enc Tryd.prog W 0 (fun _ => true) true fuel 60 [v] = some x) :
    ∃ a cap L, v = .slice a (List.length L) cap ∧ LiesO W a L := by
  rcases open_slice1 Tryd.underlying60 cellsMo hf with ⟨hcs, _⟩ | ⟨a, len, cap, m, n, V, D, Pl, hcs, _, hl, hm, hmm, _, hx⟩
  · simp at hcs
    subst hcs
    exact ⟨none, 0, [], rfl, Or.inl rfl⟩
  · simp at hcs
    subst hcs
    simp only [if_true] at hmm
    by_cases h0 : len = 0
    · subst h0
      exact ⟨some a, cap, [], rfl, Or.inl rfl⟩
    obtain ⟨b, off, spot⟩ := a
    have hs : spot = none := by simpa [Addr.add] using World.cell?_spot (hx 0 (by omega)).1
    subst hs
    obtain ⟨q, hq⟩ := choose_lt (α := Bool) (p := fun i x => W.cell? ⟨b, off + i, none⟩ = some (.bool x)) (fun i (hi : i < m) => by
      obtain ⟨h1, h2⟩ := hx i hi
      obtain ⟨x, hb, _⟩ := DataW.trod_bool Tryd.underlying4 h2
      simp at hb
      rw [hb, add_plain] at h1
      exact ⟨x, h1⟩)
    obtain ⟨L, hL⟩ : ∃ L, L = (List.range len).map q := ⟨_, rfl⟩
    have hlen : L.length = len := by rw [hL]; simp
    have hget : ∀ r, r < len → L.getD r false = q r := fun r hr => by rw [hL]; simp [hr]
    refine ⟨some ⟨b, off, none⟩, cap, L, by rw [hlen], Or.inr ⟨b, off, rfl, fun r hr => ?_⟩⟩
    rw [hget r (by omega)]
    exact hq r (by omega)

theorem open_z_trod {H : Type} {enc : TypeId × Value → H} {W : World} {fuel : Nat} {v : Value} {x : DataW H × List MemPlace}
    (hf : DataW.trod enc Tryd.prog W 0 (fun _ => true) true fuel 42 [v] = some x) :
    ∃ a cap L, v = .slice a (List.length L) cap ∧ (∀ j, -9223372036854775808 ≤ L.getD j 0 ∧ L.getD j 0 ≤ 9223372036854775807) ∧ LiesZ W a L := by
  rcases open_slice1 Tryd.underlying42 cellsMi hf with ⟨hcs, _⟩ | ⟨a, len, cap, m, n, V, D, Pl, hcs, _, hl, hm, hmm, _, hx⟩
  · simp at hcs
    subst hcs
    exact ⟨none, 0, [], rfl, fun j => by simp, Or.inl rfl⟩
  · simp at hcs
    subst hcs
    simp only [if_true] at hmm
    by_cases h0 : len = 0
    · subst h0
      exact ⟨some a, cap, [], rfl, fun j => by simp, Or.inl rfl⟩
    obtain ⟨b, off, spot⟩ := a
    have hs : spot = none := by simpa [Addr.add] using World.cell?_spot (hx 0 (by omega)).1
    subst hs
    obtain ⟨q, hq⟩ := choose_lt (α := Int) (p := fun i x => W.cell? ⟨b, off + i, none⟩ = some (.int .i64 x) ∧ (-9223372036854775808 ≤ x ∧ x ≤ 9223372036854775807)) (fun i (hi : i < m) => by
      obtain ⟨h1, h2⟩ := hx i hi
      obtain ⟨k, e, w⟩ := open_int_trod Tryd.underlying2 h2
      rw [add_plain] at h1
      exact ⟨k, by rw [h1, e], wf_i64 w⟩)
    obtain ⟨L, hL⟩ : ∃ L, L = (List.range len).map q := ⟨_, rfl⟩
    have hlen : L.length = len := by rw [hL]; simp
    have hget : ∀ r, r < len → L.getD r 0 = q r := fun r hr => by rw [hL]; simp [hr]
    refine ⟨some ⟨b, off, none⟩, cap, L, by rw [hlen], fun j => ?_, Or.inr ⟨b, off, rfl, fun r hr => ?_⟩⟩
    · by_cases hj : j < len
      · rw [hget j hj]
        exact (hq j (by omega)).2
      · rw [List.getD_eq_getElem?_getD, List.getElem?_eq_none (by omega)]
        exact ⟨by decide, by decide⟩
    · rw [hget r (by omega)]
      exact (hq r (by omega)).1

theorem array4M {cs : Array Value} (h : cs.size = 4) : ∃ c0 c1 c2 c3, cs = #[c0, c1, c2, c3] := by
  obtain ⟨l⟩ := cs
  match l, h with
  | [c0, c1, c2, c3], _ => exact ⟨c0, c1, c2, c3, rfl⟩

set_option maxRecDepth 100000 in
theorem open_mcase {H : Type} {enc : TypeId × Value → H} {W : World} {base : Nat} {v : Value} {d : DataW H} {p : List MemPlace}
    (hv : Value.okWide Tryd.prog W .any base 62 v) (h : DataW.Trod enc Tryd.prog W 0 (fun _ => true) true 62 v d p) :
    ∃ aB cB B aA cA L aO cO O n, v = .agg #[.slice aB (List.length B) cB, .slice aA (List.length L) cA, .slice aO (List.length O) cO, .int .i64 n] ∧ Byts B ∧ Sl W aB cB B ∧ LiesZ W aA L ∧ (∀ j, -9223372036854775808 ≤ L.getD j 0 ∧ L.getD j 0 ≤ 9223372036854775807) ∧ LiesO W aO O := by
  obtain ⟨cs, rfl, hsz⟩ := okWide_struct Tryd.underlying62 hv
  obtain ⟨c0, c1, c2, c3, rfl⟩ := array4M (hsz.trans cellsMc)
  obtain ⟨fuel, hf⟩ := h
  obtain ⟨xs, n, _, hx, _, hlen, hall⟩ := DataW.trod_struct Tryd.underlying62 hf
  match xs, hlen with
  | [y0, y1, y2, y3], _ =>
    have h0 := hall 0 _ rfl
    have h1 := hall 1 _ rfl
    have h2 := hall 2 _ rfl
    have h3 := hall 3 _ rfl
    simp [Value.cells, cellsMi, cellsMb, cellsMz, cellsMp] at h0 h1 h2 h3
    obtain ⟨aB, cB, B, q0, _, hb, _, hs⟩ := open_bytes_trod h0
    obtain ⟨aA, cA, L, q1, hr, hz⟩ := open_z_trod h1
    obtain ⟨aO, cO, O, q2, ho⟩ := open_o_trod h2
    obtain ⟨n, q3, _, _⟩ := DataW.trod_int Tryd.underlying2 h3
    simp at q0 q1 q2 q3
    subst q0 q1 q2 q3
    exact ⟨aB, cB, B, aA, cA, L, aO, cO, O, n, rfl, hb, hs, hz, hr, ho⟩

set_option maxRecDepth 100000 in
theorem extMaps_door (os : Os) (args : Array Value) : laidMetH Tryd.prog Rows.extMapsRow.laid ((World.doorLaid Tryd.prog 400 os).forCall (fun _ _ => 0) ⟨#[], args, []⟩).memory :=
  laidMetH_of_parts3 (fuel := 8) (laidMet_of_run' 8 (by kernel_rfl) (by kernel_rfl)) (by kernel_rfl) (by kernel_rfl)

set_option maxRecDepth 100000 in
theorem extMaps_lifted (os : Os) (started : os.Started) (H : Type) (enc : TypeId × Value → H) :
    ReturnsInHanded {} Tryd.checked os 5 .any (fun w args => (Rows.extMapsSpec.pre enc Tryd.prog Tryd.f5 [] false w args ∧ laidMetH Tryd.prog Rows.extMapsRow.laid w) ∧ sizedMet enc Tryd.prog Tryd.f5 (OpenSpec.ofChange Rows.extMapsSpec) false w args) (Rows.extMapsSpec.post enc Tryd.prog Tryd.f5 false true false false) := by
  refine returnsInHanded_of_change_and (C := Tryd.checked) (X := (fun w _ => laidMetH Tryd.prog Rows.extMapsRow.laid w)) (fun _ _ _ hh h => h.of_heap hh) own started (by kernel_rfl) Tryd.func5
    (ChangeSpec.witness_shaped (enc := enc) (C := Tryd.checked) (os := os) (X := (fun w _ => laidMetH Tryd.prog Rows.extMapsRow.laid w)) false (World.doorLaid Tryd.prog 400 os) #[.agg #[.slice none 0 0, .slice none 0 0, .slice none 0 0, .int .i64 0]] 8 rfl (World.shaped_of_RefB (by kernel_rfl) (by kernel_rfl)) (by kernel_rfl) (by kernel_rfl) (by kernel_rfl) (extMaps_door os _)) ?_
  intro W base args ds gs before hval0 hW _ hsz0 hL _
  have hval : ∀ (j : Nat) t v, Tryd.f5.params[j]? = some t → args[j]? = some v → Value.okWide Tryd.prog W .any base t v := hval0
  have hW' := hW
  obtain ⟨p, q, hA0, hV, rfl, hfz, hnd⟩ := hW
  have hA : DataW.TrodAll enc Tryd.prog W 0 (fun _ => true) true Tryd.f5.params.toList args.toList ds p := hA0
  rw [Tryd.params5] at hA hval
  obtain ⟨v0, vs0, d0, ds0, p0, q0, hargs0, rfl, rfl, h0, r0⟩ := trodAll_cons hA
  obtain ⟨rfl, rfl, rfl⟩ := trodAll_nil r0
  obtain rfl : args = #[v0] := by cases args; simp_all
  obtain ⟨rfl, rfl⟩ := trodVars_none hV
  simp only [List.append_nil] at hW'
  have hlt0 : ∀ x ∈ p0, x.block < W.heap.size := fun x hx => by simpa using hW'.lt x (by simp [hx])
  obtain ⟨aB0, cB0, B0, aA0, cA0, L0, aO0, cO0, O0, n0, rfl, hb0, hs0, hZ0, hr0, hO0⟩ := open_mcase (hval 0 62 v0 rfl rfl) h0
  clear hA0
  refine (emaps_walk (fun u hu => emade_any u hu) aB0 cB0 B0 aA0 cA0 L0 aO0 cO0 O0 n0 W hb0 hs0 hZ0 hr0 hO0 (of_laidX hL)).mono fun e W' ⟨he, hb⟩ => ?_
  subst he
  refine ⟨_, rfl, _, _, _, [], (p0 ++ []), [], hW', ?_, ?_, rfl, hb.frame _, fun h => by cases h⟩
  · exact trodAll_cons_mk (shut_bool Tryd.underlying4 _) trodAll_mk0
  · exact trodAll_cons_mk (Below.trod laidOut (by kernel_rfl) (of_decide_eq_true (by kernel_rfl)) h0 hb hlt0) (trodAll_mk0)

theorem extMaps_row : Rows.ExtMapsSaid :=
  OpenClaim.holds_of_wide 5 Tryd.f5 rfl rfl rfl rfl rfl rfl rfl ⟨rfl, rfl, rfl, rfl, rfl⟩ rfl rfl rfl rfl rfl (by kernel_rfl) Tryd.func5 (by kernel_rfl)
    (of_decide_eq_true (by kernel_rfl)) (by unfold Func.isWrapper; first | (rw [if_pos (by decide +kernel)]; kernel_rfl) | (rw [if_neg (by decide +kernel)]; exact ⟨rfl, rfl⟩))
    (fun os started H enc _ => extMaps_lifted os started H enc)

theorem extMaps_holds : Rows.ExtMapsCardSaid :=
  Claim7.holds_tied_plain_at .later [] [.data] true (true, "13f0ff14a66336177113f6b15f429511f42bc7c95bfd63222c01fcb9c83f7a93") false
    extMaps_row (fun _ h => by cases h) (by kernel_rfl) (fun _ h => by cases h) extMaps_row_tie rfl ⟨rfl, rfl⟩ (by kernel_rfl) rfl
    (fun f fn hf hfn => by
      obtain rfl : f = 5 := Option.some.inj ((show Tryd.prog.funcNamed "fettle/fettlelaw18.ExtMaps" = some 5 by kernel_rfl).symm.trans hf) |>.symm
      obtain rfl : fn = Tryd.f5 := (Option.some.inj (Tryd.func5.symm.trans hfn)).symm
      exact ⟨by kernel_rfl, fun j t ht => by
        rw [Tryd.params5] at ht
        have hm : t ∈ [62] := by simpa using Array.mem_of_getElem? ht
        have hall : ([62].all fun u => !Tryd.prog.wantsStandIn u) = true := by kernel_rfl
        exact (show Tryd.prog.wantsStandIn t = false by simpa using List.all_eq_true.1 hall t hm)⟩)
    (by kernel_rfl)
end Go.Proofs.YtjmajjfknmjifaaDoor.Oct
