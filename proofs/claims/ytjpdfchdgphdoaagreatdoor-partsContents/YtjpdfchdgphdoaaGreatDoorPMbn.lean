/- The chain of sectors: a set of those that were met. -/
import Derived.Test.YtjpdfchdgphdoaaGreatDoorPMbm
import Derived.MapKept
namespace Go.Proofs.YtjpdfchdgphdoaaGreatDoor.Oct
open Go.RowKit Go.MapKept

/-- The block r is a map whose keys are the numbers of S. -/
def MapS (w : World) (r : Nat) (S : List Int) : Prop :=
  ∃ es clock, w.heap[r]? = some (.map es clock) ∧ Stamped es clock ∧ (∀ x ∈ es.toList, IsKey (.int .i64) x.key ∧ x.val = .agg #[]) ∧ ∀ k, (∃ e ∈ es.toList, e.key = .int .i64 k) ↔ k ∈ S

theorem MapS.lt {w : World} {r : Nat} {S : List Int} (h : MapS w r S) : r < w.heap.size := by
  obtain ⟨es, clock, hb, _⟩ := h
  exact (Array.getElem?_eq_some_iff.1 hb).1

theorem MapS.same {w w' : World} {r : Nat} {S : List Int} (h : MapS w r S) (he : w'.heap[r]? = w.heap[r]?) : MapS w' r S := by
  obtain ⟨es, clock, hb, hr⟩ := h
  exact ⟨es, clock, he.trans hb, hr⟩

theorem MapS.made (w : World) : MapS (w.alloc (.map #[] 0)) w.heap.size [] :=
  ⟨#[], 0, (heap_alloc w _).1, stamped_empty 0, by simp, by simp⟩

theorem lookS_run {P : Program} {w : World} {mty kt et : TypeId} (hm : P.underlying mty = some (.map kt et)) (hd : P.underlying kt = some (.int .i64)) (hz : (zeroValue et).run P w = .ok (.agg #[]) w) {r : Nat} {S : List Int} (h : MapS w r S) (k : Int) :
    (Instr.lookup mty (.map (some r)) (.int .i64 k) true).run P w = .ok (.tuple #[.agg #[], .bool (decide (k ∈ S))]) w := by
  have hk : IsKey (.int .i64) (.int .i64 k) := rfl
  obtain ⟨es, clock, hb, hs, hks, hS⟩ := h
  rcases findNow_spec hk es.toList 0 (fun x hx => (hks x hx).1) with ⟨h1, h2⟩ | ⟨j, e, h1, h2, h3⟩
  · have hno : ¬ k ∈ S := fun h => by
      obtain ⟨e, he, hke⟩ := (hS k).2 h
      exact h2 e he hke
    simp [Instr.lookup, run_underlying hm, MapKept.run_getObj_map hb, run_checkKey hd hk, run_findKey hd h1, hz, Result.andThen, hno]
  · have hmem := List.mem_of_getElem? h2
    have hyes : k ∈ S := (hS k).1 ⟨e, hmem, h3⟩
    have he : e.val = .agg #[] := (hks e hmem).2
    simp [Instr.lookup, run_underlying hm, MapKept.run_getObj_map hb, run_checkKey hd hk, run_findKey hd h1, Result.andThen, he, hyes]

theorem updS_run {P : Program} {w : World} {mty kt et : TypeId} (hm : P.underlying mty = some (.map kt et)) (hd : P.underlying kt = some (.int .i64)) {r : Nat} {S : List Int} (h : MapS w r S) (k : Int) (hk0 : ¬ k ∈ S) :
    ∃ w1, (Instr.mapUpdate mty (.map (some r)) (.int .i64 k) (.agg #[])).run P w = .ok () w1 ∧ MapS w1 r (k :: S) ∧ Chg (fun i => i = r) w w1 := by
  have hk : IsKey (.int .i64) (.int .i64 k) := rfl
  obtain ⟨es, clock, hb, hs, hks, hS⟩ := h
  rcases findNow_spec hk es.toList 0 (fun x hx => (hks x hx).1) with ⟨h1, h2⟩ | ⟨j, e, h1, h2, h3⟩
  · refine ⟨{ w with heap := w.heap.setIfInBounds r (.map (es.push { key := .int .i64 k, val := .agg #[], born := clock }) (clock + 1)) }, by simp [Instr.mapUpdate, run_underlying hm, MapKept.run_getObj_map hb, run_checkKey hd hk, run_findKey hd h1, MapKept.run_setObj_map _ hb, Result.andThen], ?_, ⟨rfl, rfl, rfl, by simp, fun i _ hi => (heap_set hb).2 i hi⟩⟩
    refine ⟨_, _, (heap_set hb).1, stamped_push hs h2, ?_, ?_⟩
    · intro x hx
      simp only [Array.toList_push, List.mem_append, List.mem_singleton] at hx
      rcases hx with hx | rfl
      · exact hks x hx
      · exact ⟨hk, rfl⟩
    · intro q
      simp only [Array.toList_push, List.mem_append, List.mem_cons, List.not_mem_nil, or_false]
      constructor
      · rintro ⟨e, he | rfl, hke⟩
        · exact Or.inr ((hS q).1 ⟨e, he, hke⟩)
        · simp at hke
          exact Or.inl hke.symm
      · rintro (rfl | hq)
        · exact ⟨_, Or.inr rfl, rfl⟩
        · obtain ⟨e, he, hke⟩ := (hS q).2 hq
          exact ⟨e, Or.inl he, hke⟩
  · exact absurd ((hS k).1 ⟨e, List.mem_of_getElem? h2, h3⟩) hk0

theorem addM_ok {st st' : MS} {slot o p q : Int} {x : M3} (h : addM st slot x o p q = .ok st') : st'.P.length = st.P.length + 1 ∧ st'.H = st.H ∧ st'.i1 = st.i1 ∧ st'.i2 = st.i2 ∧ st'.g = st.g := by
  unfold addM at h
  repeat' split at h
  all_goals first
    | (cases h; exact ⟨by simp, rfl, rfl, rfl, rfl⟩)
    | (cases h)

theorem rdM_ok {d : List Int} {st st' : MS} {s : Int} (h : rdM d st s = .ok st') : secC d s = 0 ∧ st' = { st with H := st.H ++ [(s * 512, (s + 1) * 512)] } := by
  unfold rdM at h
  split at h
  · rename_i hz
    cases h
    exact ⟨hz, rfl⟩
  · cases h

theorem linkM_ok {d : List Int} {st st' : MS} {slot s : Int} {x : M3} (h : linkM d st slot s = .ok (st', x)) : st'.P.length ≤ st.P.length + 1 ∧ st'.H = st.H ++ [(s * 512, (s + 1) * 512)] ∧ st'.i1 = st.i1 ∧ st'.i2 = st.i2 ∧ x = entM (secD d s.toNat) 462 := by
  unfold linkM at h
  split at h
  · cases h
  · cases hr : rdM d st s with
    | error c => rw [hr] at h; cases h
    | ok st1 =>
      obtain ⟨_, hst1⟩ := rdM_ok hr
      rw [hr] at h
      simp only at h
      split at h
      · cases h
      · split at h
        · cases h
        · rename_i st2 heq
          split at h
          · cases h
          · cases h
            split at heq
            · obtain ⟨h1, h2, h3, h4, h5⟩ := addM_ok heq
              rw [h1, h2, h3, h4, hst1]
              exact ⟨Nat.le_refl _, rfl, rfl, rfl, rfl⟩
            · cases heq
              rw [hst1]
              exact ⟨by simp, rfl, rfl, rfl, rfl⟩

set_option maxHeartbeats 16000000 in
set_option maxRecDepth 100000 in
theorem chain_any (w : World) (K : Nat → Prop) (R : Nat) (a : Option Addr) (cap : Nat) (d : List Int) (vP vH : Value) (st : MS) (h : Rdg w K R (.iface 33 (.slice a d.length cap)) vP vH st) (hl : LiesK K w a d) (hby : Byts d) (hd : d.length ≤ 1000000000) (hcap : d.length ≤ cap) (hH : st.H.length ≤ 999900) (hP : st.P.length ≤ 999900) (hi : 0 ≤ st.i1 ∧ st.i1 ≤ 4398046511104) :
    Calls Tryz.prog 39 #[.pointer (some ⟨R, 0, none⟩)] w fun e w' => Ends K R (.iface 33 (.slice a d.length cap)) (chM d st) e w' ∧ Kept K w w' := by
  have HIn := hide (inner_any w K R _ _ _ st h)
  cases hin : st.inn with
  | false =>
    have HO : Hid (chM d st = .ok st) := hide (by unfold chM; rw [hin]; rfl)
    rw [hin] at HIn
    have HR := hide h
    clear h hl hby hd hcap hin
    go_enter Tryz.func39, Tryz.ntmps39
    go_wp2_with fail
    refine HIn.out.mono ?_
    rintro e9 w1 ⟨rfl, h1⟩
    have h1 := h1.symm
    subst h1
    go_wp2_with fail
    go_ret
    exact ⟨Or.inl ⟨st, _, _, HO.out, rfl, HR.out⟩, Kept.refl _ _⟩
  | true =>
    have HO : Hid (chM d st = chainM d (st.i1 / 512) 33 st 4 (st.i1 / 512) []) := hide (by unfold chM; rw [hin]; rfl)
    rw [hin] at HIn
    obtain ⟨b, hb⟩ : ∃ b, b = st.i1 / 512 := ⟨_, rfl⟩
    have hbd : 0 ≤ b ∧ b ≤ 8589934592 := by omega
    have htd : st.i1.tdiv 512 = b := by rw [hb]; exact Int.tdiv_eq_ediv_of_nonneg hi.1
    have hwb : IntKind.i64.wrap b = b := by rw [IntKind.wrap_i64]; omega
    rw [← hb] at HO
    have c2 := h.cell.2.2.1
    obtain ⟨M, hM⟩ : ∃ M, M = w.heap.size := ⟨_, rfl⟩
    obtain ⟨w1, hw1⟩ : ∃ w1, w1 = w.alloc (.map #[] 0) := ⟨_, rfl⟩
    have hb1 : Below w.heap.size w w1 := by rw [hw1]; exact (Below.refl _ _).alloc (Nat.le_refl _) _
    have hM1 : MapS w1 M [] := by rw [hw1, hM]; exact MapS.made w
    have hr1 : Rdg w1 (fun k => K k ∨ k = M) R (.iface 33 (.slice a d.length cap)) vP vH st := h.more hb1 (by omega) hM1.lt
    have hl1 : LiesK K w1 a d := hl.kept (Kept.of_below hb1)
    have hKM : ¬ K M := fun e => by have := h.kl M e; omega
    have HKM := hide hKM
    clear hKM
    have HM1 := hide hM1
    have HR1 := hide hr1
    have HL1 := hide hl1
    have HK1 : Hid (Kept K w w1) := hide (Kept.of_below hb1)
    have HW1 := hide hw1
    have HMe := hide hM
    have HBy := hide hby
    have HB := hide hb
    clear h hl hb1 hM1 hr1 hl1 hw1 hby hb
    have hmk : (Instr.makeMap 130 none).run Tryz.prog w = .ok (.map (some M)) w1 := by rw [HW1.out, hM]; rfl
    have HLk := fun u s vP vH (stk : MS) slot (hu : Rdg u (fun k => K k ∨ k = M) R (.iface 33 (.slice a d.length cap)) vP vH stk) (hl : LiesK K u a d) h1 h2 h3 => hide (link_any u (fun k => K k ∨ k = M) R a cap d vP vH stk hu ⟨hl.1, fun x hx => Or.inl (hl.2 x hx)⟩ HBy.out hd hcap h1 h2 slot s h3)
    have HFe := hide (fun s => entM_fit _ ((HBy.out.drop (512 * s)).take 512) 462)
    clear hM hd hcap
    generalize st.i1 = i1 at *
    go_enter Tryz.func39, Tryz.ntmps39
    go_wp2_with fail
    refine HIn.out.mono ?_
    rintro e9 w2 ⟨rfl, h2⟩
    have h2 := h2.symm
    subst h2
    go_wp2_with fail
    clear c2 hmk
    go_loopw [5, 6] (fun v5 v6 wr => ∃ (k : Nat) (s : Int) (stk : MS) (vP vH : Value) (S : List Int), k ≤ 33 ∧ v5 = .int .i64 s ∧ v6 = .int .i64 (4 + (k : Int)) ∧ (0 ≤ s ∧ s ≤ 20000000000) ∧ MapS wr M S ∧ Rdg wr (fun k => K k ∨ k = M) R (.iface 33 (.slice a d.length cap)) vP vH stk ∧ LiesK K wr a d ∧ stk.P.length ≤ 999900 + k ∧ stk.H.length ≤ 999900 + k ∧ chM d st = chainM d b (33 - k) stk (4 + (k : Int)) s S ∧ Kept K w wr) (fun v5 v6 _ => 37 - (intOf v6).toNat)
    case atStart => exact ⟨0, b, st, _, _, [], by omega, rfl, rfl, by omega, HM1.out, HR1.out, HL1.out, by omega, by omega, HO.out, HK1.out⟩
    case round =>
      obtain ⟨k, s, stk, vP2, vH2, S, hk, rfl, rfl, hsb, hm2, hr2, hl2, hp2, hh2, hto, hkw⟩ := hrel
      have HM2 := hide hm2
      have HR2 := hide hr2
      have HL2 := hide hl2
      have HT := hide hto
      have HKw := hide hkw
      clear hm2 hr2 hl2 hto hkw
      by_cases hlt : k < 33
      · have hd1 : (4 + (k : Int)) ≤ 36 := by omega
        have hlook := lookS_run (P := Tryz.prog) (w := wr) Tryz.underlying130 Tryz.underlying2 (by kernel_rfl) HM2.out s
        obtain ⟨kk, hkk⟩ : ∃ kk, 33 - k = kk + 1 := ⟨32 - k, by omega⟩
        have HT2 : Hid (chM d st = if s ∈ S then .error 13 else match linkM d stk (4 + (k : Int)) s with
          | .error c => .error c
          | .ok (st1, x) => if x.1 = 0 then .ok st1 else chainM d b kk st1 (4 + (k : Int) + 1) (b + x.2.1) (s :: S)) := hide (by rw [HT.out, hkk, chainM]; rfl)
        by_cases hin2 : s ∈ S
        · have hdi : decide (s ∈ S) = true := by simpa using hin2
          rw [hdi] at hlook
          go_wp2_with fail
          go_ret
          exact ⟨Or.inr ⟨13, by rw [HT2.out, if_pos hin2], by decide, rfl⟩, HKw.out.trans (Kept.of_below ((Below.refl _ _).alloc (Nat.le_refl _) _))⟩
        · have hdi : decide (s ∈ S) = false := by simpa using hin2
          rw [hdi] at hlook
          have HT3 : Hid (chM d st = match linkM d stk (4 + (k : Int)) s with
            | .error c => .error c
            | .ok (st1, x) => if x.1 = 0 then .ok st1 else chainM d b kk st1 (4 + (k : Int) + 1) (b + x.2.1) (s :: S)) := hide (by rw [HT2.out, if_neg hin2])
          have hb2 := (Below.refl wr.heap.size wr).alloc (Nat.le_refl _) (.cells #[] 131)
          obtain ⟨w3, hup, hm3, hc3⟩ := updS_run (P := Tryz.prog) (mty := 130) (kt := 2) (et := 131) Tryz.underlying130 Tryz.underlying2 (HM2.out.same (hb2.block M HM2.out.lt)) s hin2
          have hr3 : Rdg w3 (fun k => K k ∨ k = M) R (.iface 33 (.slice a d.length cap)) vP2 vH2 stk := (HR2.out.below hb2).chg hc3 (fun e => HR2.out.kR (Or.inr e)) (fun g e e2 => (HR2.out.kP g e).1 (Or.inr e2)) (fun g e e2 => (HR2.out.kH g e).1 (Or.inr e2))
          have hk3 : Kept K wr w3 := (Kept.of_below hb2).trans (hc3.mono (fun k _ e hk => HKM.out (e ▸ hk)))
          have HCl := hide (HLk w3 s vP2 vH2 stk (4 + (k : Int)) hr3 (HL2.out.kept hk3) (by omega) (by omega) (by omega)).out
          have HL3 := hide (HL2.out.kept hk3)
          have HK3 := hide (HKw.out.trans hk3)
          have HM3 := hide hm3
          clear hr3 hk3 hc3 hm3 hb2 HLk HT HT2
          go_wp2_with fail
          refine HCl.out.mono ?_
          rintro e9 w4 ⟨he4, hk4⟩
          have HM4 := hide (HM3.out.same (hk4.block M HM3.out.lt (fun h => h (Or.inr rfl))))
          have hk4' := hk4.mono (K' := K) (fun k e => Or.inl e)
          have HL4 := hide (HL3.out.kept hk4')
          have HK4 := hide (HK3.out.trans hk4')
          clear hk4 hk4'
          rcases he4 with ⟨st', x, vP4, vH4, h5, rfl, h6⟩ | ⟨c, h5, h6, rfl⟩
          · obtain ⟨hpl, hhl, _, _, hxe⟩ := linkM_ok h5
            have hfx : Fit3 x := by rw [hxe]; exact HFe.out _
            have hhl2 : st'.H.length = stk.H.length + 1 := by rw [hhl]; simp
            have HT4 : Hid (chM d st = if x.1 = 0 then .ok st' else chainM d b kk st' (4 + (k : Int) + 1) (b + x.2.1) (s :: S)) := hide (by rw [HT3.out, h5])
            obtain ⟨x1, x2, x3⟩ := x
            dsimp only at HT4 ⊢
            obtain ⟨hf1, hf2, hf3⟩ := hfx
            dsimp only at hf2
            have HR4 := hide h6
            have HB5 := (Below.refl w4.heap.size w4).alloc (Nat.le_refl _) (.cells #[.int .i64 x1, .int .i64 x2, .int .i64 x3] 128)
            have hwn : IntKind.i64.wrap (b + x2) = b + x2 := by rw [IntKind.wrap_i64]; omega
            have HB6 := hide HB5
            clear h5 h6 hhl hxe HT3 hf1 hf3 HB5
            by_cases hx0 : x1 = 0
            · have hxb : (x1 == 0) = true := by simpa using hx0
              have HT5 : Hid (chM d st = .ok st') := hide (by rw [HT4.out, if_pos hx0])
              clear hx0 HT4
              go_wp2_with fail
              go_ret
              exact ⟨Or.inl ⟨st', _, _, HT5.out, rfl, (HR4.out.below HB6.out).mono (fun k e => Or.inl e)⟩, HK4.out.trans (Kept.of_below HB6.out)⟩
            · have hxb : (x1 == 0) = false := by simpa using hx0
              have HT5 : Hid (chM d st = chainM d b (33 - (k + 1)) st' (4 + ((k + 1 : Nat) : Int)) (b + x2) (s :: S)) := hide (by
                rw [HT4.out, if_neg hx0, show 33 - (k + 1) = kk by omega, show (4 : Int) + ((k + 1 : Nat) : Int) = 4 + (k : Int) + 1 by omega])
              clear hx0 HT4
              go_wp2_with fail
              exact ⟨⟨k + 1, b + x2, st', vP4, vH4, s :: S, by omega, rfl, by congr 1, by omega, HM4.out.same (HB6.out.block M HM4.out.lt), HR4.out.below HB6.out, HL4.out.kept (Kept.of_below HB6.out), by omega, by omega, HT5.out, HK4.out.trans (Kept.of_below HB6.out)⟩, by simp [intOf]; omega⟩
          · have HT4 : Hid (chM d st = .error c) := hide (by rw [HT3.out, h5])
            have hcb : (c != 0) = true := by simpa using h6
            have H6 := hide h6
            have HB6 := hide ((Below.refl w4.heap.size w4).alloc (Nat.le_refl _) (.cells #[.int .i64 0, .int .i64 0, .int .i64 0] 128))
            clear h5 h6 HT3
            go_wp2_with fail
            go_ret
            exact ⟨Or.inr ⟨c, HT4.out, H6.out, rfl⟩, HK4.out.trans (Kept.of_below HB6.out)⟩
      · obtain rfl : k = 33 := by omega
        have HT2 : Hid (chM d st = .error 3) := hide (by rw [HT.out]; rfl)
        go_wp2_with fail
        go_ret
        exact ⟨Or.inr ⟨3, HT2.out, by decide, rfl⟩, HKw.out⟩
end Go.Proofs.YtjpdfchdgphdoaaGreatDoor.Oct
