/- Chains that are marked: a map of numbers, each with 1. -/
import Derived.Test.YtcbbaoiefdbcpaaDoorPFlbFlcFcw
import Derived.WalkSpells
namespace Go.Proofs.YtcbbaoiefdbcpaaDoor.Oct
open Go.RowKit Go.MapKept

/-- The block r is a map that has the numbers of M, each with 1, and as many entries. -/
def MkR (w : World) (r : Nat) (M : List Int) : Prop :=
  ∃ es clock, w.heap[r]? = some (.map es clock) ∧ Stamped es clock ∧ (∀ x ∈ es.toList, IsKey (.int .i64) x.key) ∧ (∀ x ∈ es.toList, x.val = .int .i64 1) ∧ (∀ k, (∃ e ∈ es.toList, e.key = .int .i64 k) ↔ k ∈ M) ∧ es.size = M.length

theorem MkR.lt {w : World} {r : Nat} {M : List Int} (h : MkR w r M) : r < w.heap.size := by
  obtain ⟨es, clock, hb, _⟩ := h
  exact (Array.getElem?_eq_some_iff.1 hb).1

theorem MkR.same {w w' : World} {r : Nat} {M : List Int} (h : MkR w r M) (he : w'.heap[r]? = w.heap[r]?) : MkR w' r M := by
  obtain ⟨es, clock, hb, hr⟩ := h
  exact ⟨es, clock, he.trans hb, hr⟩

theorem MkR.below {w w' : World} {r : Nat} {M : List Int} (h : MkR w r M) (hb : Below w.heap.size w w') : MkR w' r M := h.same (hb.block r h.lt)

theorem MkR.made (w : World) : MkR (w.alloc (.map #[] 0)) w.heap.size [] :=
  ⟨#[], 0, (heap_alloc w _).1, stamped_empty 0, by simp, by simp, fun k => by simp, rfl⟩

theorem MkR.mapv {w : World} {r : Nat} {M : List Int} (h : MkR w r M) : MapV w (.map (some r)) (.int .i64 0) (fun c => .int .i64 (if c ∈ M then 1 else 0)) := by
  obtain ⟨es, clock, hb, hs, hk, hv, hn, _⟩ := h
  refine Or.inr ⟨r, rfl, es, clock, hb, hs, hk, fun e he k hek => ?_, fun k hno => ?_⟩
  · have hm : k ∈ M := (hn k).1 ⟨e, he, hek⟩
    show _ = Value.int .i64 (if k ∈ M then 1 else 0)
    rw [if_pos hm]
    exact hv e he
  · have hm : ¬ k ∈ M := fun hc => by
      obtain ⟨e, he, hek⟩ := (hn k).2 hc
      exact hno e he hek
    show Value.int .i64 (if k ∈ M then 1 else 0) = _
    rw [if_neg hm]

theorem mk_put {P : Program} {w : World} {mty kt et : TypeId} (hm : P.underlying mty = some (.map kt et)) (hd : P.underlying kt = some (.int .i64)) {r : Nat} {M : List Int} (h : MkR w r M) (k : Int) (hk9 : ¬ k ∈ M) :
    ∃ w1, (Instr.mapUpdate mty (.map (some r)) (.int .i64 k) (.int .i64 1)).run P w = .ok () w1 ∧ MkR w1 r (M ++ [k]) ∧ w.grownBy w1 (some r) := by
  have hk : IsKey (.int .i64) (.int .i64 k) := rfl
  obtain ⟨es, clock, hb, hs, hks, hv, hn, hsz⟩ := h
  have hgr : ∀ o : Obj, w.grownBy { w with heap := w.heap.setIfInBounds r o } (some r) := fun o => ⟨rfl, rfl, rfl, by simp, fun i _ hi => (heap_set hb).2 i (fun e => hi (by rw [e]))⟩
  rcases findNow_spec hk es.toList 0 hks with ⟨h1, h2⟩ | ⟨j, e, h1, h2, h3⟩
  · refine ⟨_, by simp [Instr.mapUpdate, run_underlying hm, MapKept.run_getObj_map hb, run_checkKey hd hk, run_findKey hd h1, MapKept.run_setObj_map _ hb, Result.andThen]; rfl, ?_, hgr _⟩
    refine ⟨_, _, (heap_set hb).1, stamped_push hs h2, ?_, ?_, ?_, by simp [hsz]⟩
    · intro x hx
      simp only [Array.toList_push, List.mem_append, List.mem_singleton] at hx
      rcases hx with hx | rfl
      · exact hks x hx
      · exact hk
    · intro x hx
      simp only [Array.toList_push, List.mem_append, List.mem_singleton] at hx
      rcases hx with hx | rfl
      · exact hv x hx
      · rfl
    · intro k'
      simp only [Array.toList_push, List.mem_append, List.mem_singleton]
      constructor
      · rintro ⟨e, he | rfl, hke⟩
        · exact Or.inl ((hn k').1 ⟨e, he, hke⟩)
        · simp at hke
          exact Or.inr hke.symm
      · rintro (hc | rfl)
        · obtain ⟨e, he, hke⟩ := (hn k').2 hc
          exact ⟨e, Or.inl he, hke⟩
        · exact ⟨_, Or.inr rfl, rfl⟩
  · exact absurd ((hn k).1 ⟨e, List.mem_of_getElem? h2, h3⟩) hk9

/-- A chain that is told has no cluster twice, and none that is marked. -/
theorem fol_ok (L : List Int) (k : Nat) (mk : Int → Int) : ∀ (n : Nat) (acc : List Int) (c : Int) (l : List Int), fol L k mk n acc c = (l, 0) → acc.Nodup → (∀ a ∈ acc, ¬ 0 < mk a ∧ 2 ≤ a ∧ a < (k : Int) + 2) → l.Nodup ∧ ∀ a ∈ l, ¬ 0 < mk a ∧ 2 ≤ a ∧ a < (k : Int) + 2
  | 0, acc, c, l, h, _, _ => by simp [fol] at h
  | n + 1, acc, c, l, h, hn, ha => by
    rw [fol] at h
    split at h
    · rename_i h2
      split at h
      · simp at h
      rename_i hin
      split at h
      · simp at h
      rename_i hmk
      split at h
      · simp at h
      have hn2 : (acc ++ [c]).Nodup := List.nodup_append.2 ⟨hn, by simp, by intro p hp q hq; simp at hq; subst hq; exact fun e => hin (e ▸ hp)⟩
      have ha2 : ∀ a ∈ acc ++ [c], ¬ 0 < mk a ∧ 2 ≤ a ∧ a < (k : Int) + 2 := by
        intro a hm
        rcases List.mem_append.1 hm with h4 | h4
        · exact ha a h4
        · simp at h4; subst h4; exact ⟨hmk, h2⟩
      split at h
      · simp at h; subst h; exact ⟨hn2, ha2⟩
      · exact fol_ok L k mk n _ _ l h hn2 ha2
    · simp at h

set_option maxHeartbeats 8000000 in
set_option maxRecDepth 100000 in
/-- Chain of a volume: what it tells is marked. -/
theorem chain_marks (b : Bt) (R g k : Nat) (f x : Int) (L M : List Int) (first : Int) (r : Nat) (w : World) (hc : -9223372036854775808 ≤ first ∧ first ≤ 9223372036854775807) (hk2 : k ≤ 40000) (hR : Blk w R (volC b g k f x) 68) (hL : ∀ j, j < k → w.cell? ⟨g, j, none⟩ = some (.int .u32 (L.getD j 0))) (hLr : ∀ j, 0 ≤ L.getD j 0 ∧ L.getD j 0 < 4294967296) (hm : MkR w r M) :
    Calls Tryd.prog 8 #[.pointer (some ⟨R, 0, none⟩), .int .i64 first, .map (some r)] w fun e w' => (((fol L k (fun c => if c ∈ M then 1 else 0) (k + 1) [] first).2 = 0 ∧ ∃ v, e = .returned (.tuple #[v, .int .i64 0]) ∧ OwnC w' w.heap.size v (fol L k (fun c => if c ∈ M then 1 else 0) (k + 1) [] first).1 ∧ MkR w' r (M ++ (fol L k (fun c => if c ∈ M then 1 else 0) (k + 1) [] first).1)) ∨ ((fol L k (fun c => if c ∈ M then 1 else 0) (k + 1) [] first).2 ≠ 0 ∧ e = .returned (.tuple #[.slice none 0 0, .int .i64 (fol L k (fun c => if c ∈ M then 1 else 0) (k + 1) [] first).2]) ∧ MkR w' r M)) ∧ Chg (fun i => i = r) w w' := by
  have HF := hide (follow_any b R g k f x L first (.map (some r)) (fun c => if c ∈ M then 1 else 0) w hc hk2 hR hL hLr hm.mapv)
  have HOk := hide (fun l (h : fol L k (fun c => if c ∈ M then 1 else 0) (k + 1) [] first = (l, 0)) => fol_ok L k (fun c => if c ∈ M then 1 else 0) (k + 1) [] first l h (by simp) (by simp))
  obtain ⟨F0, hF0⟩ : ∃ F0, F0 = fol L k (fun c => if c ∈ M then 1 else 0) (k + 1) [] first := ⟨_, rfl⟩
  rw [← hF0] at HF HOk ⊢
  have HM := hide hm
  have HK := hide hk2
  have hq : ∀ u, (binOp .neq 40 (.map (some r)) (.map none)).run Tryd.prog u = .ok (.bool true) u := fun u => run_neq_map_nil u 40 _ _ (some r) Tryd.underlying40
  clear hR hL hLr hF0 hk2 hc hm
  go_enter Tryd.func8, Tryd.ntmps8
  go_wp2_with fail
  refine HF.out.mono ?_
  rintro e9 w2 ⟨⟨h0, v, rfl, hv⟩ | ⟨h0, rfl⟩, hb⟩
  rotate_left
  · have HB := hide (show Chg (fun i => i = r) w w2 from Chg.of_below hb)
    have HM2 := hide (HM.out.below hb)
    have h1 : (F0.2 != 0) = true := by simpa using h0
    have H0 := hide h0
    clear hb h0 HF
    go_wp2_with fail
    go_ret2
    exact ⟨Or.inr ⟨H0.out, rfl, HM2.out⟩, HB.out⟩
  · obtain ⟨l, hl⟩ : ∃ l, l = F0.1 := ⟨_, rfl⟩
    rw [← hl] at hv
    have HL0 := hide hl
    obtain ⟨hnd, hin⟩ := HOk.out l (Prod.ext hl.symm h0)
    have HNd := hide hnd
    have HIn := hide (show ∀ a ∈ l, ¬ a ∈ M by intro a ha h; have := (hin a ha).1; simp [h] at this)
    have HLn := hide (show l.length ≤ k by
      have := nodup_leF k (l.map (fun a => a - 2)) (hnd.map _ (fun p q h e => h (by omega))) (by intro y hy; obtain ⟨a, ha, rfl⟩ := List.mem_map.1 hy; have := (hin a ha).2; omega)
      simpa using this)
    have HV := hide hv
    have HB := hide (show Chg (fun i => i = r) w w2 from Chg.of_below hb)
    have HM2 := hide (HM.out.below hb)
    have H0 := hide h0
    have HRl := hide (show r < w.heap.size from HM.out.lt)
    obtain ⟨a8, c8, hv8⟩ := hv.len
    subst hv8
    clear hv hb h0 HF hnd hin hl
    have hlE := HLn.out
    obtain ⟨N, hN⟩ : ∃ N, N = l.length := ⟨_, rfl⟩
    rw [← hN]
    have HN := hide hN
    clear hN hlE
    go_wp2_with fail
    go_loopw [28] (fun i wr => ∃ j : Nat, j ≤ N ∧ i = .int .i64 (j : Int) ∧ MkR wr r (M ++ l.take j) ∧ Chg (fun i => i = r) w2 wr) (fun i _ => N - (intOf i).toNat)
    case atStart => exact ⟨0, by omega, rfl, by simpa using HM2.out, Chg.refl _ _⟩
    case round =>
      obtain ⟨j, hj, rfl, hmr, hcr⟩ := hrel
      have HVr := hide (show OwnC wr w.heap.size (.slice a8 N c8) l by
        have h := HV.out
        rw [← HN.out] at h
        exact ownsRow_chg h hcr (fun g hg e => by have := (World.ownsRow.lt h g hg).1; have := HRl.out; omega))
      have HMr := hide hmr
      have HCr := hide hcr
      clear hmr hcr
      by_cases hjk : j < N
      · have hjl : j < l.length := by rw [← HN.out]; exact hjk
        obtain ⟨c, hcE⟩ : ∃ c, c = l[j] := ⟨_, rfl⟩
        have hcm : c ∈ l := by rw [hcE]; exact List.getElem_mem _
        have hnt : ¬ c ∈ M ++ l.take j := by
          intro h
          rcases List.mem_append.1 h with h | h
          · exact HIn.out c hcm h
          · rw [hcE] at h
            obtain ⟨i, hi, he⟩ := List.mem_take_iff_getElem.1 h
            have := (List.getElem_inj HNd.out).1 he
            omega
        obtain ⟨g8, rfl, cj⟩ : ∃ g8, a8 = some ⟨g8, 0, none⟩ ∧ wr.cell? ⟨g8, j, none⟩ = some (.int .i64 c) := by
          obtain ⟨a', c', e1, e2⟩ := (show ∃ a' c', Value.slice a8 N c8 = .slice a' l.length c' ∧ (l = [] ∨ ∃ g, a' = some ⟨g, 0, none⟩ ∧ ∀ (j : Nat) z, l[j]? = some z → wr.cell? ⟨g, j, none⟩ = some (.int .i64 z)) by
            have h0 := HVr.out
            rcases h0.2 with ⟨h, hn⟩ | ⟨g, cap, cur, h, _⟩
            · omega
            · cases h
              refine ⟨_, _, by rw [HN.out], Or.inr ⟨g, rfl, fun j z hz => ?_⟩⟩
              have := World.ownsRow.cells (g := g) h0 rfl j (.int .i64 z) (by simp [hz])
              rw [Go.WideShapes.add_plain, Nat.zero_add] at this
              exact this)
          rcases e2 with h | ⟨g, h, hc⟩
          · rw [h] at hjl; simp at hjl
          · cases e1
            exact ⟨g, h, hc j c (by rw [List.getElem?_eq_getElem hjl, hcE])⟩
        obtain ⟨w3, hup, hm3, hg3⟩ := mk_put (P := Tryd.prog) (mty := 40) Tryd.underlying40 Tryd.underlying2 HMr.out c hnt
        have HM3 := hide (show MkR w3 r (M ++ l.take (j + 1)) by rw [List.take_add_one, List.getElem?_eq_getElem hjl, ← hcE]; simpa using hm3)
        have HC3 := hide (HCr.out.trans ((Chg.of_grown hg3).mono (fun i _ e => by simpa using e)))
        have q1 : IntKind.i64.wrap ((j : Int) + 1) = (j : Int) + 1 := by have := HK.out; have := HLn.out; rw [IntKind.wrap_i64]; omega
        have hlt : (j : Int) < (N : Int) := by omega
        have HJ := hide hjk
        clear hjk hj hjl hcE hcm hnt hm3 hg3
        go_wp2_with fail
        exact ⟨⟨j + 1, by have := HJ.out; omega, by push_cast; rfl, HM3.out, HC3.out⟩, by have := HJ.out; simp [intOf]; omega⟩
      · obtain rfl : j = N := by omega
        have hnlt : ¬ (j : Int) < (j : Int) := by omega
        have HCf := hide (HB.out.trans HCr.out)
        clear hjk hj
        go_wp2_with fail
        go_ret2
        refine ⟨Or.inl ⟨H0.out, _, rfl, by rw [← HL0.out]; exact HVr.out, ?_⟩, HCf.out⟩
        have h := HMr.out
        rw [HN.out, List.take_length] at h
        rw [← HL0.out]
        exact h
end Go.Proofs.YtcbbaoiefdbcpaaDoor.Oct
