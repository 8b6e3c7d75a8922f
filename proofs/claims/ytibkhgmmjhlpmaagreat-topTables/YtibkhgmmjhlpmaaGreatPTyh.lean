/- How many bytes changes take. -/
import Derived.Test.YtibkhgmmjhlpmaaGreatPTyd
import Derived.Test.YtibkhgmmjhlpmaaGreatPTyg
import Derived.Test.YtibkhgmmjhlpmaaGreatPJrgJrh
namespace Go.Proofs.YtibkhgmmjhlpmaaGreat.Oct
open Go.RowKit Go.Deep Go.Sort

theorem secsM_nil {M : Int → List Int} (h : ∀ s, ¬ 2 ∈ M s) : secsM M = [] := by
  rw [List.eq_nil_iff_forall_not_mem]
  intro x hx
  exact h x ((secsM_mem M x).1 hx).2

set_option maxRecDepth 100000 in
set_option maxHeartbeats 2000000 in
theorem changed_nil (w : World) (T J : Nat) (vb va : Value) (d : Bool) (ht : Txs w T J vb (.map none) va d) :
    Calls Tryz.prog 66 #[.pointer (some ⟨T, 0, none⟩)] w fun e w' => e = .returned (.slice none 0 0) ∧ Below w.heap.size w w' := by
  obtain ⟨c0, c1, c2, c3, c4⟩ := ht.cell
  have hrg := run_range_nilMap (P := Tryz.prog) w 89 2 147 Tryz.underlying89
  have hnx := run_next_nilMap (P := Tryz.prog) w 0 0 0 #[]
  have HB0 : Hid (Below w.heap.size w (w.alloc (.mapIter none 0 #[] 0))) := hide ((Below.refl _ _).alloc (Nat.le_refl _) _)
  have hc := fun u => AnyM.slices_Sort_int_none Tryz.sortI none 0 u
  change ∀ u, Calls Tryz.prog 91 _ _ _ at hc
  have HC := hide hc
  clear ht hc
  go_enter Tryz.func66, Tryz.ntmps66
  go_wp2_with fail
  go_loopw [3] (fun v wr => v = .slice none 0 0 ∧ wr = w.alloc (.mapIter none 0 #[] 0)) (fun _ _ => 0)
  case atStart => exact ⟨rfl, rfl⟩
  case round =>
    obtain ⟨rfl, hwr⟩ := hrel
    subst hwr
    go_wp2_with fail
    refine (HC.out _).mono ?_
    rintro e9 w2 ⟨rfl, hw2⟩
    rw [hw2]
    clear hw2
    go_wp2_with fail
    go_loopw [6, 31] (fun v i wq => v = .slice none 0 0 ∧ i = .int .i64 0 ∧ wq = w.alloc (.mapIter none 0 #[] 0)) (fun _ _ _ => 0)
    case atStart => exact ⟨rfl, rfl, rfl⟩
    case round =>
      obtain ⟨rfl, rfl, hwq⟩ := hrel
      rw [hwq]
      clear hwq
      go_wp2_with fail
      go_ret
      exact ⟨rfl, HB0.out⟩

/-- Parts between 0 and the most. -/
def BdE (R : List (Int × Int)) : Prop := ∀ r ∈ R, 0 ≤ r.1 ∧ r.1 < r.2 ∧ r.2 ≤ 4194304

theorem runS_bd {O : List (Int × Int)} {s : Int} (h : BdE O) (h0 : 0 ≤ s) (h1 : s < 8192) : BdE (runS O s) := by
  unfold runS
  split
  · rename_i hc
    intro r hr
    rcases List.mem_or_eq_of_mem_set hr with hr | hr
    · exact h r hr
    · subst hr
      have hm : O.getD (O.length - 1) (0, 0) ∈ O := by
        have hp := List.length_pos_iff.2 hc.1
        rw [List.getD_eq_getElem?_getD, List.getElem?_eq_getElem (by omega)]
        exact List.getElem_mem _
      have := h _ hm
      have := hc.2
      simp only
      omega
  · intro r hr
    rcases List.mem_append.1 hr with hr | hr
    · exact h r hr
    · simp at hr
      subst hr
      simp only
      omega

theorem runsL_bd {K : List Int} (h : ∀ s ∈ K, 0 ≤ s ∧ s < 8192) : BdE (runsL K) := by
  have g : ∀ (K : List Int) (O : List (Int × Int)), (∀ s ∈ K, 0 ≤ s ∧ s < 8192) → BdE O → BdE (K.foldl runS O) := by
    intro K
    induction K with
    | nil => intro O _ h; exact h
    | cons s K ih =>
      intro O hK hO
      exact ih _ (fun x hx => hK x (List.mem_cons_of_mem _ hx)) (runS_bd hO (hK s (List.mem_cons_self ..)).1 (hK s (List.mem_cons_self ..)).2)
  exact g K [] h (fun r hr => by cases hr)

/-- The runs of changes. -/
def runsM (M : Int → List Int) : List (Int × Int) := runsL (secsM M)

theorem runsM_bd (M : Int → List Int) : BdE (runsM M) := runsL_bd (fun s hs => ((secsM_mem M s).1 hs).1)

theorem secsM_len (M : Int → List Int) : (secsM M).length ≤ 8192 := by
  unfold secsM
  refine Nat.le_trans (List.length_filter_le _ _) ?_
  simp

theorem runsM_len (M : Int → List Int) : (runsM M).length ≤ 8192 := Nat.le_trans (runsL_len _) (secsM_len M)

theorem changed_q (w : World) (T J : Nat) (vb vm va : Value) (d : Bool) (B M : Int → List Int) (ht : Txs w T J vb vm va d) (ho : Ovr w vb vm B M) (hmm : (vb = .map none ∧ vm = .map none) ∨ ∃ r1 r2, vb = .map (some r1) ∧ vm = .map (some r2) ∧ r1 ≠ r2) (hM : ∀ s : Int, ¬ (0 ≤ s ∧ s < 8192) → ¬ 2 ∈ M s) :
    Calls Tryz.prog 66 #[.pointer (some ⟨T, 0, none⟩)] w fun e w' => ∃ v, e = .returned v ∧ OwnE w' w.heap.size v (runsM M) ∧ Below w.heap.size w w' := by
  rcases hmm with ⟨rfl, rfl⟩ | ⟨r1, r2, rfl, rfl, _⟩
  · have hMz : ∀ s, ¬ 2 ∈ M s := fun s h2 => by
      have hz : sec (M s) = sec Z5 := by
        rcases ho.m with h | ⟨r, e, _⟩
        · exact h.2 s
        · cases e
      have h5 : (M s).map (Value.int .u8) = Z5.map (Value.int .u8) := by
        simp only [sec, secC, Value.agg.injEq] at hz
        simpa using congrArg Array.toList hz
      rw [u8_inj h5] at h2
      exact absurd (List.eq_of_mem_replicate h2) (by decide)
    refine (changed_nil w T J _ va d ht).mono ?_
    rintro e w' ⟨rfl, hb⟩
    refine ⟨_, rfl, ?_, hb⟩
    unfold runsM
    rw [secsM_nil hMz]
    exact OwnE.nil _ _
  · exact changed_tx w T J _ va r2 d B M ht ho hM

/-- How many bytes runs take in a journal. -/
def sizeR (R : List (Int × Int)) : Int := (R.map (fun r => 12 + r.2 - r.1)).sum

theorem sizeR_snoc (R : List (Int × Int)) (r : Int × Int) : sizeR (R ++ [r]) = sizeR R + (12 + r.2 - r.1) := by simp [sizeR]

theorem sizeR_bd : ∀ (R : List (Int × Int)), BdE R → 0 ≤ sizeR R ∧ sizeR R ≤ 4194316 * R.length
  | [], _ => by simp [sizeR]
  | r :: R, h => by
    have h1 := sizeR_bd R (fun x hx => h x (List.mem_cons_of_mem _ hx))
    have h2 := h r (List.mem_cons_self ..)
    unfold sizeR at *
    simp only [List.map_cons, List.sum_cons, List.length_cons]
    omega

set_option maxRecDepth 100000 in
set_option maxHeartbeats 4000000 in
theorem size_q (w : World) (T J : Nat) (vb vm va : Value) (d : Bool) (B M : Int → List Int) (ht : Txs w T J vb vm va d) (ho : Ovr w vb vm B M) (hmm : (vb = .map none ∧ vm = .map none) ∨ ∃ r1 r2, vb = .map (some r1) ∧ vm = .map (some r2) ∧ r1 ≠ r2) (hM : ∀ s : Int, ¬ (0 ≤ s ∧ s < 8192) → ¬ 2 ∈ M s) :
    Calls Tryz.prog 40 #[.pointer (some ⟨T, 0, none⟩)] w fun e w' => e = .returned (.int .i64 (sizeR (runsM M))) ∧ Below w.heap.size w w' := by
  have HNo := hide (none_tx w T J vb vm va d ht)
  have HCh := hide (changed_q w T J vb vm va d B M ht ho hmm hM)
  have HBd := hide (runsM_bd M)
  have hRl := runsM_len M
  clear ht ho hmm hM
  generalize runsM M = R at *
  go_enter Tryz.func40, Tryz.ntmps40
  go_wp2_with fail
  refine HNo.out.mono ?_
  rintro e9 w1 ⟨rfl, h9⟩
  subst h9
  go_wp2_with fail
  refine HCh.out.mono ?_
  rintro e9 w2 ⟨v, rfl, ho2, hb2⟩
  obtain ⟨a, c, rfl, hl, _, hcm, _⟩ := ho2.form
  have HL := hide hl
  have HB2 := hide hb2
  clear ho2 hb2 hl HCh HNo
  go_wp2_with fail
  go_loopw [3, 11] (fun v i wr => ∃ k : Nat, k ≤ R.length ∧ i = .int .i64 (k : Int) ∧ v = .int .i64 (sizeR (R.take k)) ∧ Below w2.heap.size w2 wr) (fun _ i _ => R.length - (intOf i).toNat)
  case atStart => exact ⟨0, by omega, rfl, rfl, Below.refl _ _⟩
  case round =>
    obtain ⟨k, hk, rfl, rfl, hb⟩ := hrel
    have HB := hide hb
    by_cases hlt : k < R.length
    · rcases HL.out with hnil | ⟨b, off, rfl, hblt, hc⟩
      · rw [hnil] at hlt; simp at hlt
      have r0 := (hb.cell (p := ⟨b, off + k * 2, none⟩) hblt).trans (hc k hlt).1
      have r1 := (hb.cell (p := ⟨b, off + k * 2 + 1, none⟩) hblt).trans (hc k hlt).2
      have hst : R.take (k + 1) = R.take k ++ [R.getD k (0, 0)] := by
        have e : R.getD k (0, 0) = R[k] := by simp [hlt]
        rw [List.take_succ_eq_append_getElem hlt, e]
      have hbd := HBd.out (R.getD k (0, 0)) (by simp [hlt])
      have hsn := sizeR_snoc (R.take k) (R.getD k (0, 0))
      rw [← hst] at hsn
      have hsb := sizeR_bd (R.take k) (fun r hr => HBd.out r (List.mem_of_mem_take hr))
      have hsl : (R.take k).length ≤ 8192 := by simp; omega
      generalize R.getD k (0, 0) = r at *
      obtain ⟨x, y⟩ := r
      dsimp only at *
      have HSn := hide hsn
      have HXB : Hid (Below w2.heap.size w2 (wr.alloc (.cells #[.int .i64 x, .int .i64 y] 31))) := hide (hb.alloc hb.size _)
      obtain ⟨d0, d1⟩ := box2X wr 31 (.int .i64 x) (.int .i64 y)
      generalize sizeR (R.take k) = z at *
      clear hst hsn hc hb
      go_wp2_with fail
      refine ⟨⟨k + 1, by omega, by go_num, ?_, HXB.out⟩, by simp [intOf]; omega⟩
      rw [HSn.out]
    · obtain rfl : k = R.length := by omega
      rw [List.take_length]
      clear hb
      go_wp2_with fail
      go_ret
      exact ⟨rfl, HB2.out.trans (HB.out.mono HB2.out.size)⟩
end Go.Proofs.YtibkhgmmjhlpmaaGreat.Oct
