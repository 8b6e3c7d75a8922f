/- Counts within changes: all of them. -/
import Derived.Test.YtiokjlckngkhnaaGreatPRfxRfaRfi
namespace Go.Proofs.YtiokjlckngkhnaaGreat.Oct
open Go.RowKit Go.Deep

set_option maxRecDepth 100000 in
set_option maxHeartbeats 8000000 in
theorem rfs_all (w : World) (A T J F : Nat) (X : Nat → Prop) (f : Fs) (S : List Int) (vb vm : Value) (B M : Int → List Int) (p q : Int) (h : Tst w T J F X f S vb vm B M p q) (hS : S.length ≤ 4194304) (hops : f.ops < 1000000) (hXl : ∀ k, X k → k < w.heap.size) (hby : ∀ x, 0 ≤ seeT S B M x ∧ seeT S B M x < 256)
    (H : Nat) (hA : Rfs w A T H) (hAX : ¬ X A) (hH0 : 0 < H) (hH : H ≤ 100) :
    Calls Tryz.prog 64 #[.pointer (some ⟨A, 0, none⟩)] w fun e w' => ∃ v f' L, e = .returned (.tuple #[v, .int .i64 0]) ∧ OwnJ w' w.heap.size v L ∧ L.length = H ∧ (∀ j, j < H → L.getD j 0 = cntR S B M j) ∧ Tst w' T J F X f' S vb vm B M p q ∧ f'.ops ≤ f.ops + 1 ∧ Chg (fun k => k = F) w w' := by
  have HA := hide hA.drew
  have HT := hide (h.below (Below.refl w.heap.size w).drew)
  have HB := hide (Below.refl w.heap.size w).drew
  have HBy := hide hby
  have HXl := hide hXl
  have hAF : A ≠ F := fun e => hAX (e ▸ h.fil.xF)
  have HAt : ∀ u, Rfs u A T H → Hid (Calls Tryz.prog 40 #[.pointer (some ⟨A, 0, none⟩), .int .i64 0] u fun e w' => e = .returned (.int .i64 15360) ∧ Below u.heap.size u w') := fun u hu => hide (rfs_at u A T H hu 0 (by omega))
  have HGt : ∀ u, Rfs u A T H → Tst u T J F X f S vb vm B M p q → Below w.heap.size w u → Hid (Calls Tryz.prog 39 #[.pointer (some ⟨T, 0, none⟩), .int .i64 15360, .int .i64 (2 * (H : Int))] u fun e w' => ∃ a k l f', e = .returned (.tuple #[.slice a (2 * H) k, .int .i64 0]) ∧ Lies w' a l ∧ l.length = 2 * H ∧ (∀ j, j < 2 * H → l.getD j 0 = seeT S B M (15360 + j)) ∧ Tst w' T J F X f' S vb vm B M p q ∧ f'.ops ≤ f.ops + 1 ∧ Chg (fun k => k = F) w w' ∧ Rfs w' A T H) := fun u h1 h2 h3 => hide (by
    have hg := get_tx u T J F X f S vb vm B M p q h2 hS hops (fun k hk => Nat.lt_of_lt_of_le (hXl k hk) h3.size) 15360 (2 * H) (by omega)
    have e5 : ((2 * H : Nat) : Int) = 2 * (H : Int) := by omega
    have e6 : ((15360 : Nat) : Int) = 15360 := rfl
    rw [e5, e6] at hg
    refine hg.mono ?_
    rintro e9 w3 ⟨v, l, f', rfl, ho, hl, hv, ht, hf, hc3⟩
    obtain ⟨a3, k3, rfl, hl3, _⟩ := ho.form
    refine ⟨a3, k3, l, f', by rw [hl], hl3, hl, hv, ht, hf, (Chg.of_below h3).trans hc3, (hc3.block A h1.lt hAF).trans h1⟩)
  clear h hby hXl
  have e6 : IntKind.i64.wrap (2 * (H : Int)) = 2 * (H : Int) := by rw [IntKind.wrap_i64]; omega
  obtain ⟨c0, c1, c2, c3, c4, c5⟩ := hA.cell
  clear hA
  go_enter Tryz.func64, Tryz.ntmps64
  go_wp2_with fail
  go_region_held3 (fun u => u.cell? ⟨A, 0, none⟩ = some (.int .i64 9) ∧ u.cell? ⟨A, 1, none⟩ = some (.int .i64 32768) ∧ u.cell? ⟨A, 2, none⟩ = some (.int .i64 (H : Int)) ∧ u.cell? ⟨A, 3, none⟩ = some (.int .i64 29) ∧ u.cell? ⟨A, 4, none⟩ = some (.bool false) ∧ u.cell? ⟨A, 5, none⟩ = some (.pointer (some ⟨T, 0, none⟩))) (first | go_keep | exact HA.out.cell) (first
    | (go_at_call 40; refine ((HAt _ HA.out).out).mono ?_; rintro e9 w2 ⟨rfl, hb2⟩; have HA := hide (HA.out.below hb2); have HT := hide (HT.out.below hb2); have HB := hide (HB.out.trans (hb2.mono HB.out.size)); clear hb2)
    | (go_at_call 39; refine ((HGt _ HA.out HT.out HB.out).out).mono ?_; rintro e9 w3 ⟨a3, k3, l, f', rfl, hl3, hl, hv, ht, hf, hc3, hA3⟩; have HA := hide hA3; have HG := hide (And.intro hl (And.intro hv (And.intro ht (And.intro hf (And.intro hc3 hl3))))); clear hl hv ht hf hc3 hl3 hA3))
  all_goals
    have hmk := run_make_ints w3 H (by omega)
    have HO0 := hide (OwnJ.made w3 H (by unfold maxLen; omega))
    have HB4 := hide ((Below.refl w3.heap.size w3).alloc (Nat.le_refl _) (.cells (madeCells #[.int .i64 0] H) 3))
    go_wp2_with fail
    generalize w3.alloc (.cells (madeCells #[.int .i64 0] H) 3) = w4 at *
    clear hmk
    have hlb : Byts l := fun k => by
      by_cases hk : k < 2 * H
      · rw [HG.out.2.1 k hk]; exact HBy.out _
      · rw [List.getD_eq_getElem?_getD, List.getElem?_eq_none (by rw [HG.out.1]; omega)]; simp
    have HU : ∀ k, k < H → ∀ u, Below w3.heap.size w3 u → Hid (∃ tb, Calls Tryz.prog 41 #[.slice a3 (2 * H) k3, .int .i64 (2 * (k : Int))] u fun e w' => e = .returned (.tuple #[.int .u16 (cntR S B M k), .bool tb]) ∧ w' = u) := fun k hk u hu => hide (by
      have hLs := U16_any a3 k3 l ((2 * k : Nat) : Int) u (by rw [HG.out.1]; unfold maxLen; omega) hlb (HG.out.2.2.2.2.2.below hu) (by omega) (by omega)
      have hv0 : numAt l ((2 * k : Nat) : Int) 2 = cntR S B M k := by
        rw [numAt_yes (by rw [HG.out.1]; omega)]
        have e1 := HG.out.2.1 (2 * k) (by omega)
        have e2 := HG.out.2.1 (2 * k + 1) (by omega)
        simp only [num, Nat.add_zero, e1, e2]
        unfold cntR
        rw [← Nat.add_assoc]
        simp
        omega
      have e5 : ((2 * k : Nat) : Int) = 2 * (k : Int) := by omega
      rw [hv0, HG.out.1, e5] at hLs
      exact ⟨_, hLs⟩)
    have HCb := fun k => hide (cntR_bd HBy.out k)
    clear hlb
    go_loopw [45] (fun i wr => ∃ (k : Nat) (L : List Int), k ≤ H ∧ i = .int .i64 (k : Int) ∧ OwnJ wr w3.heap.size (.slice (some ⟨w3.heap.size, 0, none⟩) H H) L ∧ L.length = H ∧ (∀ j, j < k → L.getD j 0 = cntR S B M j) ∧ Below w3.heap.size w3 wr) (fun i _ => H - (intOf i).toNat)
    case atStart => exact ⟨0, _, by omega, rfl, HO0.out, List.length_replicate, fun j hj => by omega, HB4.out⟩
    case round =>
      obtain ⟨k, L, hk, rfl, ho, hLl, hLv, hbel⟩ := hrel
      have HOw := hide ho
      have HLl := hide hLl
      have HLv := hide hLv
      have HBl := hide hbel
      clear ho hLl hLv hbel
      by_cases hlt : k < H
      · obtain ⟨tb, hU⟩ := (HU k hlt _ HBl.out).out
        have hcb := (HCb k).out
        obtain ⟨v, hv⟩ : ∃ v, cntR S B M k = v := ⟨_, rfl⟩
        rw [hv] at hU hcb
        have HV := hide hv
        have HU2 := hide hU
        obtain ⟨hcb1, hcb2⟩ := hcb
        have cc := HOw.out.cell HLl.out.symm k hlt
        have ff := HOw.out.free HLl.out.symm k
        generalize L.getD k 0 = old at cc
        clear hU hv
        go_wp2_with fail
        refine HU2.out.mono ?_
        rintro e9 w5 ⟨rfl, h5⟩
        subst h5
        go_wp2_with fail
        have hs := HOw.out.set HLl.out.symm k v
        refine ⟨⟨k + 1, L.set k v, by omega, by go_num, hs.1, by rw [List.length_set]; exact HLl.out, fun j hj => ?_, HBl.out.grown hs.2 HBl.out.size (fun q hq => by simp at hq; omega)⟩, by simp [intOf]; omega⟩
        rw [getD_set _ _ _ _ (by rw [HLl.out]; exact hlt)]
        by_cases hjk : j = k
        · subst hjk
          simp [HV.out]
        · rw [if_neg (by omega)]
          exact HLv.out j (by omega)
      · obtain rfl : k = H := by omega
        go_wp2_with fail
        go_ret2
        refine ⟨_, f', L, rfl, HOw.out.mono HG.out.2.2.2.2.1.size, HLl.out, HLv.out, HG.out.2.2.1.below HBl.out, HG.out.2.2.2.1, HG.out.2.2.2.2.1.trans (Chg.of_below HBl.out)⟩
end Go.Proofs.YtiokjlckngkhnaaGreat.Oct
