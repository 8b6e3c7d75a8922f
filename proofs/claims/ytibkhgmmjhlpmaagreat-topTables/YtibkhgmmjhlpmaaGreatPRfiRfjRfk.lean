/- Counts within changes: their ends, and a cluster that is given out. -/
import Derived.Test.YtibkhgmmjhlpmaaGreatPRftRfxRfa
namespace Go.Proofs.YtibkhgmmjhlpmaaGreat.Oct
open Go.RowKit Go.Deep

def OwnJ (w : World) (B : Nat) (v : Value) (l : List Int) : Prop := w.ownsRow B 3 1 v l.length (l.map (Value.int .i64))

theorem OwnJ.below {w w' : World} {B : Nat} {v : Value} {l : List Int} (h : OwnJ w B v l) (hb : Below w.heap.size w w') : OwnJ w' B v l :=
  World.ownsRow.kept (row := none) h ⟨hb.os, hb.tape, hb.output, hb.size, fun k hk _ => hb.block k hk⟩ (by cases v.ownBlock <;> simp)

theorem OwnJ.mono {w : World} {B B' : Nat} {v : Value} {l : List Int} (h : OwnJ w B v l) (hb : B' ≤ B) : OwnJ w B' v l := by
  refine ⟨h.1, ?_⟩
  rcases h.2 with h1 | ⟨g, cap, cur, h1, hg, hr⟩
  · exact Or.inl h1
  · exact Or.inr ⟨g, cap, cur, h1, Nat.le_trans hb hg, hr⟩

theorem OwnJ.cell {w : World} {B g n cap : Nat} {l : List Int} (h : OwnJ w B (.slice (some ⟨g, 0, none⟩) n cap) l) (hn : n = l.length) (j : Nat) (hj : j < n) :
    w.cell? ⟨g, j, none⟩ = some (.int .i64 (l.getD j 0)) := by
  subst hn
  have := World.ownsRow.cellAt h j (by omega)
  rw [this]
  simp [hj]

theorem OwnJ.free {w : World} {B g n cap : Nat} {l : List Int} (h : OwnJ w B (.slice (some ⟨g, 0, none⟩) n cap) l) (hn : n = l.length) (j : Nat) : w.frozen? ⟨g, j, none⟩ = false := by
  subst hn
  exact World.ownsRow.frozenAt h j

theorem OwnJ.set {w : World} {B g n cap : Nat} {l : List Int} (h : OwnJ w B (.slice (some ⟨g, 0, none⟩) n cap) l) (hn : n = l.length) (j : Nat) (x : Int) :
    OwnJ (w.setCell ⟨g, j, none⟩ (.int .i64 x)) B (.slice (some ⟨g, 0, none⟩) n cap) (l.set j x) ∧ w.grownBy (w.setCell ⟨g, j, none⟩ (.int .i64 x)) (some g) := by
  subst hn
  have := World.ownsRow.stored h j (.int .i64 x)
  refine ⟨?_, this.2⟩
  unfold OwnJ
  rw [List.length_set, List.map_set]
  exact this.1

theorem infoJ : (Tryz.prog.info? 3).map (fun i => (i.zero, i.size, i.bytes)) = some (some (.int .i64 0), 1, 8) := by kernel_rfl

theorem run_make_ints (w : World) (n : Nat) (hn : n ≤ 1000000) :
    (Instr.makeSlice 51 (.int .i64 (n : Int)) (.int .i64 (n : Int))).run Tryz.prog w = .ok (.slice (some ⟨w.heap.size, 0, none⟩) n n) (w.alloc (.cells (madeCells #[.int .i64 0] n) 3)) := by
  obtain ⟨i0, hi, hz0, hz1, hz2⟩ := info_parts infoJ
  have h := run_make (P := Tryz.prog) w 51 3 i0 (.int .i64 0) Tryz.underlying51 hi hz0 .i64 .i64 (n : Int) (n : Int) (by omega) (Int.le_refl _) (by rw [hz2]; omega) (by omega)
  simpa [hz1, Value.cells] using h

theorem OwnJ.made (w : World) (n : Nat) (hn : n ≤ maxLen) :
    OwnJ (w.alloc (.cells (madeCells #[.int .i64 0] n) 3)) w.heap.size (.slice (some ⟨w.heap.size, 0, none⟩) n n) (List.replicate n 0) := by
  have h := World.ownsRow_lit (base := w.heap.size) (e := 3) (size := 1) w (madeCells #[.int .i64 0] n) n (Nat.le_refl _) hn (by rw [size_madeCells]; omega)
  unfold OwnJ
  rw [toList_madeCells_one] at h
  simpa using h
end Go.Proofs.YtibkhgmmjhlpmaaGreat.Oct

namespace Go.Proofs.YtibkhgmmjhlpmaaGreat.Oct
open Go.RowKit Go.Deep

set_option maxRecDepth 100000 in
set_option maxHeartbeats 8000000 in
theorem rfs_all (w : World) (A T J F : Nat) (X : Nat → Prop) (f : Fs) (S : List Int) (vb vm : Value) (B M : Int → List Int) (p q : Int) (h : Tst w T J F X f S vb vm B M p q) (hS : S.length ≤ 4194304) (hops : f.ops < 1000000) (hXl : ∀ k, X k → k < w.heap.size) (hby : ∀ x, 0 ≤ seeT S B M x ∧ seeT S B M x < 256)
    (H : Nat) (hA : Rfs w A T H) (hAX : ¬ X A) (hH0 : 0 < H) (hH : H ≤ 130) :
    Calls Tryz.prog 16 #[.pointer (some ⟨A, 0, none⟩)] w fun e w' => ∃ v f' L, e = .returned (.tuple #[v, .int .i64 0]) ∧ OwnJ w' w.heap.size v L ∧ L.length = H ∧ (∀ j, j < H → L.getD j 0 = cntR S B M j) ∧ Tst w' T J F X f' S vb vm B M p q ∧ f'.ops ≤ f.ops + 1 ∧ Chg (fun k => k = F) w w' := by
  have HA := hide hA.drew
  have HT := hide (h.below (Below.refl w.heap.size w).drew)
  have HB := hide (Below.refl w.heap.size w).drew
  have HBy := hide hby
  have HXl := hide hXl
  have hAF : A ≠ F := fun e => hAX (e ▸ h.fil.xF)
  have HAt : ∀ u, Rfs u A T H → Hid (Calls Tryz.prog 48 #[.pointer (some ⟨A, 0, none⟩), .int .i64 0] u fun e w' => e = .returned (.int .i64 15360) ∧ Below u.heap.size u w') := fun u hu => hide (rfs_at u A T H hu 0 (by omega))
  have HGt : ∀ u, Rfs u A T H → Tst u T J F X f S vb vm B M p q → Below w.heap.size w u → Hid (Calls Tryz.prog 47 #[.pointer (some ⟨T, 0, none⟩), .int .i64 15360, .int .i64 (2 * (H : Int))] u fun e w' => ∃ a k l f', e = .returned (.tuple #[.slice a (2 * H) k, .int .i64 0]) ∧ Lies w' a l ∧ l.length = 2 * H ∧ (∀ j, j < 2 * H → l.getD j 0 = seeT S B M (15360 + j)) ∧ Tst w' T J F X f' S vb vm B M p q ∧ f'.ops ≤ f.ops + 1 ∧ Chg (fun k => k = F) w w' ∧ Rfs w' A T H) := fun u h1 h2 h3 => hide (by
    have hg := get_tx u T J F X f S vb vm B M p q h2 hS hops (fun k hk => Nat.lt_of_lt_of_le (hXl k hk) h3.size) 15360 (2 * H) (by omega)
    have e5 : ((2 * H : Nat) : Int) = 2 * (H : Int) := by omega
    have e6 : ((15360 : Nat) : Int) = 15360 := rfl
    rw [e5, e6] at hg
    refine hg.mono ?_
    rintro e9 w3 ⟨v, l, f', rfl, ho, hl, hv, ht, hf, hc3⟩
    obtain ⟨a3, k3, rfl, hl3, _⟩ := ho.form
    refine ⟨a3, k3, l, f', by rw [hl], hl3, hl, hv, ht, hf, (Chg.of_below h3).trans hc3, (hc3.block A h1.lt hAF).trans h1⟩)
  clear h hby hXl
  have e6 : IntKind.i64.wrap (2 * (H : Int)) = 2 * (H : Int) := by rw [IntKind.wrap_i64]; omega
  obtain ⟨c0, c1, c2, c3, c4, c5⟩ := hA.cell
  clear hA
  go_enter Tryz.func16, Tryz.ntmps16
  go_wp2_with fail
  go_region_held3 (fun u => u.cell? ⟨A, 0, none⟩ = some (.int .i64 9) ∧ u.cell? ⟨A, 1, none⟩ = some (.int .i64 32768) ∧ u.cell? ⟨A, 2, none⟩ = some (.int .i64 (H : Int)) ∧ u.cell? ⟨A, 3, none⟩ = some (.int .i64 29) ∧ u.cell? ⟨A, 4, none⟩ = some (.bool false) ∧ u.cell? ⟨A, 5, none⟩ = some (.pointer (some ⟨T, 0, none⟩))) (first | go_keep | exact HA.out.cell) (first
    | (go_at_call 48; refine ((HAt _ HA.out).out).mono ?_; rintro e9 w2 ⟨rfl, hb2⟩; have HA := hide (HA.out.below hb2); have HT := hide (HT.out.below hb2); have HB := hide (HB.out.trans (hb2.mono HB.out.size)); clear hb2)
    | (go_at_call 47; refine ((HGt _ HA.out HT.out HB.out).out).mono ?_; rintro e9 w3 ⟨a3, k3, l, f', rfl, hl3, hl, hv, ht, hf, hc3, hA3⟩; have HA := hide hA3; have HG := hide (And.intro hl (And.intro hv (And.intro ht (And.intro hf (And.intro hc3 hl3))))); clear hl hv ht hf hc3 hl3 hA3))
  all_goals
    have hmk := run_make_ints w3 H (by omega)
    have HO0 := hide (OwnJ.made w3 H (by unfold maxLen; omega))
    have HB4 := hide ((Below.refl w3.heap.size w3).alloc (Nat.le_refl _) (.cells (madeCells #[.int .i64 0] H) 3))
    go_wp2_with fail
    generalize w3.alloc (.cells (madeCells #[.int .i64 0] H) 3) = w4 at *
    clear hmk
    have hlb : Byts l := fun k => by
      by_cases hk : k < 2 * H
      · rw [HG.out.2.1 k hk]; exact HBy.out _
      · rw [List.getD_eq_getElem?_getD, List.getElem?_eq_none (by rw [HG.out.1]; omega)]; simp
    have HU : ∀ k, k < H → ∀ u, Below w3.heap.size w3 u → Hid (∃ tb, Calls Tryz.prog 49 #[.slice a3 (2 * H) k3, .int .i64 (2 * (k : Int))] u fun e w' => e = .returned (.tuple #[.int .u16 (cntR S B M k), .bool tb]) ∧ w' = u) := fun k hk u hu => hide (by
      have hLs := U16_any a3 k3 l ((2 * k : Nat) : Int) u (by rw [HG.out.1]; unfold maxLen; omega) hlb (HG.out.2.2.2.2.2.below hu) (by omega) (by omega)
      have hv0 : numAt l ((2 * k : Nat) : Int) 2 = cntR S B M k := by
        rw [numAt_yes (by rw [HG.out.1]; omega)]
        have e1 := HG.out.2.1 (2 * k) (by omega)
        have e2 := HG.out.2.1 (2 * k + 1) (by omega)
        simp only [num, Nat.add_zero, e1, e2]
        unfold cntR
        rw [← Nat.add_assoc]
        simp
        omega
      have e5 : ((2 * k : Nat) : Int) = 2 * (k : Int) := by omega
      rw [hv0, HG.out.1, e5] at hLs
      exact ⟨_, hLs⟩)
    have HCb := fun k => hide (cntR_bd HBy.out k)
    clear hlb
    go_loopw [45] (fun i wr => ∃ (k : Nat) (L : List Int), k ≤ H ∧ i = .int .i64 (k : Int) ∧ OwnJ wr w3.heap.size (.slice (some ⟨w3.heap.size, 0, none⟩) H H) L ∧ L.length = H ∧ (∀ j, j < k → L.getD j 0 = cntR S B M j) ∧ Below w3.heap.size w3 wr) (fun i _ => H - (intOf i).toNat)
    case atStart => exact ⟨0, _, by omega, rfl, HO0.out, List.length_replicate, fun j hj => by omega, HB4.out⟩
    case round =>
      obtain ⟨k, L, hk, rfl, ho, hLl, hLv, hbel⟩ := hrel
      have HOw := hide ho
      have HLl := hide hLl
      have HLv := hide hLv
      have HBl := hide hbel
      clear ho hLl hLv hbel
      by_cases hlt : k < H
      · obtain ⟨tb, hU⟩ := (HU k hlt _ HBl.out).out
        have hcb := (HCb k).out
        obtain ⟨v, hv⟩ : ∃ v, cntR S B M k = v := ⟨_, rfl⟩
        rw [hv] at hU hcb
        have HV := hide hv
        have HU2 := hide hU
        obtain ⟨hcb1, hcb2⟩ := hcb
        have cc := HOw.out.cell HLl.out.symm k hlt
        have ff := HOw.out.free HLl.out.symm k
        generalize L.getD k 0 = old at cc
        clear hU hv
        go_wp2_with fail
        refine HU2.out.mono ?_
        rintro e9 w5 ⟨rfl, h5⟩
        subst h5
        go_wp2_with fail
        have hs := HOw.out.set HLl.out.symm k v
        refine ⟨⟨k + 1, L.set k v, by omega, by go_num, hs.1, by rw [List.length_set]; exact HLl.out, fun j hj => ?_, HBl.out.grown hs.2 HBl.out.size (fun q hq => by simp at hq; omega)⟩, by simp [intOf]; omega⟩
        rw [getD_set _ _ _ _ (by rw [HLl.out]; exact hlt)]
        by_cases hjk : j = k
        · subst hjk
          simp [HV.out]
        · rw [if_neg (by omega)]
          exact HLv.out j (by omega)
      · obtain rfl : k = H := by omega
        go_wp2_with fail
        go_ret2
        refine ⟨_, f', L, rfl, HOw.out.mono HG.out.2.2.2.2.1.size, HLl.out, HLv.out, HG.out.2.2.1.below HBl.out, HG.out.2.2.2.1, HG.out.2.2.2.2.1.trans (Chg.of_below HBl.out)⟩
end Go.Proofs.YtibkhgmmjhlpmaaGreat.Oct

namespace Go.Proofs.YtibkhgmmjhlpmaaGreat.Oct
open Go.RowKit Go.Deep

/-- The highest count that isn't nought, of the first k. -/
def hiR (c : Nat → Int) : Nat → Int
  | 0 => -1
  | k + 1 => if c k = 0 then hiR c k else k
/-- The lowest that is, from 33 on. -/
def loR (c : Nat → Int) : Nat → Int
  | 0 => -1
  | k + 1 => if c k = 0 ∧ 33 ≤ k ∧ loR c k = -1 then k else loR c k

theorem first9 (H : Nat) (h1 : 40 ≤ H) (h2 : H < 130) (w : World) : Calls Tryz.prog 5 #[.agg #[.int .i64 9, .int .i64 32768, .int .i64 (H : Int), .int .i64 29, .bool false]] w fun e w' => e = .returned (.int .i64 33) ∧ Below w.heap.size w w' := by
  refine (first_any 9 32768 H 29 false w).mono ?_
  rintro e9 w2 ⟨rfl, hb⟩
  have this : Hd.at_ ⟨9, 32768, (H : Int), 29, false⟩ 5 = 33 := by
    have hcl : Hd.cl ⟨9, 32768, (H : Int), 29, false⟩ = 512 := rfl
    simp only [Hd.at_, Hd.jour, Hd.refs, hcl]
    have e1 : cutN (H : Int) 8192 = H := by unfold cutN; rw [if_neg (by omega), if_neg (by omega)]
    have e2 : cutN 29 8192 = 29 := by decide
    rw [e1, e2]
    unfold upN
    omega
  rw [this]
  exact ⟨rfl, hb⟩

set_option maxRecDepth 100000 in
set_option maxHeartbeats 8000000 in
theorem rfs_ends (w : World) (A T J F : Nat) (X : Nat → Prop) (f : Fs) (S : List Int) (vb vm : Value) (B M : Int → List Int) (p q : Int) (h : Tst w T J F X f S vb vm B M p q) (hS : S.length ≤ 4194304) (hops : f.ops < 1000000) (hXl : ∀ k, X k → k < w.heap.size) (hby : ∀ x, 0 ≤ seeT S B M x ∧ seeT S B M x < 256)
    (H : Nat) (hA : Rfs w A T H) (hAX : ¬ X A) (hH0 : 40 ≤ H) (hH : H < 130) :
    Calls Tryz.prog 33 #[.pointer (some ⟨A, 0, none⟩)] w fun e w' => ∃ f', e = .returned (.tuple #[.int .i64 (hiR (cntR S B M) H), .int .i64 (loR (cntR S B M) H), .int .i64 0]) ∧ Tst w' T J F X f' S vb vm B M p q ∧ f'.ops ≤ f.ops + 1 ∧ Chg (fun k => k = F) w w' := by
  have HAl := hide (rfs_all w A T J F X f S vb vm B M p q h hS hops hXl hby H hA hAX (by omega) (by omega))
  have HFi := fun u => hide (first9 H hH0 hH u)
  have hAF : A ≠ F := fun e => hAX (e ▸ h.fil.xF)
  have HA := hide hA
  clear h hA hby hXl
  go_enter Tryz.func33, Tryz.ntmps33
  go_wp2_with fail
  refine HAl.out.mono ?_
  rintro e9 w2 ⟨v, f', L, rfl, hoL, hLl, hLv, ht, hf, hcg⟩
  obtain ⟨c0, c1, c2, c3, c4, c5⟩ := Rfs.cell ((hcg.block A HA.out.lt hAF).trans HA.out : Rfs w2 A T H)
  have HG := hide (And.intro ht (And.intro hf hcg))
  obtain ⟨g, cap, rfl⟩ : ∃ g cap, v = .slice (some ⟨g, 0, none⟩) H cap := by
    rcases hoL.2 with ⟨_, hn⟩ | ⟨g, cap, cur, e, _⟩
    · exfalso; omega
    · exact ⟨g, cap, by rw [e, hLl]⟩
  have HO := hide hoL
  have HLl := hide hLl
  have HLv := hide hLv
  clear ht hf hcg hoL hLl hLv
  go_wp2_with fail
  refine ((HFi _).out).mono ?_
  rintro e9 w3 ⟨rfl, hb3⟩
  have HB3 := hide hb3
  have HO3 := hide (HO.out.below hb3)
  clear hb3 c0 c1 c2 c3 c4 c5
  go_wp2_with fail
  go_loopw [2, 3, 23] (fun v2 v3 i wr => ∃ (k : Nat), k ≤ H ∧ i = .int .i64 (k : Int) ∧ v2 = .int .i64 (hiR (cntR S B M) k) ∧ v3 = .int .i64 (loR (cntR S B M) k) ∧ Below w3.heap.size w3 wr) (fun _ _ i _ => H - (intOf i).toNat)
  case atStart => exact ⟨0, by omega, rfl, rfl, rfl, Below.refl _ _⟩
  case round =>
    obtain ⟨k, hk, rfl, rfl, rfl, hbel⟩ := hrel
    have HBl := hide hbel
    clear hbel
    by_cases hlt : k < H
    · have cc := (HO3.out.below HBl.out).cell HLl.out.symm k hlt
      rw [HLv.out k hlt] at cc
      have HH1 : Hid (hiR (cntR S B M) (k + 1) = if cntR S B M k = 0 then hiR (cntR S B M) k else k) := hide rfl
      have HL1 : Hid (loR (cntR S B M) (k + 1) = if cntR S B M k = 0 ∧ 33 ≤ k ∧ loR (cntR S B M) k = -1 then (k : Int) else loR (cntR S B M) k) := hide rfl
      generalize hx : cntR S B M k = x at *
      generalize hy : hiR (cntR S B M) k = y at *
      generalize hz : loR (cntR S B M) k = z at *
      clear hx hy hz
      have HD : Hid (∀ (y2 z2 : Int) (wr' : World), y2 = hiR (cntR S B M) (k + 1) → z2 = loR (cntR S B M) (k + 1) → Below w3.heap.size w3 wr' → ∃ (k' : Nat), k' ≤ H ∧ Value.int .i64 ((k : Int) + 1) = .int .i64 (k' : Int) ∧ Value.int .i64 y2 = .int .i64 (hiR (cntR S B M) k') ∧ Value.int .i64 z2 = .int .i64 (loR (cntR S B M) k') ∧ Below w3.heap.size w3 wr') := hide (fun y2 z2 wr' h1 h2 h3 => ⟨k + 1, by omega, by congr 1, by rw [h1], by rw [h2], h3⟩)
      by_cases h0 : x = 0
      · subst h0
        by_cases h33 : 33 ≤ k
        · by_cases hz1 : z = -1
          · subst hz1
            go_wp2_with fail
            exact ⟨HD.out _ _ _ (by rw [HH1.out, if_pos rfl]) (by rw [HL1.out, if_pos ⟨rfl, h33, rfl⟩]) HBl.out, by simp [intOf]; omega⟩
          · go_wp2_with fail
            exact ⟨HD.out _ _ _ (by rw [HH1.out, if_pos rfl]) (by rw [HL1.out, if_neg (fun e => hz1 e.2.2)]) HBl.out, by simp [intOf]; omega⟩
        · go_wp2_with fail
          exact ⟨HD.out _ _ _ (by rw [HH1.out, if_pos rfl]) (by rw [HL1.out, if_neg (fun e => h33 e.2.1)]) HBl.out, by simp [intOf]; omega⟩
      · go_wp2_with fail
        exact ⟨HD.out _ _ _ (by rw [HH1.out, if_neg h0]) (by rw [HL1.out, if_neg (fun e => h0 e.1)]) HBl.out, by simp [intOf]; omega⟩
    · obtain rfl : k = H := by omega
      go_wp2_with fail
      go_ret3
      exact ⟨f', rfl, HG.out.1.below (HB3.out.trans (HBl.out.mono HB3.out.size)), HG.out.2.1, HG.out.2.2.trans (Chg.of_below (HB3.out.trans (HBl.out.mono HB3.out.size)))⟩

theorem loR_bd (c : Nat → Int) : ∀ k, loR c k = -1 ∨ ∃ n : Nat, loR c k = n ∧ 33 ≤ n ∧ n < k ∧ c n = 0
  | 0 => Or.inl rfl
  | k + 1 => by
    rw [loR]
    split
    · rename_i h
      exact Or.inr ⟨k, rfl, h.2.1, by omega, h.1⟩
    · rcases loR_bd c k with h | ⟨n, h1, h2, h3, h4⟩
      · exact Or.inl h
      · exact Or.inr ⟨n, h1, h2, by omega, h4⟩

set_option maxRecDepth 100000 in
set_option maxHeartbeats 4000000 in
theorem rfs_alloc (w : World) (A T J F : Nat) (X : Nat → Prop) (f : Fs) (S : List Int) (vb vm : Value) (B M : Int → List Int) (p q : Int) (h : Tst w T J F X f S vb vm B M p q) (hS : S.length ≤ 4194304) (hops : f.ops < 1000000) (hXl : ∀ k, X k → k < w.heap.size) (hby : ∀ x, 0 ≤ seeT S B M x ∧ seeT S B M x < 256)
    (H : Nat) (hA : Rfs w A T H) (hAX : ¬ X A) (hAT : A ≠ T) (hH0 : 40 ≤ H) (hH : H < 130) :
    Calls Tryz.prog 11 #[.pointer (some ⟨A, 0, none⟩)] w fun e w' =>
      (loR (cntR S B M) H = -1 ∧ e = .returned (.tuple #[.int .i64 0, .int .i64 15]) ∧ ∃ f', Tst w' T J F X f' S vb vm B M p q ∧ f'.ops ≤ f.ops + 1 ∧ Chg (fun k => k = F) w w') ∨
      (∃ n : Nat, loR (cntR S B M) H = n ∧ 33 ≤ n ∧ n < H ∧ cntR S B M n = 0 ∧ e = .returned (.tuple #[.int .i64 n, .int .i64 0]) ∧ ∃ f' vb' vm' B' M', Tst w' T J F X f' S vb' vm' B' M' p q ∧ f'.ops ≤ f.ops + 1 ∧ SetR B M B' M' n 1 ∧ (∀ r, vb' = .map (some r) ∨ vm' = .map (some r) → (vb = .map (some r) ∨ vm = .map (some r)) ∨ w.heap.size ≤ r) ∧ Chg (fun k => k = F ∨ k = T ∨ vb = .map (some k) ∨ vm = .map (some k)) w w') := by
  have HEn := hide (rfs_ends w A T J F X f S vb vm B M p q h hS hops hXl hby H hA hAX hH0 hH)
  have hAF : A ≠ F := fun e => hAX (e ▸ h.fil.xF)
  have HA := hide hA
  have HXl := hide hXl
  have hlo := loR_bd (cntR S B M) H
  clear h hA hby hXl
  generalize hiR (cntR S B M) H = hi at *
  rcases hlo with hlo | ⟨n, hlo, hn33, hnH, hn0⟩
  · have HLo := hide hlo
    rw [hlo] at HEn
    clear hlo
    go_enter Tryz.func11, Tryz.ntmps11
    go_wp2_with fail
    refine HEn.out.mono ?_
    rintro e9 w2 ⟨f', rfl, ht, hf, hcg⟩
    have HG := hide (And.intro ht (And.intro hf hcg))
    clear ht hf hcg
    go_wp2_with fail
    go_ret2
    exact Or.inl ⟨HLo.out, rfl, f', HG.out.1, HG.out.2.1, HG.out.2.2⟩
  · have HLo := hide hlo
    have HN0 := hide hn0
    rw [hlo] at HEn
    clear hlo hn0
    go_enter Tryz.func11, Tryz.ntmps11
    go_wp2_with fail
    refine HEn.out.mono ?_
    rintro e9 w2 ⟨f', rfl, ht, hf, hcg⟩
    have HT := hide ht
    have HF := hide hf
    have HCg := hide hcg
    have HA2 : Hid (Rfs w2 A T H) := hide ((hcg.block A HA.out.lt hAF).trans HA.out)
    clear ht hf hcg
    have HSt := hide (rfs_set w2 A T J F X f' S vb vm B M p q HT.out (fun k hk => Nat.lt_of_lt_of_le (HXl.out k hk) HCg.out.size) H HA2.out hAT (by omega) n hnH 1 (by omega))
    have hne : ((n : Int) == -1) = false := by simp
    have hne2 : ¬ (n : Int) = -1 := by omega
    go_wp2_with fail
    refine HSt.out.mono ?_
    rintro e9 w3 ⟨rfl, ⟨vb', vm', B', M', ht3, hs3, hr3⟩, hc3⟩
    have HT3 := hide (And.intro ht3 (And.intro hs3 (And.intro hr3 hc3)))
    clear ht3 hs3 hr3 hc3
    go_wp2_with fail
    go_ret2
    exact Or.inr ⟨n, HLo.out, hn33, hnH, HN0.out, rfl, f', vb', vm', B', M', HT3.out.1, HF.out, HT3.out.2.1, fun r hr => (HT3.out.2.2.1 r hr).elim Or.inl (fun h => Or.inr (Nat.le_trans HCg.out.size h)), (HCg.out.mono (fun i _ h => Or.inl h)).trans (HT3.out.2.2.2.mono (fun i _ h => Or.inr h))⟩
end Go.Proofs.YtibkhgmmjhlpmaaGreat.Oct
