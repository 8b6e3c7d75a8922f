/- Counts within changes: their ends, and a cluster that is given out. -/
import Derived.Test.YtiokjlckngkhnaaGreatPRfj
namespace Go.Proofs.YtiokjlckngkhnaaGreat.Oct
open Go.RowKit Go.Deep

/-- The highest count that isn't nought, of the first k. -/
def hiR (c : Nat → Int) : Nat → Int
  | 0 => -1
  | k + 1 => if c k = 0 then hiR c k else k
/-- The lowest that is, from 33 on. -/
def loR (c : Nat → Int) : Nat → Int
  | 0 => -1
  | k + 1 => if c k = 0 ∧ 33 ≤ k ∧ loR c k = -1 then k else loR c k

theorem first9 (H : Nat) (h1 : 40 ≤ H) (h2 : H < 100) (w : World) : Calls Tryz.prog 9 #[.agg #[.int .i64 9, .int .i64 32768, .int .i64 (H : Int), .int .i64 29, .bool false]] w fun e w' => e = .returned (.int .i64 33) ∧ Below w.heap.size w w' := by
  refine (first_any 9 32768 H 29 false w).mono ?_
  rintro e9 w2 ⟨rfl, hb⟩
  have this : Hd.at_ ⟨9, 32768, (H : Int), 29, false⟩ 5 = 33 := by
    have hcl : Hd.cl ⟨9, 32768, (H : Int), 29, false⟩ = 512 := rfl
    simp only [Hd.at_, Hd.jour, Hd.refs, hcl]
    have e1 : cutN (H : Int) 8192 = H := by unfold cutN; rw [if_neg (by omega), if_neg (by omega)]
    have e2 : cutN 29 8192 = 29 := by decide
    rw [e1, e2]
    unfold upN
    omega
  rw [this]
  exact ⟨rfl, hb⟩

set_option maxRecDepth 100000 in
set_option maxHeartbeats 8000000 in
theorem rfs_ends (w : World) (A T J F : Nat) (X : Nat → Prop) (f : Fs) (S : List Int) (vb vm : Value) (B M : Int → List Int) (p q : Int) (h : Tst w T J F X f S vb vm B M p q) (hS : S.length ≤ 4194304) (hops : f.ops < 1000000) (hXl : ∀ k, X k → k < w.heap.size) (hby : ∀ x, 0 ≤ seeT S B M x ∧ seeT S B M x < 256)
    (H : Nat) (hA : Rfs w A T H) (hAX : ¬ X A) (hH0 : 40 ≤ H) (hH : H < 100) :
    Calls Tryz.prog 37 #[.pointer (some ⟨A, 0, none⟩)] w fun e w' => ∃ f', e = .returned (.tuple #[.int .i64 (hiR (cntR S B M) H), .int .i64 (loR (cntR S B M) H), .int .i64 0]) ∧ Tst w' T J F X f' S vb vm B M p q ∧ f'.ops ≤ f.ops + 1 ∧ Chg (fun k => k = F) w w' := by
  have HAl := hide (rfs_all w A T J F X f S vb vm B M p q h hS hops hXl hby H hA hAX (by omega) (by omega))
  have HFi := fun u => hide (first9 H hH0 hH u)
  have hAF : A ≠ F := fun e => hAX (e ▸ h.fil.xF)
  have HA := hide hA
  clear h hA hby hXl
  go_enter Tryz.func37, Tryz.ntmps37
  go_wp2_with fail
  refine HAl.out.mono ?_
  rintro e9 w2 ⟨v, f', L, rfl, hoL, hLl, hLv, ht, hf, hcg⟩
  obtain ⟨c0, c1, c2, c3, c4, c5⟩ := Rfs.cell ((hcg.block A HA.out.lt hAF).trans HA.out : Rfs w2 A T H)
  have HG := hide (And.intro ht (And.intro hf hcg))
  obtain ⟨g, cap, rfl⟩ : ∃ g cap, v = .slice (some ⟨g, 0, none⟩) H cap := by
    rcases hoL.2 with ⟨_, hn⟩ | ⟨g, cap, cur, e, _⟩
    · exfalso; omega
    · exact ⟨g, cap, by rw [e, hLl]⟩
  have HO := hide hoL
  have HLl := hide hLl
  have HLv := hide hLv
  clear ht hf hcg hoL hLl hLv
  go_wp2_with fail
  refine ((HFi _).out).mono ?_
  rintro e9 w3 ⟨rfl, hb3⟩
  have HB3 := hide hb3
  have HO3 := hide (HO.out.below hb3)
  clear hb3 c0 c1 c2 c3 c4 c5
  go_wp2_with fail
  go_loopw [2, 3, 23] (fun v2 v3 i wr => ∃ (k : Nat), k ≤ H ∧ i = .int .i64 (k : Int) ∧ v2 = .int .i64 (hiR (cntR S B M) k) ∧ v3 = .int .i64 (loR (cntR S B M) k) ∧ Below w3.heap.size w3 wr) (fun _ _ i _ => H - (intOf i).toNat)
  case atStart => exact ⟨0, by omega, rfl, rfl, rfl, Below.refl _ _⟩
  case round =>
    obtain ⟨k, hk, rfl, rfl, rfl, hbel⟩ := hrel
    have HBl := hide hbel
    clear hbel
    by_cases hlt : k < H
    · have cc := (HO3.out.below HBl.out).cell HLl.out.symm k hlt
      rw [HLv.out k hlt] at cc
      have HH1 : Hid (hiR (cntR S B M) (k + 1) = if cntR S B M k = 0 then hiR (cntR S B M) k else k) := hide rfl
      have HL1 : Hid (loR (cntR S B M) (k + 1) = if cntR S B M k = 0 ∧ 33 ≤ k ∧ loR (cntR S B M) k = -1 then (k : Int) else loR (cntR S B M) k) := hide rfl
      generalize hx : cntR S B M k = x at *
      generalize hy : hiR (cntR S B M) k = y at *
      generalize hz : loR (cntR S B M) k = z at *
      clear hx hy hz
      have HD : Hid (∀ (y2 z2 : Int) (wr' : World), y2 = hiR (cntR S B M) (k + 1) → z2 = loR (cntR S B M) (k + 1) → Below w3.heap.size w3 wr' → ∃ (k' : Nat), k' ≤ H ∧ Value.int .i64 ((k : Int) + 1) = .int .i64 (k' : Int) ∧ Value.int .i64 y2 = .int .i64 (hiR (cntR S B M) k') ∧ Value.int .i64 z2 = .int .i64 (loR (cntR S B M) k') ∧ Below w3.heap.size w3 wr') := hide (fun y2 z2 wr' h1 h2 h3 => ⟨k + 1, by omega, by congr 1, by rw [h1], by rw [h2], h3⟩)
      by_cases h0 : x = 0
      · subst h0
        by_cases h33 : 33 ≤ k
        · by_cases hz1 : z = -1
          · subst hz1
            go_wp2_with fail
            exact ⟨HD.out _ _ _ (by rw [HH1.out, if_pos rfl]) (by rw [HL1.out, if_pos ⟨rfl, h33, rfl⟩]) HBl.out, by simp [intOf]; omega⟩
          · go_wp2_with fail
            exact ⟨HD.out _ _ _ (by rw [HH1.out, if_pos rfl]) (by rw [HL1.out, if_neg (fun e => hz1 e.2.2)]) HBl.out, by simp [intOf]; omega⟩
        · go_wp2_with fail
          exact ⟨HD.out _ _ _ (by rw [HH1.out, if_pos rfl]) (by rw [HL1.out, if_neg (fun e => h33 e.2.1)]) HBl.out, by simp [intOf]; omega⟩
      · go_wp2_with fail
        exact ⟨HD.out _ _ _ (by rw [HH1.out, if_neg h0]) (by rw [HL1.out, if_neg (fun e => h0 e.1)]) HBl.out, by simp [intOf]; omega⟩
    · obtain rfl : k = H := by omega
      go_wp2_with fail
      go_ret3
      exact ⟨f', rfl, HG.out.1.below (HB3.out.trans (HBl.out.mono HB3.out.size)), HG.out.2.1, HG.out.2.2.trans (Chg.of_below (HB3.out.trans (HBl.out.mono HB3.out.size)))⟩

theorem loR_bd (c : Nat → Int) : ∀ k, loR c k = -1 ∨ ∃ n : Nat, loR c k = n ∧ 33 ≤ n ∧ n < k ∧ c n = 0
  | 0 => Or.inl rfl
  | k + 1 => by
    rw [loR]
    split
    · rename_i h
      exact Or.inr ⟨k, rfl, h.2.1, by omega, h.1⟩
    · rcases loR_bd c k with h | ⟨n, h1, h2, h3, h4⟩
      · exact Or.inl h
      · exact Or.inr ⟨n, h1, h2, by omega, h4⟩

set_option maxRecDepth 100000 in
set_option maxHeartbeats 4000000 in
theorem rfs_alloc (w : World) (A T J F : Nat) (X : Nat → Prop) (f : Fs) (S : List Int) (vb vm : Value) (B M : Int → List Int) (p q : Int) (h : Tst w T J F X f S vb vm B M p q) (hS : S.length ≤ 4194304) (hops : f.ops < 1000000) (hXl : ∀ k, X k → k < w.heap.size) (hby : ∀ x, 0 ≤ seeT S B M x ∧ seeT S B M x < 256)
    (H : Nat) (hA : Rfs w A T H) (hAX : ¬ X A) (hAT : A ≠ T) (hH0 : 40 ≤ H) (hH : H < 100) :
    Calls Tryz.prog 18 #[.pointer (some ⟨A, 0, none⟩)] w fun e w' =>
      (loR (cntR S B M) H = -1 ∧ e = .returned (.tuple #[.int .i64 0, .int .i64 15]) ∧ ∃ f', Tst w' T J F X f' S vb vm B M p q ∧ f'.ops ≤ f.ops + 1 ∧ Chg (fun k => k = F) w w') ∨
      (∃ n : Nat, loR (cntR S B M) H = n ∧ 33 ≤ n ∧ n < H ∧ cntR S B M n = 0 ∧ e = .returned (.tuple #[.int .i64 n, .int .i64 0]) ∧ ∃ f' vb' vm' B' M', Tst w' T J F X f' S vb' vm' B' M' p q ∧ f'.ops ≤ f.ops + 1 ∧ SetR B M B' M' n 1 ∧ (∀ r, vb' = .map (some r) ∨ vm' = .map (some r) → (vb = .map (some r) ∨ vm = .map (some r)) ∨ w.heap.size ≤ r) ∧ Chg (fun k => k = F ∨ k = T ∨ vb = .map (some k) ∨ vm = .map (some k)) w w') := by
  have HEn := hide (rfs_ends w A T J F X f S vb vm B M p q h hS hops hXl hby H hA hAX hH0 hH)
  have hAF : A ≠ F := fun e => hAX (e ▸ h.fil.xF)
  have HA := hide hA
  have HXl := hide hXl
  have hlo := loR_bd (cntR S B M) H
  clear h hA hby hXl
  generalize hiR (cntR S B M) H = hi at *
  rcases hlo with hlo | ⟨n, hlo, hn33, hnH, hn0⟩
  · have HLo := hide hlo
    rw [hlo] at HEn
    clear hlo
    go_enter Tryz.func18, Tryz.ntmps18
    go_wp2_with fail
    refine HEn.out.mono ?_
    rintro e9 w2 ⟨f', rfl, ht, hf, hcg⟩
    have HG := hide (And.intro ht (And.intro hf hcg))
    clear ht hf hcg
    go_wp2_with fail
    go_ret2
    exact Or.inl ⟨HLo.out, rfl, f', HG.out.1, HG.out.2.1, HG.out.2.2⟩
  · have HLo := hide hlo
    have HN0 := hide hn0
    rw [hlo] at HEn
    clear hlo hn0
    go_enter Tryz.func18, Tryz.ntmps18
    go_wp2_with fail
    refine HEn.out.mono ?_
    rintro e9 w2 ⟨f', rfl, ht, hf, hcg⟩
    have HT := hide ht
    have HF := hide hf
    have HCg := hide hcg
    have HA2 : Hid (Rfs w2 A T H) := hide ((hcg.block A HA.out.lt hAF).trans HA.out)
    clear ht hf hcg
    have HSt := hide (rfs_set w2 A T J F X f' S vb vm B M p q HT.out (fun k hk => Nat.lt_of_lt_of_le (HXl.out k hk) HCg.out.size) H HA2.out hAT (by omega) n hnH 1 (by omega))
    have hne : ((n : Int) == -1) = false := by simp
    have hne2 : ¬ (n : Int) = -1 := by omega
    go_wp2_with fail
    refine HSt.out.mono ?_
    rintro e9 w3 ⟨rfl, ⟨vb', vm', B', M', ht3, hs3, hr3⟩, hc3⟩
    have HT3 := hide (And.intro ht3 (And.intro hs3 (And.intro hr3 hc3)))
    clear ht3 hs3 hr3 hc3
    go_wp2_with fail
    go_ret2
    exact Or.inr ⟨n, HLo.out, hn33, hnH, HN0.out, rfl, f', vb', vm', B', M', HT3.out.1, HF.out, HT3.out.2.1, fun r hr => (HT3.out.2.2.1 r hr).elim Or.inl (fun h => Or.inr (Nat.le_trans HCg.out.size h)), (HCg.out.mono (fun i _ h => Or.inl h)).trans (HT3.out.2.2.2.mono (fun i _ h => Or.inr h))⟩
end Go.Proofs.YtiokjlckngkhnaaGreat.Oct
