/- Bytes are written: a write for each sector. -/
import Derived.Test.YtkhknfohcebicaaUse
namespace Go.Proofs.Ytkhknfohcebicaa.Oct
open Go.RowKit Go.Deep

/-- What a write says, wherever its bytes lie. -/
def Wr.dat (r : Wr) : Nat × List Int × Bool := (r.at_, r.p, r.cut)

/-- The pieces of bytes at a place, a sector each. -/
def cuts (at_ : Nat) (p : List Int) : List (Nat × List Int × Bool) :=
  if p = [] then [] else (at_, p.take (min (512 - at_ % 512) p.length), false) :: cuts (at_ + min (512 - at_ % 512) p.length) (p.drop (min (512 - at_ % 512) p.length))
termination_by p.length
decreasing_by
  rename_i h
  have := List.length_pos_iff.2 h
  simp
  omega

theorem cuts_nil (at_ : Nat) : cuts at_ [] = [] := by rw [cuts]; simp
theorem cuts_step (at_ : Nat) (p : List Int) (n : Nat) (h : p ≠ []) (hn : n = min (512 - at_ % 512) p.length) : cuts at_ p = (at_, p.take n, false) :: cuts (at_ + n) (p.drop n) := by
  subst hn
  rw [cuts, if_neg h]

/-- Bytes behind writes. -/
def laidAll (l : List Int) (R : List Wr) : List Int := R.foldl (fun m r => laid r m) l

theorem laidAll_snoc (l : List Int) (R : List Wr) (r : Wr) : laidAll l (R ++ [r]) = laid r (laidAll l R) := by simp [laidAll]
theorem laidAll_append (l : List Int) (R Q : List Wr) : laidAll l (R ++ Q) = laidAll (laidAll l R) Q := by simp [laidAll]

theorem over_pad (m : List Int) (o : Nat) (l : List Int) : o + l.length ≤ (m ++ List.replicate (o + l.length - m.length) (0 : Int)).length := by simp; omega

theorem laid_le (r : Wr) (l : List Int) (m : Nat) (hl : l.length ≤ m) (hr : r.at_ + r.p.length ≤ m) : (laid r l).length ≤ m := by
  unfold laid
  split
  · simp; omega
  · rw [over_length (over_pad _ _ _)]
    simp
    omega

/-- A block that a write may lie in. -/
def FreeB (w : World) (X : Nat → Prop) (F : Nat) (f : Fs) (g : Nat) : Prop :=
  g < w.heap.size ∧ X g ∧ g ≠ F ∧ f.vs.ownBlock ≠ some g ∧ f.vt.ownBlock ≠ some g ∧ f.vr.ownBlock ≠ some g

theorem drop_drop_len (p : List Int) (k n : Nat) : (p.drop k).drop n = p.drop (k + n) := by rw [List.drop_drop]

set_option maxHeartbeats 4000000 in
set_option maxRecDepth 100000 in
/-- The pieces are done, one behind the other. -/
theorem write_ok (w : World) (X : Nat → Prop) (F : Nat) (f : Fs) (S T : List Int) (R : List Wr) (h : Fil w X F f S T R) (at_ : Nat) (a : Option Addr) (cap : Nat) (p : List Int) (hp : Lies w a p) (hpx : p ≠ [] → ∀ x, a = some x → ¬ X x.block) (hops : -1000000 ≤ f.ops ∧ f.ops < 1000000) (hwr : -1000000 ≤ f.wrote ∧ f.wrote < 1000000)
    (hat : at_ + p.length ≤ 4194304) (hs : S.length ≤ 4194304) (hr : R.length ≤ 1000000) (h0 : f.said = 0) :
    Calls Try.prog 50 #[.pointer (some ⟨F, 0, none⟩), .int .i64 at_, .slice a p.length cap] w fun e w' => e = .returned (.int .i64 0) ∧ ∃ ps vs vr, ps.map Wr.dat = cuts at_ p ∧
      Fil w' (fun k => X k ∨ w.heap.size ≤ k) F { f.asked with wrote := f.wrote + 1, vs := vs, vr := vr } (laidAll S ps) T (R ++ ps) ∧ Chg X w w' := by
  have HF := hide h
  have HP := hide hp
  have HX := hide h.xF
  have HN : Hid (p.length ≤ 140737488355328) := hide (by omega)
  have hn0 : ¬ ((at_ : Int) < 0) := by omega
  have hn1 : ¬ ((4194304 : Int) - (p.length : Int) < (at_ : Int)) := by omega
  clear h hp
  go_enter Try.func50, Try.ntmps50
  go_wp2_with fail
  refine (ask_file w F f HF.out.at_ (by omega)).mono ?_
  rintro e w1 ⟨rfl, ha1, hc1⟩
  rw [h0]
  have HA1 := hide ha1
  have HC1 := hide hc1
  have h4 := ha1.cell.2.2.2.2.1
  have z4 := ha1.frozen 4
  have e4 : f.asked.wrote = f.wrote := rfl
  rw [e4] at h4
  clear ha1 hc1 e4
  go_wp2_with fail
  obtain ⟨w2, hw2⟩ : ∃ w2, w2 = w1.setCell ⟨F, 4, none⟩ (.int .i64 (f.wrote + 1)) := ⟨_, rfl⟩
  have hc2 : Chg (fun k => k = F) w w2 := by rw [hw2]; exact HC1.out.setCell F 4 _ (fun _ => rfl)
  have ha2 : At w2 F { f.asked with wrote := f.wrote + 1 } := by rw [hw2]; exact HA1.out.setwrote _
  have hf2 : Fil w2 X F { f.asked with wrote := f.wrote + 1 } S T R := HF.out.fields hc2 ha2 rfl rfl rfl
  have hp2 : Lies w2 a p := by
    by_cases hpe : p = []
    · rw [hpe]; exact Lies.nil _ _
    · exact HP.out.chg hc2 (fun x hx e => hpx hpe x hx (by rw [e]; exact HX.out))
  have HC2 : Hid (Chg X w w2) := hide (hc2.mono (fun i _ e => by subst e; exact HX.out))
  rw [← hw2]
  have HF2 := hide hf2
  obtain ⟨f2, hff⟩ : ∃ f2 : Fs, f2 = { f.asked with wrote := f.wrote + 1 } := ⟨_, rfl⟩
  rw [← hff] at HF2
  have HFF := hide hff
  have HPX := hide hpx
  clear hw2 ha2 hf2 HA1 HC1 h4 z4 hff hc2 hpx
  refine (clone_any w2 a cap p hp2 HN.out).mono ?_
  rintro e w3 ⟨v3, rfl, ho3, hb3⟩
  have hf3 : Fil w3 X F f2 S T R := HF2.out.chg (Y := fun _ => False) (Chg.of_below hb3) (fun _ _ _ h => h)
  have HC3 : Hid (Chg X w w3) := hide (HC2.out.trans (Chg.of_below hb3))
  have hs2 : w.heap.size ≤ w2.heap.size := HC2.out.size
  obtain ⟨a3, c3, rfl, hsl3, hg3⟩ := ho3.sl
  have hl3 := ownsRow_lt ho3
  have hb3' := ho3.base
  have HI : Hid (∃ (k : Nat) (ps : List Wr) (vs vr : Value) (ar : Option Addr) (cr : Nat), k ≤ p.length ∧ Value.int .i64 at_ = .int .i64 ((at_ + k : Nat) : Int) ∧ Value.slice a3 p.length c3 = .slice ar (p.length - k) cr ∧ p.length - k ≤ cr ∧ cr ≤ maxLen ∧
      (k < p.length → ∃ g, ar = some ⟨g, k, none⟩ ∧ FreeB w3 (fun k => X k ∨ w.heap.size ≤ k) F { f2 with vs := vs, vr := vr } g) ∧ Lies w3 ar (p.drop k) ∧ ps.map Wr.dat ++ cuts (at_ + k) (p.drop k) = cuts at_ p ∧ ps.length ≤ k ∧ (laidAll S ps).length ≤ 4194304 ∧
      Fil w3 (fun k => X k ∨ w.heap.size ≤ k) F { f2 with vs := vs, vr := vr } (laidAll S ps) T (R ++ ps) ∧ Chg X w w3) := by
    refine hide ⟨0, [], f2.vs, f2.vr, a3, c3, by omega, by simp, by simp, by simpa using hsl3.le, hsl3.max, fun hk => ?_, by simpa using hsl3.lies, by simp, by simp, by simpa [laidAll] using hs, ?_, HC3.out⟩
    · obtain ⟨g, hg, _, hlt⟩ := hg3 (List.length_pos_iff.1 hk)
      have hbg : w2.heap.size ≤ g := hb3' g (by rw [hg]; rfl)
      refine ⟨g, hg, hlt, Or.inr (by omega), ?_, ?_, ?_, ?_⟩
      · have := HF2.out.at_.lt; omega
      · intro e; have := ownsRow_lt HF2.out.seen g e; omega
      · intro e; have := ownsRow_lt HF2.out.safe g e; omega
      · intro e; have := ownsRow_lt HF2.out.row g e; omega
    · simpa [laidAll] using hf3.mono (fun k _ hk => Or.inl hk)
  have HS2 := hide hs2
  clear hsl3 hg3 ho3 hb3 hf3 hs2 hb3' hl3 HC3 HC2 HF2 HP HX HPX hp2
  go_wp2_with fail
  go_loopw [1, 8] (fun t rest wr => ∃ (k : Nat) (ps : List Wr) (vs vr : Value) (ar : Option Addr) (cr : Nat), k ≤ p.length ∧ t = .int .i64 ((at_ + k : Nat) : Int) ∧ rest = .slice ar (p.length - k) cr ∧ p.length - k ≤ cr ∧ cr ≤ maxLen ∧
      (k < p.length → ∃ g, ar = some ⟨g, k, none⟩ ∧ FreeB wr (fun k => X k ∨ w.heap.size ≤ k) F { f2 with vs := vs, vr := vr } g) ∧ Lies wr ar (p.drop k) ∧ ps.map Wr.dat ++ cuts (at_ + k) (p.drop k) = cuts at_ p ∧ ps.length ≤ k ∧ (laidAll S ps).length ≤ 4194304 ∧
      Fil wr (fun k => X k ∨ w.heap.size ≤ k) F { f2 with vs := vs, vr := vr } (laidAll S ps) T (R ++ ps) ∧ Chg X w wr) (fun t _ _ => 4194305 - (intOf t).toNat)
  case atStart => exact HI.out
  case round =>
    obtain ⟨k, ps, vs, vr, ar, cr, hk, rfl, rfl, hcr, hcm, hfr, hlies, hcuts, hpl, hsl, hfil, hchg⟩ := hrel
    clear HI
    by_cases hlt : k < p.length
    · obtain ⟨g, rfl, hfb⟩ := hfr hlt
      obtain ⟨u, hu⟩ : ∃ u, u = at_ + k := ⟨_, rfl⟩
      obtain ⟨m, hm⟩ : ∃ m, m = p.length - k := ⟨_, rfl⟩
      rw [← hu, ← hm]
      rw [← hm] at hcr
      have hm0 : (0 : Int) < (m : Int) := by omega
      have hu4 : u + m ≤ 4194304 := by omega
      have hu5 : u % 512 < 512 := Nat.mod_lt _ (by omega)
      have HFil := hide hfil
      have HChg := hide hchg
      have HCuts := hide hcuts
      have HL := hide hlies
      have HFB := hide hfb
      have HU := hide hu
      have HM := hide hm
      have HK := hide hlt
      have hdl : (p.drop k).length = m := by simp; omega
      clear hfil hchg hcuts hlies hfr hfb hu hm hlt hk
      obtain ⟨n, hn⟩ : ∃ n, n = min (512 - u % 512) m := ⟨_, rfl⟩
      have hn0 : 0 < n := by omega
      have hnm : n ≤ m := by omega
      have HDo : Hid (∀ c, Calls Try.prog 65 #[.pointer (some ⟨F, 0, none⟩), .agg #[.int .i64 (u : Int), .slice (some ⟨g, k, none⟩) n c, .bool false]] wr fun e w' => e = .returned (.tuple #[]) ∧
          ∃ (k' : Nat) (ps : List Wr) (vs vr : Value), k' = k + n ∧ FreeB w' (fun k => X k ∨ w.heap.size ≤ k) F { f2 with vs := vs, vr := vr } g ∧ Lies w' (some ⟨g, k', none⟩) (p.drop k') ∧ ps.map Wr.dat ++ cuts (at_ + k') (p.drop k') = cuts at_ p ∧ ps.length ≤ k' ∧ (laidAll S ps).length ≤ 4194304 ∧
            Fil w' (fun k => X k ∨ w.heap.size ≤ k) F { f2 with vs := vs, vr := vr } (laidAll S ps) T (R ++ ps) ∧ Chg X w w') := by
        refine hide (fun c => ?_)
        have hkl := HK.out
        have hum := HU.out
        have hmm := HM.out
        obtain ⟨hg1, hg2, hg3, hg4, hg5, hg6⟩ := HFB.out
        have htk : ((p.drop k).take n).length = n := by rw [List.length_take, hdl]; omega
        have hfree : Free wr (fun k => X k ∨ w.heap.size ≤ k) F { f2 with vs := vs, vr := vr } ⟨u, some ⟨g, k, none⟩, (p.drop k).take n, c, false⟩ := by
          refine ⟨?_, fun x hx => by cases hx; exact ⟨hg1, hg2, hg3, hg4, hg5, hg6⟩⟩
          have := HL.out.of_part 0 n
          simpa using this
        have hd := do_file wr _ F _ _ T (R ++ ps) ⟨u, some ⟨g, k, none⟩, (p.drop k).take n, c, false⟩ HFil.out hfree (by simp only; omega) (by simp only [htk]; omega) (by omega) (by simp; omega)
        simp only [Wr.cells, htk] at hd
        refine hd.mono ?_
        rintro e w' ⟨rfl, vs', vr', hf', hc'⟩
        have hsz : w.heap.size ≤ wr.heap.size := HChg.out.size
        have hfr' := hf'.ps ⟨u, some ⟨g, k, none⟩, (p.drop k).take n, c, false⟩ (by simp)
        obtain ⟨q1, q2, q3, q4, q5, q6⟩ := hfr'.2 ⟨g, k, none⟩ rfl
        refine ⟨rfl, k + n, ps ++ [⟨u, some ⟨g, k, none⟩, (p.drop k).take n, c, false⟩], vs', vr', rfl, ⟨q1, hg2, q3, q4, q5, q6⟩, ?_, ?_, ?_, ?_, ?_, ?_⟩
        · have h1 : Lies w' (some ⟨g, k, none⟩) (p.drop k) := HL.out.chg hc' (fun x hx e => by
            cases hx
            rcases e with e | e | e
            · exact hg3 e
            · exact hg4 e.symm
            · exact hg6 e.symm)
          have h2 := h1.of_part n (p.drop k).length
          rw [List.drop_drop] at h2
          rw [List.take_of_length_le (by simp; omega)] at h2
          exact h2
        · rw [← HCuts.out, List.map_append, cuts_step (at_ + k) (p.drop k) n (by intro e; rw [e] at hdl; simp at hdl; omega) (by rw [hdl, hn, hum]), List.drop_drop]
          simp [Wr.dat, hum, Nat.add_assoc]
        · simp; omega
        · rw [laidAll_snoc]
          exact laid_le _ _ _ (by omega) (by simp only [htk]; omega)
        · rw [laidAll_snoc, ← List.append_assoc]
          refine hf'.mono (fun i _ hi => ?_)
          rcases hi with hi | hi
          · exact hi
          · exact Or.inr (by omega)
        · exact HChg.out.andThen (hc'.mono (fun i _ hi => HFil.out.dX i hi)) (fun i hi hy => hy.elim id (fun h => by omega))
      have HN2 := hide hn
      by_cases hmin : 512 - u % 512 ≤ m
      · have hA : (512 : Int) - (u : Int) % 512 = (n : Int) := by omega
        have hB : (n : Int) ≤ (m : Int) := by omega
        have hC : (n : Int) ≤ (cr : Int) := by omega
        clear hn hmin hu5
        go_wp2_with fail
        refine (HDo.out cr).mono ?_
        rintro e w4 ⟨rfl, k', ps', vs', vr', hk', hfb', hl', hcu', hpl', hsl', hfil', hchg'⟩
        have HB' := hide hfb'
        have HL' := hide hl'
        have HCu' := hide hcu'
        have HFil' := hide hfil'
        have HChg' := hide hchg'
        have HK' := hide hk'
        clear hfb' hl' hcu' hfil' hchg' hk' HDo
        by_cases hcn : cr = n
        · subst hcn
          go_wp2_with fail
          go_quiet (fail)
          go_wp2_with fail
          go_roundw
          case rel =>
            have h1 := HK'.out
            have h2 := HK.out
            have h3 := HM.out
            have h4 := HU.out
            refine ⟨k', ps', vs', vr', some ⟨g, k, none⟩, 0, by omega, by rw [h1, h4]; go_num, ?_, by omega, by simp, fun h => by omega, ?_, HCu'.out, hpl', hsl', HFil'.out.chg ((Chg.refl (fun _ => False) _).drewN _) (fun _ _ _ h => h), HChg'.out.drewN _⟩
            · rw [show p.length - k' = 0 by omega]
              try simp
            · rw [List.drop_of_length_le (by omega)]
              exact Lies.nil _ _
          case measure => simp [intOf]; omega
        · go_wp2_with fail
          go_quiet (fail)
          go_wp2_with fail
          go_roundw
          case rel =>
            have h1 := HK'.out
            have h2 := HK.out
            have h3 := HM.out
            have h4 := HU.out
            refine ⟨k', ps', vs', vr', some ⟨g, k', none⟩, cr - n, by omega, by rw [h1, h4]; go_num, ?_, by omega, by unfold maxLen at *; omega, fun _ => ⟨g, rfl, HB'.out⟩, HL'.out, HCu'.out, hpl', hsl', HFil'.out.chg ((Chg.refl (fun _ => False) _).drewN _) (fun _ _ _ h => h), HChg'.out.drewN _⟩
            · rw [show p.length - k' = m - n by omega, h1]
              try simp [Addr.add]
          case measure => simp [intOf]; omega
      · obtain rfl : n = m := by omega
        have hA : ¬ ((512 : Int) - (u : Int) % 512 ≤ (n : Int)) := by omega
        have hC : (n : Int) ≤ (cr : Int) := by omega
        clear hn hmin hu5
        go_wp2_with fail
        refine (HDo.out cr).mono ?_
        rintro e w4 ⟨rfl, k', ps', vs', vr', hk', hfb', hl', hcu', hpl', hsl', hfil', hchg'⟩
        have HB' := hide hfb'
        have HL' := hide hl'
        have HCu' := hide hcu'
        have HFil' := hide hfil'
        have HChg' := hide hchg'
        have HK' := hide hk'
        clear hfb' hl' hcu' hfil' hchg' hk' HDo
        by_cases hcn : cr = n
        · subst hcn
          go_wp2_with fail
          go_quiet (fail)
          go_wp2_with fail
          go_roundw
          case rel =>
            have h1 := HK'.out
            have h2 := HK.out
            have h3 := HM.out
            have h4 := HU.out
            refine ⟨k', ps', vs', vr', some ⟨g, k, none⟩, 0, by omega, by rw [h1, h4]; go_num, ?_, by omega, by simp, fun h => by omega, ?_, HCu'.out, hpl', hsl', HFil'.out.chg ((Chg.refl (fun _ => False) _).drewN _) (fun _ _ _ h => h), HChg'.out.drewN _⟩
            · rw [show p.length - k' = 0 by omega]
              try simp
            · rw [List.drop_of_length_le (by omega)]
              exact Lies.nil _ _
          case measure => simp [intOf]; omega
        · go_wp2_with fail
          go_quiet (fail)
          go_wp2_with fail
          go_roundw
          case rel =>
            have h1 := HK'.out
            have h2 := HK.out
            have h3 := HM.out
            have h4 := HU.out
            refine ⟨k', ps', vs', vr', some ⟨g, k', none⟩, cr - n, by omega, by rw [h1, h4]; go_num, ?_, by omega, by unfold maxLen at *; omega, fun _ => ⟨g, rfl, HB'.out⟩, HL'.out, HCu'.out, hpl', hsl', HFil'.out.chg ((Chg.refl (fun _ => False) _).drewN _) (fun _ _ _ h => h), HChg'.out.drewN _⟩
            · rw [show p.length - k' = 0 by omega, h1]
              try simp [Addr.add]
          case measure => simp [intOf]; omega
    · obtain rfl : k = p.length := by omega
      have HFil := hide hfil
      have HChg := hide hchg
      have HCuts := hide hcuts
      clear hfil hchg hcuts hlies hfr
      go_wp2_with fail
      go_ret
      refine ⟨rfl, ps, vs, vr, ?_, ?_, HChg.out⟩
      · have := HCuts.out
        rw [List.drop_length, cuts_nil, List.append_nil] at this
        exact this
      · have := HFil.out
        rw [HFF.out] at this
        exact this

end Go.Proofs.Ytkhknfohcebicaa.Oct
