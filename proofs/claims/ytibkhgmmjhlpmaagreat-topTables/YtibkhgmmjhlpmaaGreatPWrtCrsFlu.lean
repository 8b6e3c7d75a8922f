/- What waits is made safe. -/
import Derived.Test.YtibkhgmmjhlpmaaGreatPFilUse
namespace Go.Proofs.YtibkhgmmjhlpmaaGreat.Oct
open Go.RowKit Go.Deep

/-- What a write says, wherever its bytes lie. -/
def Wr.dat (r : Wr) : Nat × List Int × Bool := (r.at_, r.p, r.cut)

/-- The pieces of bytes at a place, a sector each. -/
def cuts (at_ : Nat) (p : List Int) : List (Nat × List Int × Bool) :=
  if p = [] then [] else (at_, p.take (min (512 - at_ % 512) p.length), false) :: cuts (at_ + min (512 - at_ % 512) p.length) (p.drop (min (512 - at_ % 512) p.length))
termination_by p.length
decreasing_by
  rename_i h
  have := List.length_pos_iff.2 h
  simp
  omega

theorem cuts_nil (at_ : Nat) : cuts at_ [] = [] := by rw [cuts]; simp
theorem cuts_step (at_ : Nat) (p : List Int) (n : Nat) (h : p ≠ []) (hn : n = min (512 - at_ % 512) p.length) : cuts at_ p = (at_, p.take n, false) :: cuts (at_ + n) (p.drop n) := by
  subst hn
  rw [cuts, if_neg h]

/-- Bytes behind writes. -/
def laidAll (l : List Int) (R : List Wr) : List Int := R.foldl (fun m r => laid r m) l

theorem laidAll_snoc (l : List Int) (R : List Wr) (r : Wr) : laidAll l (R ++ [r]) = laid r (laidAll l R) := by simp [laidAll]
theorem laidAll_append (l : List Int) (R Q : List Wr) : laidAll l (R ++ Q) = laidAll (laidAll l R) Q := by simp [laidAll]

theorem over_pad (m : List Int) (o : Nat) (l : List Int) : o + l.length ≤ (m ++ List.replicate (o + l.length - m.length) (0 : Int)).length := by simp; omega

theorem laid_le (r : Wr) (l : List Int) (m : Nat) (hl : l.length ≤ m) (hr : r.at_ + r.p.length ≤ m) : (laid r l).length ≤ m := by
  unfold laid
  split
  · simp; omega
  · rw [over_length (over_pad _ _ _)]
    simp
    omega

/-- A block that a write may lie in. -/
def FreeB (w : World) (X : Nat → Prop) (F : Nat) (f : Fs) (g : Nat) : Prop :=
  g < w.heap.size ∧ X g ∧ g ≠ F ∧ f.vs.ownBlock ≠ some g ∧ f.vt.ownBlock ≠ some g ∧ f.vr.ownBlock ≠ some g

theorem drop_drop_len (p : List Int) (k n : Nat) : (p.drop k).drop n = p.drop (k + n) := by rw [List.drop_drop]

set_option maxHeartbeats 4000000 in
set_option maxRecDepth 100000 in
/-- The pieces are done, one behind the other. -/
theorem write_ok (w : World) (X : Nat → Prop) (F : Nat) (f : Fs) (S T : List Int) (R : List Wr) (h : Fil w X F f S T R) (at_ : Nat) (a : Option Addr) (cap : Nat) (p : List Int) (hp : Lies w a p) (hpx : p ≠ [] → ∀ x, a = some x → ¬ X x.block) (hops : -1000000 ≤ f.ops ∧ f.ops < 1000000) (hwr : -1000000 ≤ f.wrote ∧ f.wrote < 1000000)
    (hat : at_ + p.length ≤ 4194304) (hs : S.length ≤ 4194304) (hr : R.length ≤ 1000000) (h0 : f.said = 0) :
    Calls Tryz.prog 70 #[.pointer (some ⟨F, 0, none⟩), .int .i64 at_, .slice a p.length cap] w fun e w' => e = .returned (.int .i64 0) ∧ ∃ ps vs vr, ps.map Wr.dat = cuts at_ p ∧
      Fil w' (fun k => X k ∨ w.heap.size ≤ k) F { f.asked with wrote := f.wrote + 1, vs := vs, vr := vr } (laidAll S ps) T (R ++ ps) ∧ Chg X w w' := by
  have HF := hide h
  have HP := hide hp
  have HX := hide h.xF
  have HN : Hid (p.length ≤ 140737488355328) := hide (by omega)
  have hn0 : ¬ ((at_ : Int) < 0) := by omega
  have hn1 : ¬ ((4194304 : Int) - (p.length : Int) < (at_ : Int)) := by omega
  clear h hp
  go_enter Tryz.func70, Tryz.ntmps70
  go_wp2_with fail
  refine (ask_file w F f HF.out.at_ (by omega)).mono ?_
  rintro e w1 ⟨rfl, ha1, hc1⟩
  rw [h0]
  have HA1 := hide ha1
  have HC1 := hide hc1
  have h4 := ha1.cell.2.2.2.2.1
  have z4 := ha1.frozen 4
  have e4 : f.asked.wrote = f.wrote := rfl
  rw [e4] at h4
  clear ha1 hc1 e4
  go_wp2_with fail
  obtain ⟨w2, hw2⟩ : ∃ w2, w2 = w1.setCell ⟨F, 4, none⟩ (.int .i64 (f.wrote + 1)) := ⟨_, rfl⟩
  have hc2 : Chg (fun k => k = F) w w2 := by rw [hw2]; exact HC1.out.setCell F 4 _ (fun _ => rfl)
  have ha2 : At w2 F { f.asked with wrote := f.wrote + 1 } := by rw [hw2]; exact HA1.out.setwrote _
  have hf2 : Fil w2 X F { f.asked with wrote := f.wrote + 1 } S T R := HF.out.fields hc2 ha2 rfl rfl rfl
  have hp2 : Lies w2 a p := by
    by_cases hpe : p = []
    · rw [hpe]; exact Lies.nil _ _
    · exact HP.out.chg hc2 (fun x hx e => hpx hpe x hx (by rw [e]; exact HX.out))
  have HC2 : Hid (Chg X w w2) := hide (hc2.mono (fun i _ e => by subst e; exact HX.out))
  rw [← hw2]
  have HF2 := hide hf2
  obtain ⟨f2, hff⟩ : ∃ f2 : Fs, f2 = { f.asked with wrote := f.wrote + 1 } := ⟨_, rfl⟩
  rw [← hff] at HF2
  have HFF := hide hff
  have HPX := hide hpx
  clear hw2 ha2 hf2 HA1 HC1 h4 z4 hff hc2 hpx
  refine (clone_any w2 a cap p hp2 HN.out).mono ?_
  rintro e w3 ⟨v3, rfl, ho3, hb3⟩
  have hf3 : Fil w3 X F f2 S T R := HF2.out.chg (Y := fun _ => False) (Chg.of_below hb3) (fun _ _ _ h => h)
  have HC3 : Hid (Chg X w w3) := hide (HC2.out.trans (Chg.of_below hb3))
  have hs2 : w.heap.size ≤ w2.heap.size := HC2.out.size
  obtain ⟨a3, c3, rfl, hsl3, hg3⟩ := ho3.sl
  have hl3 := ownsRow_lt ho3
  have hb3' := ho3.base
  have HI : Hid (∃ (k : Nat) (ps : List Wr) (vs vr : Value) (ar : Option Addr) (cr : Nat), k ≤ p.length ∧ Value.int .i64 at_ = .int .i64 ((at_ + k : Nat) : Int) ∧ Value.slice a3 p.length c3 = .slice ar (p.length - k) cr ∧ p.length - k ≤ cr ∧ cr ≤ maxLen ∧
      (k < p.length → ∃ g, ar = some ⟨g, k, none⟩ ∧ FreeB w3 (fun k => X k ∨ w.heap.size ≤ k) F { f2 with vs := vs, vr := vr } g) ∧ Lies w3 ar (p.drop k) ∧ ps.map Wr.dat ++ cuts (at_ + k) (p.drop k) = cuts at_ p ∧ ps.length ≤ k ∧ (laidAll S ps).length ≤ 4194304 ∧
      Fil w3 (fun k => X k ∨ w.heap.size ≤ k) F { f2 with vs := vs, vr := vr } (laidAll S ps) T (R ++ ps) ∧ Chg X w w3) := by
    refine hide ⟨0, [], f2.vs, f2.vr, a3, c3, by omega, by simp, by simp, by simpa using hsl3.le, hsl3.max, fun hk => ?_, by simpa using hsl3.lies, by simp, by simp, by simpa [laidAll] using hs, ?_, HC3.out⟩
    · obtain ⟨g, hg, _, hlt⟩ := hg3 (List.length_pos_iff.1 hk)
      have hbg : w2.heap.size ≤ g := hb3' g (by rw [hg]; rfl)
      refine ⟨g, hg, hlt, Or.inr (by omega), ?_, ?_, ?_, ?_⟩
      · have := HF2.out.at_.lt; omega
      · intro e; have := ownsRow_lt HF2.out.seen g e; omega
      · intro e; have := ownsRow_lt HF2.out.safe g e; omega
      · intro e; have := ownsRow_lt HF2.out.row g e; omega
    · simpa [laidAll] using hf3.mono (fun k _ hk => Or.inl hk)
  have HS2 := hide hs2
  clear hsl3 hg3 ho3 hb3 hf3 hs2 hb3' hl3 HC3 HC2 HF2 HP HX HPX hp2
  go_wp2_with fail
  go_loopw [1, 8] (fun t rest wr => ∃ (k : Nat) (ps : List Wr) (vs vr : Value) (ar : Option Addr) (cr : Nat), k ≤ p.length ∧ t = .int .i64 ((at_ + k : Nat) : Int) ∧ rest = .slice ar (p.length - k) cr ∧ p.length - k ≤ cr ∧ cr ≤ maxLen ∧
      (k < p.length → ∃ g, ar = some ⟨g, k, none⟩ ∧ FreeB wr (fun k => X k ∨ w.heap.size ≤ k) F { f2 with vs := vs, vr := vr } g) ∧ Lies wr ar (p.drop k) ∧ ps.map Wr.dat ++ cuts (at_ + k) (p.drop k) = cuts at_ p ∧ ps.length ≤ k ∧ (laidAll S ps).length ≤ 4194304 ∧
      Fil wr (fun k => X k ∨ w.heap.size ≤ k) F { f2 with vs := vs, vr := vr } (laidAll S ps) T (R ++ ps) ∧ Chg X w wr) (fun t _ _ => 4194305 - (intOf t).toNat)
  case atStart => exact HI.out
  case round =>
    obtain ⟨k, ps, vs, vr, ar, cr, hk, rfl, rfl, hcr, hcm, hfr, hlies, hcuts, hpl, hsl, hfil, hchg⟩ := hrel
    clear HI
    by_cases hlt : k < p.length
    · obtain ⟨g, rfl, hfb⟩ := hfr hlt
      obtain ⟨u, hu⟩ : ∃ u, u = at_ + k := ⟨_, rfl⟩
      obtain ⟨m, hm⟩ : ∃ m, m = p.length - k := ⟨_, rfl⟩
      rw [← hu, ← hm]
      rw [← hm] at hcr
      have hm0 : (0 : Int) < (m : Int) := by omega
      have hu4 : u + m ≤ 4194304 := by omega
      have hu5 : u % 512 < 512 := Nat.mod_lt _ (by omega)
      have HFil := hide hfil
      have HChg := hide hchg
      have HCuts := hide hcuts
      have HL := hide hlies
      have HFB := hide hfb
      have HU := hide hu
      have HM := hide hm
      have HK := hide hlt
      have hdl : (p.drop k).length = m := by simp; omega
      clear hfil hchg hcuts hlies hfr hfb hu hm hlt hk
      obtain ⟨n, hn⟩ : ∃ n, n = min (512 - u % 512) m := ⟨_, rfl⟩
      have hn0 : 0 < n := by omega
      have hnm : n ≤ m := by omega
      have HDo : Hid (∀ c, Calls Tryz.prog 92 #[.pointer (some ⟨F, 0, none⟩), .agg #[.int .i64 (u : Int), .slice (some ⟨g, k, none⟩) n c, .bool false]] wr fun e w' => e = .returned (.tuple #[]) ∧
          ∃ (k' : Nat) (ps : List Wr) (vs vr : Value), k' = k + n ∧ FreeB w' (fun k => X k ∨ w.heap.size ≤ k) F { f2 with vs := vs, vr := vr } g ∧ Lies w' (some ⟨g, k', none⟩) (p.drop k') ∧ ps.map Wr.dat ++ cuts (at_ + k') (p.drop k') = cuts at_ p ∧ ps.length ≤ k' ∧ (laidAll S ps).length ≤ 4194304 ∧
            Fil w' (fun k => X k ∨ w.heap.size ≤ k) F { f2 with vs := vs, vr := vr } (laidAll S ps) T (R ++ ps) ∧ Chg X w w') := by
        refine hide (fun c => ?_)
        have hkl := HK.out
        have hum := HU.out
        have hmm := HM.out
        obtain ⟨hg1, hg2, hg3, hg4, hg5, hg6⟩ := HFB.out
        have htk : ((p.drop k).take n).length = n := by rw [List.length_take, hdl]; omega
        have hfree : Free wr (fun k => X k ∨ w.heap.size ≤ k) F { f2 with vs := vs, vr := vr } ⟨u, some ⟨g, k, none⟩, (p.drop k).take n, c, false⟩ := by
          refine ⟨?_, fun x hx => by cases hx; exact ⟨hg1, hg2, hg3, hg4, hg5, hg6⟩⟩
          have := HL.out.of_part 0 n
          simpa using this
        have hd := do_file wr _ F _ _ T (R ++ ps) ⟨u, some ⟨g, k, none⟩, (p.drop k).take n, c, false⟩ HFil.out hfree (by simp only; omega) (by simp only [htk]; omega) (by omega) (by simp; omega)
        simp only [Wr.cells, htk] at hd
        refine hd.mono ?_
        rintro e w' ⟨rfl, vs', vr', hf', hc'⟩
        have hsz : w.heap.size ≤ wr.heap.size := HChg.out.size
        have hfr' := hf'.ps ⟨u, some ⟨g, k, none⟩, (p.drop k).take n, c, false⟩ (by simp)
        obtain ⟨q1, q2, q3, q4, q5, q6⟩ := hfr'.2 ⟨g, k, none⟩ rfl
        refine ⟨rfl, k + n, ps ++ [⟨u, some ⟨g, k, none⟩, (p.drop k).take n, c, false⟩], vs', vr', rfl, ⟨q1, hg2, q3, q4, q5, q6⟩, ?_, ?_, ?_, ?_, ?_, ?_⟩
        · have h1 : Lies w' (some ⟨g, k, none⟩) (p.drop k) := HL.out.chg hc' (fun x hx e => by
            cases hx
            rcases e with e | e | e
            · exact hg3 e
            · exact hg4 e.symm
            · exact hg6 e.symm)
          have h2 := h1.of_part n (p.drop k).length
          rw [List.drop_drop] at h2
          rw [List.take_of_length_le (by simp; omega)] at h2
          exact h2
        · rw [← HCuts.out, List.map_append, cuts_step (at_ + k) (p.drop k) n (by intro e; rw [e] at hdl; simp at hdl; omega) (by rw [hdl, hn, hum]), List.drop_drop]
          simp [Wr.dat, hum, Nat.add_assoc]
        · simp; omega
        · rw [laidAll_snoc]
          exact laid_le _ _ _ (by omega) (by simp only [htk]; omega)
        · rw [laidAll_snoc, ← List.append_assoc]
          refine hf'.mono (fun i _ hi => ?_)
          rcases hi with hi | hi
          · exact hi
          · exact Or.inr (by omega)
        · exact HChg.out.andThen (hc'.mono (fun i _ hi => HFil.out.dX i hi)) (fun i hi hy => hy.elim id (fun h => by omega))
      have HN2 := hide hn
      by_cases hmin : 512 - u % 512 ≤ m
      · have hA : (512 : Int) - (u : Int) % 512 = (n : Int) := by omega
        have hB : (n : Int) ≤ (m : Int) := by omega
        have hC : (n : Int) ≤ (cr : Int) := by omega
        clear hn hmin hu5
        go_wp2_with fail
        refine (HDo.out cr).mono ?_
        rintro e w4 ⟨rfl, k', ps', vs', vr', hk', hfb', hl', hcu', hpl', hsl', hfil', hchg'⟩
        have HB' := hide hfb'
        have HL' := hide hl'
        have HCu' := hide hcu'
        have HFil' := hide hfil'
        have HChg' := hide hchg'
        have HK' := hide hk'
        clear hfb' hl' hcu' hfil' hchg' hk' HDo
        by_cases hcn : cr = n
        · subst hcn
          go_wp2_with fail
          go_quiet (fail)
          go_wp2_with fail
          go_roundw
          case rel =>
            have h1 := HK'.out
            have h2 := HK.out
            have h3 := HM.out
            have h4 := HU.out
            refine ⟨k', ps', vs', vr', some ⟨g, k, none⟩, 0, by omega, by rw [h1, h4]; go_num, ?_, by omega, by simp, fun h => by omega, ?_, HCu'.out, hpl', hsl', HFil'.out.chg ((Chg.refl (fun _ => False) _).drewN _) (fun _ _ _ h => h), HChg'.out.drewN _⟩
            · rw [show p.length - k' = 0 by omega]
              try simp
            · rw [List.drop_of_length_le (by omega)]
              exact Lies.nil _ _
          case measure => simp [intOf]; omega
        · go_wp2_with fail
          go_quiet (fail)
          go_wp2_with fail
          go_roundw
          case rel =>
            have h1 := HK'.out
            have h2 := HK.out
            have h3 := HM.out
            have h4 := HU.out
            refine ⟨k', ps', vs', vr', some ⟨g, k', none⟩, cr - n, by omega, by rw [h1, h4]; go_num, ?_, by omega, by unfold maxLen at *; omega, fun _ => ⟨g, rfl, HB'.out⟩, HL'.out, HCu'.out, hpl', hsl', HFil'.out.chg ((Chg.refl (fun _ => False) _).drewN _) (fun _ _ _ h => h), HChg'.out.drewN _⟩
            · rw [show p.length - k' = m - n by omega, h1]
              try simp [Addr.add]
          case measure => simp [intOf]; omega
      · obtain rfl : n = m := by omega
        have hA : ¬ ((512 : Int) - (u : Int) % 512 ≤ (n : Int)) := by omega
        have hC : (n : Int) ≤ (cr : Int) := by omega
        clear hn hmin hu5
        go_wp2_with fail
        refine (HDo.out cr).mono ?_
        rintro e w4 ⟨rfl, k', ps', vs', vr', hk', hfb', hl', hcu', hpl', hsl', hfil', hchg'⟩
        have HB' := hide hfb'
        have HL' := hide hl'
        have HCu' := hide hcu'
        have HFil' := hide hfil'
        have HChg' := hide hchg'
        have HK' := hide hk'
        clear hfb' hl' hcu' hfil' hchg' hk' HDo
        by_cases hcn : cr = n
        · subst hcn
          go_wp2_with fail
          go_quiet (fail)
          go_wp2_with fail
          go_roundw
          case rel =>
            have h1 := HK'.out
            have h2 := HK.out
            have h3 := HM.out
            have h4 := HU.out
            refine ⟨k', ps', vs', vr', some ⟨g, k, none⟩, 0, by omega, by rw [h1, h4]; go_num, ?_, by omega, by simp, fun h => by omega, ?_, HCu'.out, hpl', hsl', HFil'.out.chg ((Chg.refl (fun _ => False) _).drewN _) (fun _ _ _ h => h), HChg'.out.drewN _⟩
            · rw [show p.length - k' = 0 by omega]
              try simp
            · rw [List.drop_of_length_le (by omega)]
              exact Lies.nil _ _
          case measure => simp [intOf]; omega
        · go_wp2_with fail
          go_quiet (fail)
          go_wp2_with fail
          go_roundw
          case rel =>
            have h1 := HK'.out
            have h2 := HK.out
            have h3 := HM.out
            have h4 := HU.out
            refine ⟨k', ps', vs', vr', some ⟨g, k', none⟩, cr - n, by omega, by rw [h1, h4]; go_num, ?_, by omega, by unfold maxLen at *; omega, fun _ => ⟨g, rfl, HB'.out⟩, HL'.out, HCu'.out, hpl', hsl', HFil'.out.chg ((Chg.refl (fun _ => False) _).drewN _) (fun _ _ _ h => h), HChg'.out.drewN _⟩
            · rw [show p.length - k' = 0 by omega, h1]
              try simp [Addr.add]
          case measure => simp [intOf]; omega
    · obtain rfl : k = p.length := by omega
      have HFil := hide hfil
      have HChg := hide hchg
      have HCuts := hide hcuts
      clear hfil hchg hcuts hlies hfr
      go_wp2_with fail
      go_ret
      refine ⟨rfl, ps, vs, vr, ?_, ?_, HChg.out⟩
      · have := HCuts.out
        rw [List.drop_length, cuts_nil, List.append_nil] at this
        exact this
      · have := HFil.out
        rw [HFF.out] at this
        exact this

end Go.Proofs.YtibkhgmmjhlpmaaGreat.Oct

namespace Go.Proofs.YtibkhgmmjhlpmaaGreat.Oct
open Go.RowKit Go.Deep

/-- Bools lie from the address on. -/
def LiesB (w : World) (a : Option Addr) (l : List Bool) : Prop :=
  l = [] ∨ ∃ b off, a = some ⟨b, off, none⟩ ∧ b < w.heap.size ∧ ∀ k, k < l.length → w.cell? ⟨b, off + k, none⟩ = some (.bool (l.getD k false))

theorem LiesB.below {w w' : World} {a : Option Addr} {l : List Bool} (h : LiesB w a l) (hb : Below w.heap.size w w') : LiesB w' a l := by
  rcases h with rfl | ⟨b, off, rfl, hlt, hc⟩
  · exact Or.inl rfl
  · exact Or.inr ⟨b, off, rfl, Nat.lt_of_lt_of_le hlt hb.size, fun k hk => (hb.cell (p := ⟨b, off + k, none⟩) hlt).trans (hc k hk)⟩

def Wr.none : Wr := ⟨0, .none, [], 0, false⟩

/-- The first so many writes, those that are kept. -/
def left (T : List Int) (R : List Wr) (kp : List Bool) : Nat → List Int
  | 0 => T
  | k + 1 => if kp.getD k false = true then laid (R.getD k Wr.none) (left T R kp k) else left T R kp k

/-- No write ends beyond the most. -/
def Small (R : List Wr) : Prop := ∀ r ∈ R, r.at_ + r.p.length ≤ 4194304

theorem left_le (T : List Int) (R : List Wr) (kp : List Bool) (hT : T.length ≤ 4194304) (hR : Small R) : ∀ k, k ≤ R.length → (left T R kp k).length ≤ 4194304
  | 0, _ => hT
  | k + 1, hk => by
    have ih := left_le T R kp hT hR k (by omega)
    unfold left
    split
    · refine laid_le _ _ _ ih ?_
      have : R.getD k Wr.none = R[k] := by simp [show k < R.length by omega]
      rw [this]
      exact hR _ (List.getElem_mem _)
    · exact ih

theorem flat_cell (R : List Wr) (k j : Nat) (hk : k < R.length) (hj : j < 3) : (R.flatMap Wr.cells)[k * 3 + j]? = (R.getD k Wr.none).cells[j]? := by
  induction R generalizing k with
  | nil => simp at hk
  | cons r R ih =>
    cases k with
    | zero =>
      simp only [List.flatMap_cons, Nat.zero_mul, Nat.zero_add]
      rw [List.getElem?_append_left (by simp [Wr.cells]; omega)]
      simp
    | succ k =>
      simp only [List.flatMap_cons]
      rw [List.getElem?_append_right (by simp [Wr.cells]; omega)]
      have := ih k (by simpa using hk)
      simp only [List.getD_cons_succ]
      rw [← this]
      congr 1
      simp [Wr.cells]
      omega

theorem row_cells {w : World} {g cap : Nat} {R : List Wr} (h : w.ownsRow 0 98 3 (.slice (some ⟨g, 0, none⟩) R.length cap) R.length (R.flatMap Wr.cells)) (k : Nat) (hk : k < R.length) :
    w.cell? ⟨g, k * 3, none⟩ = some (.int .i64 (R.getD k Wr.none).at_) ∧ w.cell? ⟨g, k * 3 + 1, none⟩ = some (.slice (R.getD k Wr.none).a (R.getD k Wr.none).p.length (R.getD k Wr.none).cap) ∧ w.cell? ⟨g, k * 3 + 2, none⟩ = some (.bool (R.getD k Wr.none).cut) := by
  have hc := World.ownsRow.cells (g := g) h rfl
  have e : ∀ j, j < 3 → w.cell? ⟨g, k * 3 + j, none⟩ = (R.getD k Wr.none).cells[j]? := by
    intro j hj
    have hf := flat_cell R k j hk hj
    have h3 : j < (R.getD k Wr.none).cells.length := by simp [Wr.cells]; omega
    rw [List.getElem?_eq_getElem h3] at hf ⊢
    have := hc _ _ hf
    rw [Go.WideShapes.add_plain, Nat.zero_add] at this
    exact this
  exact ⟨e 0 (by omega), e 1 (by omega), e 2 (by omega)⟩

set_option maxHeartbeats 4000000 in
set_option maxRecDepth 100000 in
theorem crash_file (w : World) (X : Nat → Prop) (F : Nat) (f : Fs) (S T : List Int) (R : List Wr) (h : Fil w X F f S T R) (ak : Option Addr) (ck : Nat) (kp : List Bool) (hk : LiesB w ak kp) (hT : T.length ≤ 4194304) (hR : Small R) (hrl : R.length ≤ 10000000) :
    Calls Tryz.prog 15 #[.pointer (some ⟨F, 0, none⟩), .slice ak kp.length ck] w fun e w' => ∃ v, e = .returned v ∧ Own w' w.heap.size v (left T R kp R.length) ∧ Below w.heap.size w w' := by
  have h1 := h.at_.cell.2.1
  have h2 := h.at_.cell.2.2.1
  obtain ⟨a1, c1, e1, hs1, _⟩ := h.safe.sl
  obtain ⟨a2, c2, e2, hrc, hrm, hrg⟩ := row_form h.row
  rw [e1] at h1
  rw [e2] at h2
  have HRow := hide h.row
  rw [e2] at HRow
  have HRG : Hid (0 < R.length → ∃ g, a2 = some ⟨g, 0, none⟩ ∧ g < w.heap.size) := hide (fun hp => by
    obtain ⟨g, e3, e4⟩ := hrg hp
    exact ⟨g, e3, ownsRow_lt h.row g e4⟩)
  have HF := hide h
  have HL := hide hs1.lies
  have HK := hide hk
  have HLe := hide (left_le T R kp hT hR)
  have HN : Hid (T.length ≤ 140737488355328) := hide (by omega)
  have HR := hide hR
  clear h hk hs1 e1 e2 hrg hT hR
  go_enter Tryz.func15, Tryz.ntmps15
  go_wp2_with fail
  refine (clone_any w a1 c1 T HL.out HN.out).mono ?_
  rintro e w1 ⟨v1, rfl, ho1, hb1⟩
  have HO1 := hide ho1
  have HB1 := hide hb1
  have d2 : w1.cell? ⟨F, 2, none⟩ = some (.slice a2 R.length c2) := (hb1.cell (p := ⟨F, 2, none⟩) HF.out.at_.lt).trans h2
  clear ho1 hb1
  go_wp2_with fail
  go_loopw [5, 20] (fun v i wr => ∃ k : Nat, k ≤ R.length ∧ i = .int .i64 k ∧ Own wr w.heap.size v (left T R kp k) ∧ Below w.heap.size w wr) (fun _ i _ => R.length - (intOf i).toNat)
  case atStart => exact ⟨0, by omega, by simp, HO1.out, HB1.out⟩
  case round =>
    obtain ⟨k, hk, rfl, ho, hbel⟩ := hrel
    have HO := hide ho
    have HBel := hide hbel
    clear ho hbel
    by_cases hlt : k < R.length
    · obtain ⟨g, hag, hgl⟩ := HRG.out (by omega)
      subst hag
      obtain ⟨q0, q1, q2⟩ := row_cells HRow.out k hlt
      have r0 := (HBel.out.cell (p := ⟨g, k * 3, none⟩) hgl).trans q0
      have r1 := (HBel.out.cell (p := ⟨g, k * 3 + 1, none⟩) hgl).trans q1
      have r2 := (HBel.out.cell (p := ⟨g, k * 3 + 2, none⟩) hgl).trans q2
      have hk0 : (0 : Int) ≤ (k : Int) := by omega
      have hk1 : (k : Int) < (R.length : Int) := by omega
      have HRm : Hid (R.getD k Wr.none ∈ R) := hide (by have : R.getD k Wr.none = R[k] := by simp [hlt]
                                                        rw [this]; exact List.getElem_mem _)
      have HLS : Hid (left T R kp (k + 1) = if kp.getD k false = true then laid (R.getD k Wr.none) (left T R kp k) else left T R kp k) := hide rfl
      clear q0 q1 q2
      obtain ⟨r, hr⟩ : ∃ r, r = R.getD k Wr.none := ⟨_, rfl⟩
      rw [← hr] at r0 r1 r2 HRm HLS
      have HW5 : Hid (Below wr.heap.size wr (wr.alloc (.cells #[.int .i64 r.at_, .slice r.a r.p.length r.cap, .bool r.cut] 98))) := hide ((Below.refl _ _).alloc (Nat.le_refl _) _)
      clear hr
      by_cases hkk : k < kp.length
      · rcases HK.out with hnil | ⟨bk, ok, hak, hbk, hkc⟩
        · rw [hnil] at hkk; simp at hkk
        subst hak
        have hkc0 := hkc k hkk
        have ckk := (HBel.out.cell (p := ⟨bk, ok + k, none⟩) hbk).trans hkc0
        have hbk2 : bk < wr.heap.size := Nat.lt_of_lt_of_le hbk HBel.out.size
        have hkk1 : (k : Int) < (kp.length : Int) := by omega
        clear hkc hkc0
        cases hb : kp.getD k false with
        | false =>
          rw [hb] at ckk HLS
          have HLF : Hid (left T R kp (k + 1) = left T R kp k) := hide (HLS.out.trans (if_neg (by simp)))
          clear hb HLS
          go_wp2_with fail
          go_roundw
          case rel => exact ⟨k + 1, by omega, by go_num, by rw [HLF.out]; exact HO.out.alloc _, HBel.out.alloc HBel.out.size _⟩
          case measure => simp [intOf]; omega
        | true =>
          rw [hb] at ckk HLS
          have HLF : Hid (left T R kp (k + 1) = laid r (left T R kp k)) := hide (HLS.out.trans (if_pos rfl))
          clear hb HLS
          have hfree := HF.out.ps r HRm.out
          have hsm := HR.out r HRm.out
          have hle := HLe.out k hk
          have hsz := HBel.out.size
          have hC : Calls Tryz.prog 46 #[.agg #[.int .i64 r.at_, .slice r.a r.p.length r.cap, .bool r.cut], u5] (wr.alloc (.cells #[.int .i64 r.at_, .slice r.a r.p.length r.cap, .bool r.cut] 98)) fun e w' => ∃ v', e = .returned v' ∧ Own w' w.heap.size v' (laid r (left T R kp k)) ∧ Below w.heap.size w w' := by
            have hc := onto_own (wr.alloc (.cells #[.int .i64 r.at_, .slice r.a r.p.length r.cap, .bool r.cut] 98)) w.heap.size u5 (left T R kp k) r (HO.out.alloc _) (by simp; omega) ((hfree.1.below HBel.out).alloc _)
              (fun x hx e => by have h1 := (hfree.2 x hx).1; have h2 := HO.out.base _ e; omega) (by omega) (by omega) (by omega)
            refine hc.mono ?_
            rintro e w' ⟨v', rfl, ho', hg', _⟩
            exact ⟨v', rfl, ho', Own.behind (HO.out.alloc _) (HBel.out.alloc HBel.out.size _) hg' (by simp; omega)⟩
          have HC := hide hC
          clear hfree hsm hle hC
          go_wp2_with fail
          refine HC.out.mono ?_
          rintro e w6 ⟨v6, rfl, ho6, hb6⟩
          have HO6 := hide ho6
          have HB6 := hide hb6
          clear ho6 hb6
          go_wp2_with fail
          go_roundw
          case rel => exact ⟨k + 1, by omega, by go_num, by rw [HLF.out]; exact HO6.out, HB6.out⟩
          case measure => simp [intOf]; omega
      · have hb : kp.getD k false = false := by rw [List.getD_eq_getElem?_getD, List.getElem?_eq_none (by omega)]; rfl
        rw [hb] at HLS
        have HLF : Hid (left T R kp (k + 1) = left T R kp k) := hide (HLS.out.trans (if_neg (by simp)))
        have hkk1 : ¬ ((k : Int) < (kp.length : Int)) := by omega
        clear hb HLS
        go_wp2_with fail
        go_roundw
        case rel => exact ⟨k + 1, by omega, by go_num, by rw [HLF.out]; exact HO.out.alloc _, HBel.out.alloc HBel.out.size _⟩
        case measure => simp [intOf]; omega
    · obtain rfl : k = R.length := by omega
      go_wp2_with fail
      go_ret
      exact ⟨_, rfl, HO.out, HBel.out⟩

end Go.Proofs.YtibkhgmmjhlpmaaGreat.Oct

namespace Go.Proofs.YtibkhgmmjhlpmaaGreat.Oct
open Go.RowKit Go.Deep

/-- New bytes are safe. -/
theorem Fil.step_safe {w w2 : World} {X : Nat → Prop} {F : Nat} {f : Fs} {S T T' : List Int} {R : List Wr} (h : Fil w X F f S T R) (v2 : Value) (ho : Own w2 0 v2 T') (hg : w.grownBy w2 f.vt.ownBlock) (hw : Went w f.vt v2) :
    Fil (w2.setCell ⟨F, 1, none⟩ v2) (fun k => X k ∨ w.heap.size ≤ k) F { f with vt := v2 } S T' R ∧ Chg (fun k => k = F ∨ some k = f.vt.ownBlock) w (w2.setCell ⟨F, 1, none⟩ v2) := by
  have hc := Chg.of_grown hg
  have hF : ¬ (some F = f.vt.ownBlock) := fun e => (h.xt F e.symm).2.1 rfl
  have hA := h.at_.chg hc hF
  have hX : Chg (fun k => k = F ∨ some k = f.vt.ownBlock) w (w2.setCell ⟨F, 1, none⟩ v2) := ((hc.mono (fun i _ e => Or.inr e)) : Chg (fun k => k = F ∨ some k = f.vt.ownBlock) w w2).setCell F 1 v2 (fun _ => Or.inl rfl)
  have hs : Chg (fun k => k = F) w2 (w2.setCell ⟨F, 1, none⟩ v2) := (Chg.refl _ _).setCell F 1 v2 (fun _ => rfl)
  have hnew : ∀ g, v2.ownBlock = some g → (X g ∨ w.heap.size ≤ g) ∧ g ≠ F ∧ (g < w.heap.size → f.vt.ownBlock = some g) := by
    intro g hgg
    rcases hw with e | ⟨g', e, hle⟩
    · rw [e] at hgg
      exact ⟨Or.inl (h.xt g hgg).1, (h.xt g hgg).2.1, fun _ => hgg⟩
    · rw [e] at hgg
      cases hgg
      exact ⟨Or.inr hle, fun e => by have := h.at_.lt; omega, fun hlt => absurd hlt (by omega)⟩
  have hold : ∀ g, g < w.heap.size → f.vt.ownBlock ≠ some g → v2.ownBlock ≠ some g := fun g hlt hne e => hne ((hnew g e).2.2 hlt)
  have hfree : ∀ r, Free w X F f r → Free (w2.setCell ⟨F, 1, none⟩ v2) (fun k => X k ∨ w.heap.size ≤ k) F { f with vt := v2 } r := by
    intro r hr
    refine ⟨(hr.1.chg hc (fun x hx e => (hr.2 x hx).2.2.2.2.1 e.symm)).chg hs (fun x hx => (hr.2 x hx).2.2.1), fun x hx => ?_⟩
    obtain ⟨h1, h2, h3, h4, h5, h6⟩ := hr.2 x hx
    exact ⟨Nat.lt_of_lt_of_le h1 hX.size, Or.inl h2, h3, h4, hold _ h1 h5, h6⟩
  refine ⟨⟨hA.setvt v2, Or.inl h.xF, (h.seen.chg hc (fun g hgg e => (h.xt g e.symm).2.2 hgg)).chg hs (fun g hgg => (h.xs g hgg).2), ho.chg hs (fun g hgg => (hnew g hgg).2.1),
    ownsRow_chg (ownsRow_chg h.row hc (fun g hgg e => (h.xr g hgg).2.2.2 e.symm)) hs (fun g hgg => (h.xr g hgg).2.1), fun g hgg => ⟨Or.inl (h.xs g hgg).1, (h.xs g hgg).2⟩, fun g hgg => ⟨(hnew g hgg).1, (hnew g hgg).2.1, fun e => ?_⟩,
    fun g hgg => ⟨Or.inl (h.xr g hgg).1, (h.xr g hgg).2.1, (h.xr g hgg).2.2.1, hold g (ownsRow_lt h.row g hgg) (h.xr g hgg).2.2.2⟩, fun r hr => hfree r (h.ps r hr)⟩, hX⟩
  exact (h.xt g ((hnew g hgg).2.2 (ownsRow_lt h.seen g e))).2.2 e

/-- Nothing waits any longer. -/
theorem Fil.clear_row {w : World} {X : Nat → Prop} {F : Nat} {f : Fs} {S T : List Int} {R : List Wr} (h : Fil w X F f S T R) :
    Fil (w.setCell ⟨F, 2, none⟩ (.slice none 0 0)) X F { f with vr := .slice none 0 0 } S T [] ∧ Chg (fun k => k = F) w (w.setCell ⟨F, 2, none⟩ (.slice none 0 0)) := by
  have hs : Chg (fun k => k = F) w (w.setCell ⟨F, 2, none⟩ (.slice none 0 0)) := (Chg.refl _ _).setCell F 2 _ (fun _ => rfl)
  exact ⟨⟨h.at_.setvr _, h.xF, h.seen.chg hs (fun g hgg => (h.xs g hgg).2), h.safe.chg hs (fun g hgg => (h.xt g hgg).2.1), World.ownsRow_nil _ _ _ _, h.xs, h.xt, fun g hgg => by simp [Value.ownBlock] at hgg, fun r hr => by simp at hr⟩, hs⟩

theorem laidAll_take (T : List Int) (R : List Wr) (k : Nat) (hk : k < R.length) : laidAll T (R.take (k + 1)) = laid (R.getD k Wr.none) (laidAll T (R.take k)) := by
  have : R.getD k Wr.none = R[k] := by simp [hk]
  rw [List.take_succ_eq_append_getElem hk, laidAll_snoc, this]

theorem laidAll_le (R : List Wr) (hR : Small R) : ∀ (T : List Int), T.length ≤ 4194304 → (laidAll T R).length ≤ 4194304 := by
  induction R with
  | nil => intro T hT; exact hT
  | cons r R ih =>
    intro T hT
    have : laidAll T (r :: R) = laidAll (laid r T) R := by simp [laidAll]
    rw [this]
    exact ih (fun x hx => hR x (by simp [hx])) _ (laid_le _ _ _ hT (hR r (by simp)))

set_option maxHeartbeats 4000000 in
set_option maxRecDepth 100000 in
theorem flush_file (w : World) (X : Nat → Prop) (F : Nat) (f : Fs) (S T : List Int) (R : List Wr) (h : Fil w X F f S T R) (hops : -1000000 ≤ f.ops ∧ f.ops < 1000000) (h0 : f.said = 0) (hT : T.length ≤ 4194304) (hR : Small R) (hrl : R.length ≤ 10000000) :
    Calls Tryz.prog 57 #[.pointer (some ⟨F, 0, none⟩)] w fun e w' => e = .returned (.int .i64 0) ∧ ∃ vt, Fil w' (fun k => X k ∨ w.heap.size ≤ k) F { f.asked with vt := vt, vr := .slice none 0 0 } S (laidAll T R) [] ∧ Chg X w w' := by
  have HF := hide h
  have HLe : Hid (∀ k, (laidAll T (R.take k)).length ≤ 4194304) := hide (fun k => laidAll_le _ (fun r hr => hR r (List.mem_of_mem_take hr)) T hT)
  have HR := hide hR
  clear h hT hR
  go_enter Tryz.func57, Tryz.ntmps57
  go_wp2_with fail
  refine (ask_file w F f HF.out.at_ (by omega)).mono ?_
  rintro e w1 ⟨rfl, ha1, hc1⟩
  rw [h0]
  have hf1 := HF.out.fields hc1 ha1 rfl rfl rfl
  have HC1 : Hid (Chg X w w1) := hide (hc1.mono (fun i _ e => by subst e; exact HF.out.xF))
  obtain ⟨f1, hf1e⟩ : ∃ f1, f1 = f.asked := ⟨_, rfl⟩
  rw [← hf1e] at hf1
  have HFE := hide hf1e
  have h2 := hf1.at_.cell.2.2.1
  obtain ⟨a2, c2, e2, hrc, hrm, hrg⟩ := row_form hf1.row
  have HE2 := hide e2
  rw [e2] at h2
  have HRG : Hid (0 < R.length → ∃ g, a2 = some ⟨g, 0, none⟩) := hide (fun hp => by
    obtain ⟨g, e3, e4⟩ := hrg hp
    exact ⟨g, e3⟩)
  have HI : Hid (∃ (k : Nat) (vt : Value), k ≤ R.length ∧ Value.int .i64 0 = .int .i64 k ∧ Fil w1 (fun k => X k ∨ w.heap.size ≤ k) F { f1 with vt := vt } S (laidAll T (R.take k)) R ∧ Chg X w w1) :=
    hide ⟨0, f1.vt, by omega, by simp, hf1.mono (fun _ _ h => Or.inl h), HC1.out⟩
  clear hf1 hc1 ha1 hf1e hrg hrc hrm e2
  go_wp2_with fail
  go_loopw [16] (fun i wr => ∃ (k : Nat) (vt : Value), k ≤ R.length ∧ i = .int .i64 k ∧ Fil wr (fun k => X k ∨ w.heap.size ≤ k) F { f1 with vt := vt } S (laidAll T (R.take k)) R ∧ Chg X w wr) (fun i _ => R.length - (intOf i).toNat)
  case atStart => exact HI.out
  case round =>
    obtain ⟨k, vt, hk, rfl, hfil, hchg⟩ := hrel
    clear HI
    have HFil := hide hfil
    have HChg := hide hchg
    clear hchg
    by_cases hlt : k < R.length
    · obtain ⟨g, hag⟩ := HRG.out (by omega)
      subst hag
      have hrow := hfil.row
      dsimp only at hrow
      rw [HE2.out] at hrow
      obtain ⟨r0, r1, r2⟩ := row_cells hrow k hlt
      have hk0 : (0 : Int) ≤ (k : Int) := by omega
      have hk1 : (k : Int) < (R.length : Int) := by omega
      have HRm : Hid (R.getD k Wr.none ∈ R) := hide (by have : R.getD k Wr.none = R[k] := by simp [hlt]
                                                        rw [this]; exact List.getElem_mem _)
      have HLT := hide (laidAll_take T R k hlt)
      obtain ⟨r, hr⟩ : ∃ r, r = R.getD k Wr.none := ⟨_, rfl⟩
      rw [← hr] at r0 r1 r2 HRm HLT
      clear hr hrow hfil
      obtain ⟨w2, hw2⟩ : ∃ w2, w2 = wr.alloc (.cells #[.int .i64 r.at_, .slice r.a r.p.length r.cap, .bool r.cut] 98) := ⟨_, rfl⟩
      obtain ⟨b0, b1, b2⟩ := box3 wr 98 (.int .i64 r.at_) (.slice r.a r.p.length r.cap) (.bool r.cut)
      rw [← hw2] at b0 b1 b2
      have hc2 : Chg (fun _ => False) wr w2 := by rw [hw2]; exact (Chg.refl _ _).alloc _
      have hfl2 : Fil w2 (fun k => X k ∨ w.heap.size ≤ k) F { f1 with vt := vt } S (laidAll T (R.take k)) R := HFil.out.chg hc2 (fun _ _ _ h => h)
      have HW2 := hide hw2
      have HF2 := hide hfl2
      have HC2 := hide hc2
      have c0 : w2.drew.cell? ⟨wr.heap.size, 0, none⟩ = some (.int .i64 r.at_) := b0
      have c1 : w2.drew.cell? ⟨wr.heap.size, 1, none⟩ = some (.slice r.a r.p.length r.cap) := b1
      have c2 : w2.drew.cell? ⟨wr.heap.size, 2, none⟩ = some (.bool r.cut) := b2
      have cg : w2.drew.cell? ⟨F, 1, none⟩ = some vt := hfl2.at_.cell.2.1
      have z1 := hfl2.at_.frozen 1
      have HKF := hide hfl2.at_.lt
      have HNS : Hid (some F ≠ vt.ownBlock) := hide (fun e => (hfl2.xt _ e.symm).2.1 rfl)
      have hfr := hfl2.ps r HRm.out
      have HFr : Hid (Lies w2 r.a r.p ∧ ∀ x, r.a = some x → vt.ownBlock ≠ some x.block) := hide ⟨hfr.1, fun x hx => (hfr.2 x hx).2.2.2.2.1⟩
      have hsm := HR.out r HRm.out
      have hle := HLe.out k
      clear hw2 hfl2 hc2 hfr
      go_wp2_with fail
      rw [← HW2.out]
      go_region_with (go_at_call 46; refine (onto_own w2.drew 0 vt _ r HF2.out.safe.drew (Nat.zero_le _) HFr.out.1.drew HFr.out.2 (by omega) (by omega) (by omega)).mono ?_; rintro e w3 ⟨v3, rfl, ho3, hg3, hw3⟩; obtain ⟨x3, cap3, rfl, _, _⟩ := ho3.sl; have HO3 := hide ho3; have HG3 := hide hg3; have HW3 := hide hw3; have cF := hg3.cell (a := ⟨F, 1, none⟩) cg HNS.out; have zF : w3.frozen? ⟨F, 1, none⟩ = false := (World.frozen?_of_block (a := ⟨F, 1, none⟩) (HG3.out.block F HKF.out HNS.out)).trans z1; clear ho3 hg3 hw3)
      all_goals
        obtain ⟨hf4, hc4⟩ := HF2.out.step_safe (w2 := w3) (.slice x3 (laid r (laidAll T (R.take k))).length cap3) HO3.out ⟨HG3.out.os, HG3.out.tape, HG3.out.output, HG3.out.size, HG3.out.block⟩ HW3.out
        generalize w3.setCell ⟨F, 1, none⟩ (.slice x3 (laid r (laidAll T (R.take k))).length cap3) = w4 at *
        have HF4 := hide hf4
        have HC4 := hide hc4
        have hsz : w.heap.size ≤ w2.heap.size := Nat.le_trans HChg.out.size HC2.out.size
        clear hf4 hc4 cF zF c0 c1 c2 cg z1 b0 b1 b2 r0 r1 r2
        go_wp2_with fail
        refine ⟨⟨k + 1, .slice x3 (laid r (laidAll T (R.take k))).length cap3, by omega, by go_num, ?_, ?_⟩, ?_⟩
        · rw [HLT.out]
          exact HF4.out.mono (fun q _ h => h.elim id (fun h => Or.inr (by omega)))
        · refine (HChg.out.trans (HC2.out.mono (fun _ _ h => h.elim))).andThen HC4.out (fun i hi h => ?_)
          rcases h with h | h
          · subst h
            rcases HF2.out.xF with h | h
            · exact h
            · omega
          · rcases (HF2.out.xt i h.symm).1 with h | h
            · exact h
            · omega
        · simp [intOf]; omega
    · obtain rfl : k = R.length := by omega
      have d2 := hfil.at_.cell.2.2.1
      have y2 := hfil.at_.frozen 2
      dsimp only at d2
      clear hfil
      go_wp2_with fail
      obtain ⟨hf5, hc5⟩ := HFil.out.clear_row
      go_ret
      rw [List.take_length, HFE.out] at hf5
      exact ⟨rfl, vt, hf5, HChg.out.andThen hc5 (fun i hi h => by
        subst h
        rcases HFil.out.xF with h | h
        · exact h
        · omega)⟩

end Go.Proofs.YtibkhgmmjhlpmaaGreat.Oct
