/- What a disk's entries say: Parse. -/
import Derived.Test.YtjpdfchdgphdoaaGreatDoorPMbo
namespace Go.Proofs.YtjpdfchdgphdoaaGreatDoor.Oct
open Go.RowKit

open Classical in
/-- What a disk says, or why it says nothing. -/
noncomputable def parsM (d : List Int) : Except Int MS :=
  match firstM d with
  | .error c => .error c
  | .ok st => match chM d st with
    | .error c => .error c
    | .ok st2 => if (outerM st2).Pairwise Off ∧ (allM st2).Pairwise Off then .ok st2 else .error 14

def Low (st : MS) : Prop := 0 ≤ st.i1 ∧ st.i1 ≤ 4398046511104

theorem takeM_low {n : Nat} {st st' : MS} {slot : Int} {x : M3} (h : takeM n st slot x = .ok st') (hx : Fit3 x) (hl : Low st) : Low st' := by
  obtain ⟨_, h2, _⟩ := hx
  unfold Low at *
  unfold takeM leadM addM at h
  repeat' split at h
  all_goals first
    | (cases h; done)
    | (cases h; exact hl)
    | (cases h; simp only; omega)

theorem takesM_ok {n : Nat} : ∀ (L : List M3) (st st' : MS) (k : Int), takesM n st k L = .ok st' → (∀ x ∈ L, Fit3 x) → Low st → Low st' ∧ st'.P.length ≤ st.P.length + L.length ∧ st'.H = st.H
  | [], st, st', k, h, _, hl => by cases h; exact ⟨hl, by simp, rfl⟩
  | x :: L, st, st', k, h, hx, hl => by
    unfold takesM at h
    cases ht : takeM n st k x with
    | error c => rw [ht] at h; cases h
    | ok st1 =>
      rw [ht] at h
      obtain ⟨h1, h2⟩ := takeM_len ht
      obtain ⟨h3, h4, h5⟩ := takesM_ok L st1 st' (k + 1) h (fun y hy => hx y (List.mem_cons_of_mem _ hy)) (takeM_low ht (hx x (List.mem_cons_self ..)) hl)
      exact ⟨h3, by simp only [List.length_cons]; omega, by rw [h5, h2]⟩

theorem firstM_ok {d : List Int} (hby : Byts d) {st : MS} (h : firstM d = .ok st) : Low st ∧ st.P.length ≤ 4 ∧ st.H.length = 1 := by
  unfold firstM at h
  cases hr : rdM d MS.z 0 with
  | error c => rw [hr] at h; cases h
  | ok st1 =>
    rw [hr] at h
    obtain ⟨_, hst1⟩ := rdM_ok hr
    have hb : Byts (secD d 0) := (hby.drop _).take _
    obtain ⟨h1, h2, h3⟩ := takesM_ok _ _ _ _ h (fun x hx => by
      simp only [entsM, List.mem_cons, List.not_mem_nil, or_false] at hx
      rcases hx with rfl | rfl | rfl | rfl <;> exact entM_fit _ hb _) (by rw [hst1]; unfold Low; simp [MS.z])
    refine ⟨h1, ?_, ?_⟩
    · rw [hst1] at h2
      simpa [entsM, MS.z] using h2
    · rw [h3, hst1]
      simp [MS.z]

theorem chainM_ok {d : List Int} {b : Int} : ∀ (k : Nat) (st st' : MS) (slot s : Int) (S : List Int), chainM d b k st slot s S = .ok st' → st'.P.length ≤ st.P.length + k ∧ st'.H.length ≤ st.H.length + k ∧ st'.i1 = st.i1 ∧ st'.i2 = st.i2
  | 0, st, st', slot, s, S, h => by cases h
  | k + 1, st, st', slot, s, S, h => by
    unfold chainM at h
    split at h
    · cases h
    · cases hk : linkM d st slot s with
      | error c => rw [hk] at h; cases h
      | ok q =>
        obtain ⟨st1, x⟩ := q
        rw [hk] at h
        simp only at h
        obtain ⟨h1, h2, h3, h4, _⟩ := linkM_ok hk
        have h2' : st1.H.length = st.H.length + 1 := by rw [h2]; simp
        split at h
        · cases h
          exact ⟨by omega, by omega, h3, h4⟩
        · obtain ⟨g1, g2, g3, g4⟩ := chainM_ok k st1 st' _ _ _ h
          exact ⟨by omega, by omega, by rw [g3, h3], by rw [g4, h4]⟩

theorem chM_ok {d : List Int} {st st' : MS} (h : chM d st = .ok st') : st'.P.length ≤ st.P.length + 33 ∧ st'.H.length ≤ st.H.length + 33 := by
  unfold chM at h
  split at h
  · obtain ⟨h1, h2, _, _⟩ := chainM_ok _ _ _ _ _ _ h
    exact ⟨h1, h2⟩
  · cases h
    exact ⟨by omega, by omega⟩

theorem Blk.set5 {u : World} {R : Nat} {x y z a b : Value} {t : TypeId} (h : Blk u R #[x, y, z, a, b] t) (p q r m n : Value) : Blk (((((u.setCell ⟨R, 0, none⟩ p).setCell ⟨R, 1, none⟩ q).setCell ⟨R, 2, none⟩ r).setCell ⟨R, 3, none⟩ m).setCell ⟨R, 4, none⟩ n) R #[p, q, r, m, n] t := by
  have := ((((h.set 0 p).set 1 q).set 2 r).set 3 m).set 4 n
  simpa using this

theorem below_set5 {n : Nat} {w u : World} {R : Nat} (h : Below n w u) (hR : n ≤ R) (p q r m s : Value) : Below n w (((((u.setCell ⟨R, 0, none⟩ p).setCell ⟨R, 1, none⟩ q).setCell ⟨R, 2, none⟩ r).setCell ⟨R, 3, none⟩ m).setCell ⟨R, 4, none⟩ s) :=
  ((((h.setCell hR p).setCell hR q).setCell hR r).setCell hR m).setCell hR s

/-- What Parse answers. -/
def EndP (d : List Int) (e : Ending) (w' : World) : Prop :=
  (∃ st aP cP aH cH, parsM d = .ok st ∧ e = .returned (.tuple #[.agg #[.slice aP st.P.length cP, .slice aH st.H.length cH, .int .i64 st.i1, .int .i64 st.i2, .bool st.g], .int .i64 0]) ∧ LiesP w' aP st.P ∧ LiesE w' aH st.H ∧ st.P.length ≤ 100 ∧ st.H.length ≤ 100) ∨
  (∃ c, parsM d = .error c ∧ ¬ c = 0 ∧ e = .returned (.tuple #[.agg #[.slice none 0 0, .slice none 0 0, .int .i64 0, .int .i64 0, .bool false], .int .i64 c]))

set_option maxHeartbeats 8000000 in
set_option maxRecDepth 100000 in
theorem parse_any (hS : SortSays) (w : World) (a : Option Addr) (cap : Nat) (d : List Int) (hl : Lies w a d) (hal : ∀ x, a = some x → x.block < w.heap.size) (hby : Byts d) (hd : d.length ≤ 1000000000) (hcap : d.length ≤ cap) :
    Calls Tryz.prog 27 #[(.iface 33 (.slice a d.length cap))] w fun e w' => EndP d e w' ∧ Below w.heap.size w w' := by
  obtain ⟨w1, hw1⟩ : ∃ w1, w1 = (w.alloc (.cells #[.slice none 0 0, .slice none 0 0, .int .i64 0, .int .i64 0, .bool false] 57)).alloc (.cells #[.slice none 0 0, .slice none 0 0, .int .i64 0, .int .i64 0, .bool false, (.iface 33 (.slice a d.length cap))] 101) := ⟨_, rfl⟩
  have hb1 : Below w.heap.size w w1 := by rw [hw1]; exact ((Below.refl _ _).alloc (Nat.le_refl _) _).alloc (by simp) _
  have hq1 : Blk w1 w.heap.size #[.slice none 0 0, .slice none 0 0, .int .i64 0, .int .i64 0, .bool false] 57 := by rw [hw1]; exact (Blk.new _ _ _).below ((Below.refl _ _).alloc (Nat.le_refl _) _)
  have hr1 : Blk w1 (w.heap.size + 1) #[.slice none 0 0, .slice none 0 0, .int .i64 0, .int .i64 0, .bool false, (.iface 33 (.slice a d.length cap))] 101 := by
    rw [hw1]
    have := Blk.new (w.alloc (.cells #[.slice none 0 0, .slice none 0 0, .int .i64 0, .int .i64 0, .bool false] 57)) #[.slice none 0 0, .slice none 0 0, .int .i64 0, .int .i64 0, .bool false, (.iface 33 (.slice a d.length cap))] 101
    simpa using this
  have hg1 : Rdg w1 (fun k => k < w.heap.size + 1) (w.heap.size + 1) (.iface 33 (.slice a d.length cap)) (.slice none 0 0) (.slice none 0 0) MS.z := ⟨hr1, OwnP.nil _ _ _, OwnE.nil _ _, by simp, fun g e => (by cases e), fun g e => (by cases e), fun k hk => by have := hr1.lt; omega⟩
  have hlk : LiesK (fun k => k < w.heap.size + 1) w1 a d := ⟨hl.below hb1, fun x hx => by have := hal x hx; simp; omega⟩
  have HFi := hide (first_any w1 (fun k => k < w.heap.size + 1) (w.heap.size + 1) a cap d _ _ hg1 hlk hby hd hcap)
  have HCh := fun u vP vH (st : MS) (hu : Rdg u (fun k => k < w.heap.size + 1) (w.heap.size + 1) (.iface 33 (.slice a d.length cap)) vP vH st) (hk : Kept (fun k => k < w.heap.size + 1) w1 u) h1 h2 h3 => hide (chain_any u (fun k => k < w.heap.size + 1) (w.heap.size + 1) a cap d vP vH st hu (hlk.kept hk) hby hd hcap h1 h2 h3)
  have HAp := fun u vP vH (st : MS) (hu : Rdg u (fun k => k < w.heap.size + 1) (w.heap.size + 1) (.iface 33 (.slice a d.length cap)) vP vH st) h1 h2 => hide (rapart_any hS u (fun k => k < w.heap.size + 1) (w.heap.size + 1) _ vP vH st hu h1 h2)
  have HFo := hide (fun st => @firstM_ok d hby st)
  have hnil : ∀ (u : World) (v : Value), (binOp .eql 29 (.iface 33 v) .nilIface).run Tryz.prog u = .ok (.bool false) u := fun u v => by rfl
  have HQ1 := hide hq1
  have HB1 := hide hb1
  have HW1 := hide hw1
  classical
  have HPa : Hid (parsM d = match firstM d with
    | .error c => .error c
    | .ok st => match chM d st with
      | .error c => .error c
      | .ok st2 => if (outerM st2).Pairwise Off ∧ (allM st2).Pairwise Off then .ok st2 else .error 14) := hide rfl
  clear hl hal hby hd hcap hw1 hb1 hq1 hr1 hg1 hlk hS
  go_enter Tryz.func27, Tryz.ntmps27
  go_wp2_with fail
  rw [← HW1.out]
  refine HFi.out.mono ?_
  rintro e9 w2 ⟨he2, hk2⟩
  have HBl : Hid (∀ u, Kept (fun k => k < w.heap.size + 1) w1 u → Below w.heap.size w u) := hide (fun u hk => HB1.out.trans (Chg.below w.heap.size hk HB1.out.size (fun i hi h => h (by simp; omega))))
  obtain ⟨c2, rfl, hc2⟩ := he2.form
  have HK2 := hide hk2
  clear he2 hk2
  rcases hc2 with ⟨st, vP, vH, h3, rfl, h4⟩ | ⟨h3, h4⟩
  · obtain ⟨hlo, hpl, hhl⟩ := HFo.out st h3
    have HPa2 : Hid (parsM d = match chM d st with
      | .error c => .error c
      | .ok st2 => if (outerM st2).Pairwise Off ∧ (allM st2).Pairwise Off then .ok st2 else .error 14) := hide (by rw [HPa.out, h3])
    have HC := HCh w2 vP vH st h4 HK2.out (by omega) (by omega) hlo
    clear h3 h4 HPa HCh HFi HFo
    go_wp2_with fail
    refine HC.out.mono ?_
    rintro e9 w3 ⟨he3, hk3⟩
    obtain ⟨c3, rfl, hc3⟩ := he3.form
    have HK3 := hide (HK2.out.trans hk3)
    clear he3 hk3 HC
    rcases hc3 with ⟨st2, vP2, vH2, h5, rfl, h6⟩ | ⟨h5, h6⟩
    · obtain ⟨hp5, hh5⟩ := chM_ok h5
      have HPa3 : Hid (parsM d = if (outerM st2).Pairwise Off ∧ (allM st2).Pairwise Off then .ok st2 else .error 14) := hide (by rw [HPa2.out, h5])
      have HA := HAp w3 vP2 vH2 st2 h6 (by omega) (by omega)
      have HR3 := hide h6
      clear h5 h6 HPa2 HAp
      go_wp2_with fail
      refine HA.out.mono ?_
      rintro e9 w4 ⟨⟨b4, rfl, hb4i⟩, hb4⟩
      have HK4 := hide (HK3.out.trans (Kept.of_below hb4))
      have hr4 := HR3.out.below hb4
      have HI4 := hide hb4i
      clear hb4 hb4i HA
      cases b4
      · have HO : Hid (parsM d = .error 14) := hide (by rw [HPa3.out, if_neg (fun h => by simpa using HI4.out.2 h)])
        clear hr4
        have hq := HQ1.out.chg HK4.out (fun h => h (by simp))
        have q0 := hq.cell 0 _ rfl
        have q1 := hq.cell 1 _ rfl
        have q2 := hq.cell 2 _ rfl
        have q3 := hq.cell 3 _ rfl
        have q4 := hq.cell 4 _ rfl
        have f0 := hq.frozen 0
        have f1 := hq.frozen 1
        have f2 := hq.frozen 2
        have f3 := hq.frozen 3
        have f4 := hq.frozen 4
        have HQ := hide hq
        clear hq
        go_wp2_with fail
        refine bodyPost_ret (ret_agg rfl _ _ w.heap.size #[.slice none 0 0, .slice none 0 0, .int .i64 0, .int .i64 0, .bool false] _ rfl rfl (run_loadVar_row _ w.heap.size 57 57 _ (0, 0) _ (HQ.out.set5 _ _ _ _ _) Tryz.underlying57 rfl (by kernel_rfl))) rfl ?_
        exact ⟨Or.inr ⟨14, HO.out, by decide, rfl⟩, below_set5 (HBl.out _ HK4.out) (Nat.le_refl _) _ _ _ _ _⟩
      · have HO : Hid (parsM d = .ok st2) := hide (by rw [HPa3.out, if_pos (HI4.out.1 (by simp))])
        obtain ⟨aP, cP, rfl, hlP, _⟩ := hr4.p.form
        obtain ⟨aH, cH, rfl, hlH, _⟩ := OwnE.form hr4.h
        obtain ⟨r0, r1, r2, r3, r4, _⟩ := hr4.cell
        have HLP := hide hlP
        have HLH := hide hlH
        have HKP := hide hr4.kP
        have HKH := hide hr4.kH
        clear hr4 hlP hlH
        have hq := HQ1.out.chg HK4.out (fun h => h (by simp))
        have q0 := hq.cell 0 _ rfl
        have q1 := hq.cell 1 _ rfl
        have q2 := hq.cell 2 _ rfl
        have q3 := hq.cell 3 _ rfl
        have q4 := hq.cell 4 _ rfl
        have f0 := hq.frozen 0
        have f1 := hq.frozen 1
        have f2 := hq.frozen 2
        have f3 := hq.frozen 3
        have f4 := hq.frozen 4
        have HQ := hide hq
        clear hq
        go_wp2_with fail
        refine bodyPost_ret (ret_agg rfl _ _ w.heap.size #[.slice aP st2.P.length cP, .slice aH st2.H.length cH, .int .i64 st2.i1, .int .i64 st2.i2, .bool st2.g] _ rfl rfl (run_loadVar_row _ w.heap.size 57 57 _ (0, 0) _ (HQ.out.set5 _ _ _ _ _) Tryz.underlying57 rfl (by kernel_rfl))) rfl ?_
        have hs5 : ∀ p q r m n : Value, Chg (fun k => k = w.heap.size) w4 (((((w4.setCell ⟨w.heap.size, 0, none⟩ p).setCell ⟨w.heap.size, 1, none⟩ q).setCell ⟨w.heap.size, 2, none⟩ r).setCell ⟨w.heap.size, 3, none⟩ m).setCell ⟨w.heap.size, 4, none⟩ n) := fun p q r m n => (((((Chg.refl (fun k => k = w.heap.size) w4).setC _ 0 p (fun _ => rfl)).setC _ 1 q (fun _ => rfl)).setC _ 2 r (fun _ => rfl)).setC _ 3 m (fun _ => rfl)).setC _ 4 n (fun _ => rfl)
        refine ⟨Or.inl ⟨st2, aP, cP, aH, cH, HO.out, rfl, ?_, ?_, by omega, by omega⟩, below_set5 (HBl.out _ HK4.out) (Nat.le_refl _) _ _ _ _ _⟩
        · refine HLP.out.chg (hs5 _ _ _ _ _) (fun x hx e => ?_)
          have := (HKP.out x.block (by rw [hx]; rfl)).1
          exact this (by omega)
        · rcases HLH.out with hE | ⟨b, off, rfl, hbl, hc⟩
          · exact Or.inl hE
          · refine Or.inr ⟨b, off, rfl, Nat.lt_of_lt_of_le hbl (hs5 _ _ _ _ _).size, fun k hk => ?_⟩
            have hne : ¬ b = w.heap.size := fun e => (HKH.out b rfl).1 (by omega)
            exact ⟨(hs5 _ _ _ _ _).cell (hc k hk).1 hne, (hs5 _ _ _ _ _).cell (hc k hk).2 hne⟩
    · have HO : Hid (parsM d = .error c3) := hide (by rw [HPa2.out, h5])
      have hcb : (c3 != 0) = true := by simpa using h6
      have H6 := hide h6
      clear h5 h6 HPa2
      have hq := HQ1.out.chg HK3.out (fun h => h (by simp))
      have q0 := hq.cell 0 _ rfl
      have q1 := hq.cell 1 _ rfl
      have q2 := hq.cell 2 _ rfl
      have q3 := hq.cell 3 _ rfl
      have q4 := hq.cell 4 _ rfl
      have f0 := hq.frozen 0
      have f1 := hq.frozen 1
      have f2 := hq.frozen 2
      have f3 := hq.frozen 3
      have f4 := hq.frozen 4
      have HQ := hide hq
      clear hq
      go_wp2_with fail
      refine bodyPost_ret (ret_agg rfl _ _ w.heap.size #[.slice none 0 0, .slice none 0 0, .int .i64 0, .int .i64 0, .bool false] _ rfl rfl (run_loadVar_row _ w.heap.size 57 57 _ (0, 0) _ (HQ.out.set5 _ _ _ _ _) Tryz.underlying57 rfl (by kernel_rfl))) rfl ?_
      exact ⟨Or.inr ⟨c3, HO.out, H6.out, rfl⟩, below_set5 (HBl.out _ HK3.out) (Nat.le_refl _) _ _ _ _ _⟩
  · have HO : Hid (parsM d = .error c2) := hide (by rw [HPa.out, h3])
    have hcb : (c2 != 0) = true := by simpa using h4
    have H6 := hide h4
    clear h3 h4 HPa
    have hq := HQ1.out.chg HK2.out (fun h => h (by simp))
    have q0 := hq.cell 0 _ rfl
    have q1 := hq.cell 1 _ rfl
    have q2 := hq.cell 2 _ rfl
    have q3 := hq.cell 3 _ rfl
    have q4 := hq.cell 4 _ rfl
    have f0 := hq.frozen 0
    have f1 := hq.frozen 1
    have f2 := hq.frozen 2
    have f3 := hq.frozen 3
    have f4 := hq.frozen 4
    have HQ := hide hq
    clear hq
    go_wp2_with fail
    refine bodyPost_ret (ret_agg rfl _ _ w.heap.size #[.slice none 0 0, .slice none 0 0, .int .i64 0, .int .i64 0, .bool false] _ rfl rfl (run_loadVar_row _ w.heap.size 57 57 _ (0, 0) _ (HQ.out.set5 _ _ _ _ _) Tryz.underlying57 rfl (by kernel_rfl))) rfl ?_
    exact ⟨Or.inr ⟨c2, HO.out, H6.out, rfl⟩, below_set5 (HBl.out _ HK2.out) (Nat.le_refl _) _ _ _ _ _⟩
end Go.Proofs.YtjpdfchdgphdoaaGreatDoor.Oct
