/- The operations of a file, whatever they are asked. -/
import Derived.Test.YtnhbncbiflnapaaOpx
import Derived.Test.YtnhbncbiflnapaaSts
namespace Go.Proofs.Ytnhbncbiflnapaa.Oct
open Go.RowKit Go.Deep

theorem said_or (f : Fs) : f.said = 0 ∨ f.said = 5 := by
  unfold Fs.said
  split
  · exact Or.inr rfl
  · exact Or.inl rfl

theorem lies_map {w : World} {a : Option Addr} {l : List Int} (h : Lies w a l) (t m : Nat) (htm : t + m ≤ l.length) : Lies w (a.map (fun x => x.add t)) ((l.drop t).take m) := by
  by_cases hm : m = 0
  · subst hm
    simp only [List.take_zero]
    exact Lies.nil _ _
  · rcases h with rfl | ⟨b, off, rfl, hlt, hc⟩
    · simp at htm
      omega
    · have := Lies.of_part (Lies.mk hc) t m
      simpa [Go.WideShapes.add_plain] using this

set_option maxHeartbeats 2000000 in
set_option maxRecDepth 100000 in
theorem read_any (w : World) (X : Nat → Prop) (F : Nat) (f : Fs) (A : Ab) (h : Has w X F f A) (hX : ∀ q, X q → q < w.heap.size) (hops : 0 ≤ f.ops ∧ f.ops < 1000000) (hs : A.S.length ≤ 4194304) (at_ n : Int) (hat : -9223372036854775808 ≤ at_ ∧ at_ ≤ 9223372036854775807) (hn : -9223372036854775808 ≤ n ∧ n ≤ 9223372036854775807) :
    Calls Try.prog 26 #[.pointer (some ⟨F, 0, none⟩), .int .i64 at_, .int .i64 n] w fun e w' => ∃ a cap l c, e = .returned (.tuple #[.slice a (List.length l) cap, .int .i64 c]) ∧ Lies w' a l ∧ l.length ≤ 4194304 ∧ (∀ x, a = some x → w.heap.size ≤ x.block ∧ x.block < w'.heap.size) ∧ (c = 5 ↔ f.said = 5) ∧ Did w w' X F f A := by
  obtain ⟨R, hf, hD, hw⟩ := h
  have HF := hide hf
  have HD := hide (And.intro hD hw)
  have HX := hide hX
  clear hf hD hw hX
  go_enter Try.func26, Try.ntmps26
  go_wp2_with fail
  refine (ask_file w F f HF.out.at_ (by omega)).mono ?_
  rintro e w1 ⟨rfl, ha1, hc1⟩
  have hf1 := HF.out.fields hc1 ha1 rfl rfl rfl
  have HF1 := hide hf1
  have HDid : Hid (Did w w1 X F f A) := hide (did_same hf1 HD.out.1 HD.out.2 HX.out hc1 HF.out.xF)
  have h0 := hf1.at_.cell.1
  obtain ⟨a1, c1, e1, hs1, _⟩ := hf1.seen.sl
  rw [e1] at h0
  have HS1 := hide hs1
  have hcl := hs1.le
  have hcm := hs1.max
  clear hf1 hc1 ha1 hs1 e1
  rcases said_or f with hq | hq
  · rw [hq]
    by_cases hok : 0 ≤ at_ ∧ 0 ≤ n ∧ n ≤ (A.S.length : Int) - at_
    · obtain ⟨t, rfl⟩ : ∃ t : Nat, at_ = t := ⟨at_.toNat, by omega⟩
      obtain ⟨m, rfl⟩ : ∃ m : Nat, n = m := ⟨n.toNat, by omega⟩
      have g1 : ¬ ((t : Int) < 0) := by omega
      have g2 : ¬ ((m : Int) < 0) := by omega
      have g3 : ¬ ((A.S.length : Int) - (t : Int) < (m : Int)) := by omega
      have g4 : wrap64 ((A.S.length : Int) - (t : Int)) = (A.S.length : Int) - (t : Int) := by unfold wrap64; omega
      have g5 : wrap64 ((t : Int) + (m : Int)) = ((t + m : Nat) : Int) := by unfold wrap64; omega
      have g6 : t + m ≤ A.S.length := by omega
      have hlen : ((A.S.drop t).take m).length = m := by simp; omega
      have HLm := hide (lies_map HS1.out.lies t m g6)
      have hfin : ∀ (a : Option Addr) (c : Nat), Lies w1 a ((A.S.drop t).take m) → Calls Try.prog 29 #[.slice a m c] w1 fun e w' => ∃ a' c', e = .returned (.slice a' m c') ∧ Lies w' a' ((A.S.drop t).take m) ∧ (∀ x, a' = some x → w.heap.size ≤ x.block ∧ x.block < w'.heap.size) ∧ Did w w' X F f A := by
        intro a c hl
        have hc := clone_any w1 a c _ hl (by omega)
        rw [hlen] at hc
        refine hc.mono ?_
        rintro e w2 ⟨v2, rfl, ho2, hb2⟩
        obtain ⟨a2, c2, rfl, hl2, hp2⟩ := own_place ho2
        rw [hlen]
        obtain ⟨X', f', ⟨R', q1, q2⟩, q3, q4, q5⟩ := HDid.out
        refine ⟨a2, c2, rfl, hl2, fun x hx => ⟨Nat.le_trans q5.size (hp2 x hx).1, (hp2 x hx).2⟩, ?_⟩
        exact ⟨X', f', ⟨R', q1.below_keeps hb2, q2⟩, q3, fun q hq => ⟨(q4 q hq).1, Nat.lt_of_lt_of_le (q4 q hq).2 hb2.size⟩, q5.trans (Chg.of_below hb2)⟩
      have HFin := hide hfin
      have HLen := hide hlen
      clear hfin hlen hok
      go_wp2_with fail
      · refine (HFin.out a1 0 (by
          have : m = 0 := by omega
          subst this
          simp only [List.take_zero]
          exact Lies.nil _ _)).mono ?_
        rintro e w2 ⟨a2, c2, rfl, hl2, hp2, hd2⟩
        go_wp2_with fail
        go_ret2
        exact ⟨a2, c2, (A.S.drop t).take m, 0, by rw [HLen.out]; rfl, hl2, by rw [HLen.out]; omega, hp2, by first | omega | simp [hq], hd2⟩
      · refine (HFin.out _ _ HLm.out).mono ?_
        rintro e w2 ⟨a2, c2, rfl, hl2, hp2, hd2⟩
        go_wp2_with fail
        go_ret2
        exact ⟨a2, c2, (A.S.drop t).take m, 0, by rw [HLen.out]; rfl, hl2, by rw [HLen.out]; omega, hp2, by first | omega | simp [hq], hd2⟩
    · have g4 : 0 ≤ at_ → wrap64 ((A.S.length : Int) - at_) = (A.S.length : Int) - at_ := fun _ => by unfold wrap64; omega
      by_cases g1 : at_ < 0
      · go_wp2_with fail
        go_ret2
        exact ⟨none, 0, [], 4, rfl, Lies.nil _ _, by simp, fun x hx => (by cases hx), by first | omega | simp [hq], HDid.out⟩
      · have g5 := g4 (by omega)
        by_cases g2 : n < 0
        · go_wp2_with fail
          go_ret2
          exact ⟨none, 0, [], 4, rfl, Lies.nil _ _, by simp, fun x hx => (by cases hx), by first | omega | simp [hq], HDid.out⟩
        · have g3 : (A.S.length : Int) - at_ < n := by omega
          go_wp2_with fail
          go_ret2
          exact ⟨none, 0, [], 4, rfl, Lies.nil _ _, by simp, fun x hx => (by cases hx), by first | omega | simp [hq], HDid.out⟩
  · rw [hq]
    go_wp2_with fail
    go_ret2
    exact ⟨none, 0, [], 5, rfl, Lies.nil _ _, by simp, fun x hx => (by cases hx), by first | omega | simp [hq], HDid.out⟩

/-- The bounds within which a file is used. -/
structure Fit (w : World) (X : Nat → Prop) (f : Fs) (A : Ab) : Prop where
  x : ∀ q, X q → q < w.heap.size
  ops : 0 ≤ f.ops ∧ f.ops < 1000000
  wr : 0 ≤ A.wr ∧ A.wr < 1000000
  s : A.S.length ≤ 4194304
  t : A.T.length ≤ 4194304
  d : A.D.length ≤ 1000000
  small : SmallD A.D

set_option maxHeartbeats 2000000 in
set_option maxRecDepth 100000 in
theorem write_any (w : World) (X : Nat → Prop) (F : Nat) (f : Fs) (A : Ab) (h : Has w X F f A) (hfit : Fit w X f A) (at_ n : Int) (a : Option Addr) (cap : Nat) (p : List Int) (hp : Lies w a p) (hpl : p.length ≤ 1500) (hpx : p ≠ [] → ∀ x, a = some x → ¬ X x.block) (hat : -9223372036854775808 ≤ at_ ∧ at_ ≤ 9223372036854775807) :
    Calls Try.prog 23 #[.pointer (some ⟨F, 0, none⟩), .int .i64 at_, .slice a p.length cap] w fun e w' => ∃ c, e = .returned (.int .i64 c) ∧ (c = 5 ↔ f.said = 5) ∧ Did w w' X F f (if f.said = 5 then A else A.op ⟨2, at_, n, a, cap, p⟩) := by
  obtain ⟨R, hf, hD, hw⟩ := h
  have hRl : R.length = A.D.length := by rw [← hD]; simp
  have hops := hfit.ops
  rcases said_or f with hq | hq
  · rw [if_neg (by rw [hq]; omega)]
    by_cases hok : 0 ≤ at_ ∧ at_ + (p.length : Int) ≤ 4194304
    · obtain ⟨t, rfl⟩ : ∃ t : Nat, at_ = t := ⟨at_.toNat, by omega⟩
      have hwr := hfit.wr
      have hd := hfit.d
      refine (write_ok w X F f A.S A.T R hf t a cap p hp hpx (by omega) (by omega) (by omega) hfit.s (by omega) hq).mono ?_
      rintro e w' ⟨rfl, ps, vs, vr, hps, hf', hc'⟩
      have hA : A.op ⟨2, (t : Int), n, a, cap, p⟩ = ⟨laidsD A.S (cuts t p), A.T, A.D ++ cuts t p, A.wr + 1⟩ := by
        unfold Ab.op
        rw [if_pos rfl, if_pos ⟨hok.1, hok.2⟩]
        simp
      rw [hA]
      have hm := hf'.mono (Y := fun q => (X q ∨ w.heap.size ≤ q) ∧ q < w'.heap.size) (fun q hq h => ⟨h, hq⟩)
      rw [laidAll_dat, hps] at hm
      exact ⟨0, rfl, by rw [hq], _, _, ⟨R ++ ps, hm, by rw [List.map_append, hD, hps], by simp only; rw [hw]⟩, ⟨rfl, rfl, rfl⟩, fun q hq => hq, hc'⟩
    · have hA : A.op ⟨2, at_, n, a, cap, p⟩ = A := by
        unfold Ab.op
        rw [if_pos rfl, if_neg hok]
      rw [hA]
      by_cases hz : 0 ≤ at_
      · refine (write_big w X F f A.S A.T R hf (by omega) hq at_ a cap p.length (by omega) hz (by omega)).mono ?_
        rintro e w' ⟨rfl, hf', hc'⟩
        exact ⟨3, rfl, by rw [hq]; omega, did_same hf' hD hw hfit.x hc' hf.xF⟩
      · have hz' : at_ < 0 := by omega
        have HF := hide hf
        have HD := hide (And.intro hD (And.intro hw hfit.x))
        clear hf hD hw hp hpx hfit hok
        go_enter Try.func23, Try.ntmps23
        go_wp2_with fail
        refine (ask_file w F f HF.out.at_ (by omega)).mono ?_
        rintro e w1 ⟨rfl, ha1, hc1⟩
        have HDid : Hid (Did w w1 X F f A) := hide (did_same (HF.out.fields hc1 ha1 rfl rfl rfl) HD.out.1 HD.out.2.1 HD.out.2.2 hc1 HF.out.xF)
        rw [hq]
        clear ha1 hc1
        go_wp2_with fail
        go_ret
        exact ⟨4, rfl, by first | omega | simp [hq], HDid.out⟩
  · rw [if_pos hq]
    have HF := hide hf
    have HD := hide (And.intro hD (And.intro hw hfit.x))
    clear hf hD hw hp hpx hfit
    go_enter Try.func23, Try.ntmps23
    go_wp2_with fail
    refine (ask_file w F f HF.out.at_ (by omega)).mono ?_
    rintro e w1 ⟨rfl, ha1, hc1⟩
    have HDid : Hid (Did w w1 X F f A) := hide (did_same (HF.out.fields hc1 ha1 rfl rfl rfl) HD.out.1 HD.out.2.1 HD.out.2.2 hc1 HF.out.xF)
    rw [hq]
    clear ha1 hc1
    go_wp2_with fail
    go_ret
    exact ⟨5, rfl, by first | omega | simp [hq], HDid.out⟩

set_option maxHeartbeats 2000000 in
set_option maxRecDepth 100000 in
theorem trunc_any (w : World) (X : Nat → Prop) (F : Nat) (f : Fs) (A : Ab) (h : Has w X F f A) (hfit : Fit w X f A) (n : Int) (at_ : Int) (a : Option Addr) (cap : Nat) (p : List Int) :
    Calls Try.prog 27 #[.pointer (some ⟨F, 0, none⟩), .int .i64 n] w fun e w' => ∃ c, e = .returned (.int .i64 c) ∧ (c = 5 ↔ f.said = 5) ∧ Did w w' X F f (if f.said = 5 then A else A.op ⟨3, at_, n, a, cap, p⟩) := by
  obtain ⟨R, hf, hD, hw⟩ := h
  have hRl : R.length = A.D.length := by rw [← hD]; simp
  have hops := hfit.ops
  have hwr := hfit.wr
  have hd := hfit.d
  have hs := hfit.s
  have HF := hide hf
  have HD := hide (And.intro hD (And.intro hw hfit.x))
  clear hf hD hfit
  rcases said_or f with hq | hq
  · rw [if_neg (by rw [hq]; omega)]
    by_cases hok : 0 ≤ n ∧ n ≤ 4194304
    · obtain ⟨t, rfl⟩ : ∃ t : Nat, n = t := ⟨n.toNat, by omega⟩
      have hA : A.op ⟨3, at_, (t : Int), a, cap, p⟩ = ⟨laidD (t, [], true) A.S, A.T, A.D ++ [(t, [], true)], A.wr + 1⟩ := by
        unfold Ab.op
        rw [if_neg (by simp), if_pos rfl, if_pos hok]
        simp
      rw [hA]
      clear hA
      have g1 : ¬ ((t : Int) < 0) := by omega
      have g2 : ¬ ((4194304 : Int) < (t : Int)) := by omega
      go_enter Try.func27, Try.ntmps27
      go_wp2_with fail
      refine (ask_file w F f HF.out.at_ (by omega)).mono ?_
      rintro e w1 ⟨rfl, ha1, hc1⟩
      have hf1 := HF.out.fields hc1 ha1 rfl rfl rfl
      have HDid : Hid (Did w w1 X F f A) := hide (did_same hf1 HD.out.1 HD.out.2.1 HD.out.2.2 hc1 HF.out.xF)
      have HC1 : Hid (Chg X w w1) := hide (hc1.mono (fun i _ e => by subst e; exact HF.out.xF))
      rw [hq]
      have h4 := ha1.cell.2.2.2.2.1
      have z4 := ha1.frozen 4
      have e4 : f.asked.wrote = A.wr := hw
      rw [e4] at h4
      have hc2 : Chg X w (w1.setCell ⟨F, 4, none⟩ (.int .i64 (A.wr + 1))) := HC1.out.setCell F 4 _ (fun _ => HF.out.xF)
      have hf2 : Fil (w1.setCell ⟨F, 4, none⟩ (.int .i64 (A.wr + 1))) X F { f.asked with wrote := A.wr + 1 } A.S A.T R := hf1.fields ((Chg.refl _ _).setCell F 4 _ (fun _ => rfl)) (ha1.setwrote _) rfl rfl rfl
      have HC2 := hide hc2
      have HF2 := hide hf2
      clear hc2 hf2 ha1 hc1 hf1 e4 hok
      go_wp2_with fail
      generalize w1.setCell ⟨F, 4, none⟩ (.int .i64 (A.wr + 1)) = w2 at *
      have hC := do_file w2 X F _ A.S A.T R ⟨t, none, [], 0, true⟩ HF2.out ⟨Lies.nil _ _, fun x hx => by cases hx⟩ (by simp; omega) (by simp) (by omega) (by omega)
      refine hC.mono ?_
      clear hC
      rintro e w3 ⟨rfl, vs, vr, hf3, hc3⟩
      have HF3 := hide hf3
      have HC3 := hide hc3
      clear hf3 hc3
      go_wp2_with fail
      go_ret
      have hs2 := HC2.out.size
      have hm := HF3.out.mono (Y := fun q => (X q ∨ w2.heap.size ≤ q) ∧ q < w3.heap.size) (fun q hq h => ⟨h, hq⟩)
      refine ⟨0, rfl, by first | omega | simp [hq], _, _, ⟨_, hm, by rw [List.map_append, HD.out.1]; rfl, rfl⟩, ⟨rfl, rfl, rfl⟩, fun q hq => ⟨hq.1.elim Or.inl (fun h => Or.inr (by omega)), hq.2⟩, ?_⟩
      refine HC2.out.andThen HC3.out (fun i hi h => ?_)
      rcases h with h | h | h
      · subst h; exact HF.out.xF
      · exact (HF2.out.xs i h.symm).1
      · exact (HF2.out.xr i h.symm).1
    · have hA : A.op ⟨3, at_, n, a, cap, p⟩ = A := by
        unfold Ab.op
        rw [if_neg (by simp), if_pos rfl, if_neg hok]
      rw [hA]
      clear hA
      go_enter Try.func27, Try.ntmps27
      go_wp2_with fail
      refine (ask_file w F f HF.out.at_ (by omega)).mono ?_
      rintro e w1 ⟨rfl, ha1, hc1⟩
      have hf1 := HF.out.fields hc1 ha1 rfl rfl rfl
      have HDid : Hid (Did w w1 X F f A) := hide (did_same hf1 HD.out.1 HD.out.2.1 HD.out.2.2 hc1 HF.out.xF)
      have HC1 : Hid (Chg X w w1) := hide (hc1.mono (fun i _ e => by subst e; exact HF.out.xF))
      rw [hq]
      clear ha1 hc1 hf1
      by_cases g1 : n < 0
      · go_wp2_with fail
        go_ret
        exact ⟨3, rfl, by first | omega | simp [hq], HDid.out⟩
      · have g2 : (4194304 : Int) < n := by omega
        go_wp2_with fail
        go_ret
        exact ⟨3, rfl, by first | omega | simp [hq], HDid.out⟩
  · rw [if_pos hq]
    go_enter Try.func27, Try.ntmps27
    go_wp2_with fail
    refine (ask_file w F f HF.out.at_ (by omega)).mono ?_
    rintro e w1 ⟨rfl, ha1, hc1⟩
    have hf1 := HF.out.fields hc1 ha1 rfl rfl rfl
    have HDid : Hid (Did w w1 X F f A) := hide (did_same hf1 HD.out.1 HD.out.2.1 HD.out.2.2 hc1 HF.out.xF)
    have HC1 : Hid (Chg X w w1) := hide (hc1.mono (fun i _ e => by subst e; exact HF.out.xF))
    rw [hq]
    clear ha1 hc1 hf1
    go_wp2_with fail
    go_ret
    exact ⟨5, rfl, by first | omega | simp [hq], HDid.out⟩

set_option maxHeartbeats 2000000 in
set_option maxRecDepth 100000 in
theorem flush_any (w : World) (X : Nat → Prop) (F : Nat) (f : Fs) (A : Ab) (h : Has w X F f A) (hfit : Fit w X f A) (n : Int) (at_ : Int) (a : Option Addr) (cap : Nat) (p : List Int) :
    Calls Try.prog 22 #[.pointer (some ⟨F, 0, none⟩)] w fun e w' => ∃ c, e = .returned (.int .i64 c) ∧ (c = 5 ↔ f.said = 5) ∧ (c = 5 ∨ c = 0) ∧ Did w w' X F f (if f.said = 5 then A else A.op ⟨4, at_, n, a, cap, p⟩) := by
  obtain ⟨R, hf, hD, hw⟩ := h
  have hRl : R.length = A.D.length := by rw [← hD]; simp
  have hops := hfit.ops
  have hd := hfit.d
  rcases said_or f with hq | hq
  · rw [if_neg (by rw [hq]; omega)]
    refine (flush_file w X F f A.S A.T R hf (by omega) hq hfit.t (small_dat (by rw [hD]; exact hfit.small)) (by omega)).mono ?_
    rintro e w' ⟨rfl, vt, hf', hc'⟩
    have hm := hf'.mono (Y := fun q => (X q ∨ w.heap.size ≤ q) ∧ q < w'.heap.size) (fun q hq h => ⟨h, hq⟩)
    rw [laidAll_dat, hD] at hm
    exact ⟨0, rfl, by rw [hq], Or.inr rfl, _, _, ⟨[], hm, rfl, hw⟩, ⟨rfl, rfl, rfl⟩, fun q hq => hq, hc'⟩
  · rw [if_pos hq]
    have HF := hide hf
    have HD := hide (And.intro hD (And.intro hw hfit.x))
    clear hf hD hw hfit
    go_enter Try.func22, Try.ntmps22
    go_wp2_with fail
    refine (ask_file w F f HF.out.at_ (by omega)).mono ?_
    rintro e w1 ⟨rfl, ha1, hc1⟩
    have HDid : Hid (Did w w1 X F f A) := hide (did_same (HF.out.fields hc1 ha1 rfl rfl rfl) HD.out.1 HD.out.2.1 HD.out.2.2 hc1 HF.out.xF)
    rw [hq]
    clear ha1 hc1
    go_wp2_with fail
    go_ret
    exact ⟨5, rfl, by first | omega | simp [hq], by simp, HDid.out⟩

end Go.Proofs.Ytnhbncbiflnapaa.Oct
