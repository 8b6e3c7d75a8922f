/- A file is opened: its journal is replayed, changes of it begin, its counts and its top table. -/
import Derived.Test.YtibkhgmmjhlpmaaGreatPTta
import Derived.Test.YtibkhgmmjhlpmaaGreatPTbu
import Derived.Test.YtibkhgmmjhlpmaaGreatPTzc
import Derived.Test.YtibkhgmmjhlpmaaGreatPJroJpdJrp
import Derived.Handy
namespace Go.Proofs.YtibkhgmmjhlpmaaGreat.Oct
open Go.RowKit Go.Deep Go.Sort

theorem lenD_geT : ∀ D : List RD, 12 * D.length ≤ lenD D
  | [] => by simp [lenD]
  | r :: D => by
    have ih := lenD_geT D
    simp only [lenD, List.map_cons, List.sum_cons, List.length_cons] at *
    omega

/-- A replay of what a crash left: how much of the file's budget is left, too. -/
theorem replay_k (w : World) (J F : Nat) (nu : Int) (X : Nat → Prop) (f : Fs) (k n : Nat) (R : List Int) (hJ : Jrn w J F (512 : Nat) (15360 : Nat) nu) (hF : Fl w X F f ⟨R, R, []⟩ k n) (hk : 1100000 ≤ k) (hn : n ≤ 100) (hXJ : ¬ X J) {b : List Int} {D : List RD} {nu' : Int} (g : Giv b 512 15360 D) (h : St b 512 15360 nu' D R) :
    Calls Tryz.prog 27 #[.pointer (some ⟨J, 0, none⟩)] w fun e w' => (∃ c, e = .returned (.tuple #[.int .i64 c, .int .i64 0])) ∧ ∃ X' f' k' n' S' nu2, Fl w' X' F f' ⟨S', S', []⟩ k' n' ∧ 1000001 ≤ k' ∧ n' ≤ 40000 ∧ Jrn w' J F (512 : Nat) (15360 : Nat) nu2 ∧ ¬ X' J ∧ (∀ i, X' i → X i ∨ w.heap.size ≤ i) ∧ Fin b 512 15360 D S' ∧ (Byts S' ∧ (S' = R ∨ S'.getD 512 0 = 0)) ∧ Chg (fun i => X i ∨ i = J) w w' := by
  obtain ⟨s1, s2, s3, s4, s5⟩ := h.says g
  have hrd : rdsN R 512 ≤ 2 := by unfold rdsN; split <;> omega
  have hDl := lenD_geT D
  have hro := g.room
  refine (replay_j w J F 512 15360 nu hJ (by omega) X f ⟨R, R, []⟩ k n hF s1 hXJ s3 (by omega) (by omega) s4 rfl).mono ?_
  rintro e w' (⟨h1, _⟩ | ⟨h1, h2, rfl, nu2, f2, hf2, hc2, hj2⟩ | ⟨h1, D2, h2, h3, nu2, hr⟩)
  · exact absurd (show rdsN R 512 ≤ k by omega) h1
  · exact ⟨⟨0, rfl⟩, X, f2, _, _, R, nu2, hf2, (show 1000001 ≤ k - rdsN R 512 by omega), by omega, hj2, hXJ, fun i hi => Or.inl hi, h.fin g h2, ⟨s3, Or.inl rfl⟩, hc2⟩
  · rcases s5 with s5 | ⟨s5, s6⟩
    · have h2' : pnd R 512 15360 = some D2 := h2
      rw [s5] at h2'
      cases h2'
    · have h2' : pnd R 512 15360 = some D2 := h2
      rw [s5] at h2'
      cases h2'
      have hle : D.length + 3 ≤ k - rdsN R 512 := by omega
      obtain ⟨X2, f2, hf2, hx2, hc2, hj2, hn2⟩ := hr
      have hal9 : (appO 512 D).length = D.length + 3 := by
        unfold appO clrO
        simp [recO_length]
      have hal : (appO 512 D).length ≤ k - rdsN R 512 := by omega
      have hcs : costs (appO 512 D) ≤ lenD D + 600 := by
        have h1 := recO_cost D
        have h4 := Z512_len
        unfold appO clrO
        simp [costs, AO.cost] at h1 ⊢
        omega
      have e2 : doAll ((appO 512 D).take (k - rdsN R 512)) ⟨R, R, []⟩ = ⟨appS (comS b 512 nu' D) 512 D, appS (comS b 512 nu' D) 512 D, []⟩ := by
        rw [List.take_of_length_le hal, app_state, s6.app]
      have hf3 := hf2
      rw [e2] at hf3
      rcases h3 with ⟨_, rfl⟩ | ⟨h3, _⟩
      · refine ⟨⟨_, rfl⟩, X2, f2, _, _, _, nu2, hf3, (show 1000001 ≤ k - rdsN R 512 - (appO 512 D).length by omega), by omega, hj2, hn2, hx2, app_fin g, ⟨?_, Or.inr (by rw [appS_get, if_pos (by omega)])⟩, hc2⟩
        exact (St.says g (app_none (b := b) (p := 512) (q := 15360) (nu := nu') (D := D)).1).2.2.1
      · exact absurd hle h3

/-- A file in memory with changes that begin. -/
theorem Fl.tst {w : World} {T J F : Nat} {X : Nat → Prop} {f : Fs} {S : List Int} {k n : Nat} {nu : Int} {p q : Nat} (h : Fl w X F f ⟨S, S, []⟩ k n) (hk : 1000001 ≤ k) (hn : n ≤ 40000) (hj : Jrn w J F p q nu) (hxJ : ¬ X J) (ht : Txs w T J (.map none) (.map none) (.slice none 0 0) false) (hxT : ¬ X T) (hjt : J ≠ T) :
    Tst w T J F X f S (.map none) (.map none) (fun _ => Z5) (fun _ => Z5) p q := by
  obtain ⟨R, hf, hR⟩ := h.has
  have hR0 : R = [] := by
    have := congrArg List.length hR
    simp at this
    exact this
  subst hR0
  have hb := h.bud
  have ho := h.ops
  have hw := h.wrote
  refine ⟨ht, ⟨Or.inl ⟨rfl, fun _ => rfl⟩, Or.inl ⟨rfl, fun _ => rfl⟩, fun _ => Z5_len, fun _ => Z5_len⟩, Or.inl ⟨rfl, rfl⟩, ⟨nu, hj⟩, hf, hxT, hxJ, fun r hr => (by rcases hr with h | h <;> cases h), hjt, ⟨hb.1, ?_⟩, ho.1, ⟨hw.1, by omega⟩, fun _ _ => rfl, fun q => Or.inl (z5_getQ _)⟩
  rcases hb.2 with h1 | h1
  · exact Or.inl h1.1
  · exact Or.inr (by omega)

theorem good120 : Hd.check ⟨9, 32768, 120, 29, false⟩ = 0 := by decide

set_option maxRecDepth 100000 in
set_option maxHeartbeats 8000000 in
theorem opened_any (w : World) (F : Nat) (X : Nat → Prop) (f : Fs) (k n : Nat) (R : List Int) (hF : Fl w X F f ⟨R, R, []⟩ k n) (hk : 1100000 ≤ k) (hn : n ≤ 100) {b : List Int} {D : List RD} {nu' : Int} (g : Giv b 512 15360 D) (h : St b 512 15360 nu' D R) :
    Calls Tryz.prog 8 #[.pointer (some ⟨F, 0, none⟩), .agg #[.int .i64 9, .int .i64 32768, .int .i64 120, .int .i64 29, .bool false]] w fun e w' => ∃ T A1 A2 J X' f' S', e = .returned (.tuple #[.pointer (some ⟨T, 0, none⟩), .pointer (some ⟨A1, 0, none⟩), .pointer (some ⟨A2, 0, none⟩), .bool true]) ∧
      Tst w' T J F X' f' S' (.map none) (.map none) (fun _ => Z5) (fun _ => Z5) (512 : Nat) (15360 : Nat) ∧ Rfs w' A1 T 120 ∧ Tab w' A2 T 32 ∧ Fin b 512 15360 D S' ∧ (Byts S' ∧ (S' = R ∨ S'.getD 512 0 = 0)) ∧ f'.ops ≤ 40000 ∧ (∀ i, X' i → X i ∨ w.heap.size ≤ i) ∧ (∀ i, X' i → i < w'.heap.size) ∧ (w.heap.size ≤ T ∧ w.heap.size ≤ A1 ∧ w.heap.size ≤ A2 ∧ w.heap.size ≤ J) ∧ (A1 ≠ T ∧ A2 ≠ T ∧ A1 ≠ A2) ∧ (¬ X' A1 ∧ ¬ X' A2) ∧ Chg X w w' := by
  have HF := hide hF
  have HG := hide (And.intro g h)
  have hql : 15360 ≤ R.length := (h.says g).1
  have HJa : ∀ u, Hid (Calls Tryz.prog 26 #[.agg #[.int .i64 9, .int .i64 32768, .int .i64 120, .int .i64 29, .bool false]] u fun e w' => e = .returned (.agg #[.int .i64 512, .int .i64 15360]) ∧ Below u.heap.size u w') := fun u => hide (journal9 120 u)
  have HFi : ∀ u, Hid (Calls Tryz.prog 5 #[.agg #[.int .i64 9, .int .i64 32768, .int .i64 120, .int .i64 29, .bool false]] u fun e w' => e = .returned (.int .i64 33) ∧ Below u.heap.size u w') := fun u => hide (first9 120 (by omega) (by omega) u)
  have HJn : ∀ u, Below w.heap.size w u → Hid (Calls Tryz.prog 25 #[.pointer (some ⟨F, 0, none⟩), .int .i64 512, .int .i64 14848] u fun e w' => ∃ J, e = .returned (.tuple #[.pointer (some ⟨J, 0, none⟩), .int .i64 0]) ∧ u.heap.size ≤ J ∧ Jrn w' J F (512 : Nat) (15360 : Nat) 0 ∧ Below u.heap.size u w') := fun u hu => hide (jnew_fl u X F f _ k n (HF.out.below hu) 512 14848 (by omega) (by omega) (by omega) (by show 512 + 14848 ≤ R.length; omega))
  have HX0 : Hid (Bx8 (w.alloc (.cells #[.int .i64 9, .int .i64 32768, .int .i64 120, .int .i64 29, .bool false] 25)) w.heap.size 120) := hide (heap_new9 w _)
  have HB0 := hide ((Below.refl w.heap.size w).alloc (Nat.le_refl _) (.cells #[.int .i64 9, .int .i64 32768, .int .i64 120, .int .i64 29, .bool false] 25))
  have hXl := hF.x
  have HXl := hide hXl
  clear hF g h hXl
  go_enter Tryz.func8, Tryz.ntmps8
  go_wp2_with fail
  generalize w.alloc (.cells #[.int .i64 9, .int .i64 32768, .int .i64 120, .int .i64 29, .bool false] 25) = w1 at *
  have HX := hide HX0.out.drew
  have HB := hide HB0.out.drew
  obtain ⟨x0, x1, x2, x3, x4⟩ : (fun u => u.cell? ⟨w.heap.size, 0, none⟩ = some (.int .i64 9) ∧ u.cell? ⟨w.heap.size, 1, none⟩ = some (.int .i64 32768) ∧ u.cell? ⟨w.heap.size, 2, none⟩ = some (.int .i64 120) ∧ u.cell? ⟨w.heap.size, 3, none⟩ = some (.int .i64 29) ∧ u.cell? ⟨w.heap.size, 4, none⟩ = some (.bool false)) w1.drew := HX.out.cell
  have hfl : ∀ u, (Instr.field 31 (.agg #[.int .i64 512, .int .i64 15360]) 0).run Tryz.prog u = .ok (.int .i64 512) u := fun _ => by kernel_rfl
  have hfl2 : ∀ u, (Instr.field 31 (.agg #[.int .i64 512, .int .i64 15360]) 1).run Tryz.prog u = .ok (.int .i64 15360) u := fun _ => by kernel_rfl
  go_region_held3 (fun u => u.cell? ⟨w.heap.size, 0, none⟩ = some (.int .i64 9) ∧ u.cell? ⟨w.heap.size, 1, none⟩ = some (.int .i64 32768) ∧ u.cell? ⟨w.heap.size, 2, none⟩ = some (.int .i64 120) ∧ u.cell? ⟨w.heap.size, 3, none⟩ = some (.int .i64 29) ∧ u.cell? ⟨w.heap.size, 4, none⟩ = some (.bool false)) (first | go_keep | exact HX.out.cell) (first
    | (go_at_call 26; refine ((HJa _).out).mono ?_; rintro e9 w2 ⟨rfl, hb2⟩; have HX := hide (HX.out.below hb2); have HB := hide (HB.out.trans (hb2.mono HB.out.size)); clear hb2)
    | (go_at_call 25; refine ((HJn _ HB.out).out).mono ?_; rintro e9 w3 ⟨J, rfl, hj, hjr, hb3⟩; have HJw := hide (Nat.le_trans HB.out.size hj); have HX := hide (HX.out.below hb3); have HB := hide (HB.out.trans (hb3.mono HB.out.size)); have HJr := hide hjr; clear hb3 hjr hj))
  have hXJ : ¬ X J := fun e => by
    have h1 := HXl.out J e
    have h2 := HJw.out
    omega
  have HRe := hide (replay_k w3 J F 0 X f k n R HJr.out (HF.out.below HB.out) hk hn hXJ HG.out.1 HG.out.2)
  have hw3 := HB.out.size
  clear x0 x1 x2 x3 x4 hfl hfl2
  go_wp2_with fail
  refine HRe.out.mono ?_
  rintro e9 w4 ⟨⟨cc, rfl⟩, X4, f4, k4, n4, S4, nu4, hf4, hk4, hn4, hj4, hxj4, hx4, hfin, hby, hc4⟩
  have hc04 : Chg X w w4 := (Chg.of_below HB.out).andThen hc4 (fun i hi e => e.elim id (fun e => by have := HJw.out; omega))
  have HC4 := hide hc04
  have HF4 := hide hf4
  have HJ4 := hide hj4
  have HX4 := hide hx4
  have HFin := hide (And.intro hfin hby)
  have HXJ4 := hide hxj4
  have HBx4 : Hid (Bx8 w4 w.heap.size 120) := hide ((hc4.block _ HX.out.lt (fun e => by
    rcases e with e | e
    · have := HXl.out _ e; omega
    · have h9 := HJr.out
      have h8 := HX.out
      unfold Jrn at h9
      unfold Bx8 at h8
      rw [e, h9] at h8
      cases h8)).trans HX.out)
  have HX4l := hide hf4.x
  have HBg := hide (begin_ok w4 J)
  have hs4 := hc4.size
  clear hc04 hf4 hj4 hx4 hfin hby hxj4 hc4 HRe HX HB
  go_wp2_with fail
  refine HBg.out.mono ?_
  rintro e9 w5 ⟨T, rfl, hT5, htx5, hb5⟩
  have HBx5 := hide (HBx4.out.below hb5)
  have HTx := hide htx5
  have HB5 := hide hb5
  have HRn := hide (rnew_any 9 32768 120 29 false T w5)
  rw [good120] at HRn
  obtain ⟨x0, x1, x2, x3, x4⟩ : (fun u : World => u.cell? ⟨w.heap.size, 0, none⟩ = some (.int .i64 9) ∧ u.cell? ⟨w.heap.size, 1, none⟩ = some (.int .i64 32768) ∧ u.cell? ⟨w.heap.size, 2, none⟩ = some (.int .i64 120) ∧ u.cell? ⟨w.heap.size, 3, none⟩ = some (.int .i64 29) ∧ u.cell? ⟨w.heap.size, 4, none⟩ = some (.bool false)) w5 := HBx5.out.cell
  have hs5 := hb5.size
  clear htx5 hb5 HBg
  go_wp2_with fail
  refine HRn.out.mono ?_
  rintro e9 w6 (⟨h0, _⟩ | ⟨_, A1, rfl, hA1, hrf, hb6⟩)
  · exact absurd rfl h0
  have HRf : Hid (Rfs w6 A1 T 120) := hide hrf
  have HBx6 := hide (HBx5.out.below hb6)
  have HB6 := hide (HB5.out.trans (hb6.mono HB5.out.size))
  have HB56 := hide hb6
  have HX := hide HBx6.out.drew
  have HB : Hid (Below w6.heap.size w6 w6.drew) := hide (Below.refl _ _).drew
  have hs6 := hb6.size
  clear x0 x1 x2 x3 x4 hb6 hrf HRn
  obtain ⟨x0, x1, x2, x3, x4⟩ : (fun u : World => u.cell? ⟨w.heap.size, 0, none⟩ = some (.int .i64 9) ∧ u.cell? ⟨w.heap.size, 1, none⟩ = some (.int .i64 32768) ∧ u.cell? ⟨w.heap.size, 2, none⟩ = some (.int .i64 120) ∧ u.cell? ⟨w.heap.size, 3, none⟩ = some (.int .i64 29) ∧ u.cell? ⟨w.heap.size, 4, none⟩ = some (.bool false)) w6.drew := HX.out.cell
  have HAt : ∀ u, Hid (Calls Tryz.prog 30 #[.agg #[.int .i64 9, .int .i64 32768, .int .i64 120, .int .i64 29, .bool false], .pointer (some ⟨T, 0, none⟩), .int .i64 32] u fun e w' => ∃ A, e = .returned (.tuple #[.pointer (some ⟨A, 0, none⟩), .int .i64 0]) ∧ u.heap.size ≤ A ∧ Tab w' A T 32 ∧ Below u.heap.size u w') := fun u => hide (at_ok T 32 (by omega) u)
  go_wp2_with fail
  go_region_held3 (fun u => u.cell? ⟨w.heap.size, 0, none⟩ = some (.int .i64 9) ∧ u.cell? ⟨w.heap.size, 1, none⟩ = some (.int .i64 32768) ∧ u.cell? ⟨w.heap.size, 2, none⟩ = some (.int .i64 120) ∧ u.cell? ⟨w.heap.size, 3, none⟩ = some (.int .i64 29) ∧ u.cell? ⟨w.heap.size, 4, none⟩ = some (.bool false)) (first | go_keep | exact HX.out.cell) (first
    | (go_at_call 5; refine ((HFi _).out).mono ?_; rintro e9 w7 ⟨rfl, hb7⟩; have HX := hide (HX.out.below hb7); have HB := hide (HB.out.trans (hb7.mono HB.out.size)); clear hb7)
    | (go_at_call 30; refine ((HAt _).out).mono ?_; rintro e9 w8 ⟨A2, rfl, hA2, hta, hb8⟩; have HA2 := hide (Nat.le_trans HB.out.size hA2); have HX := hide (HX.out.below hb8); have HB := hide (HB.out.trans (hb8.mono HB.out.size)); have HTa := hide hta; clear hb8 hta hA2))
  clear x0 x1 x2 x3 x4
  go_wp2_with fail
  go_returns
  have h4 := HJ4.out
  have hTl := HTx.out.lt
  have hA1l := HRf.out.lt
  have hJl := HJ4.out.lt
  have hJw := HJw.out
  have hA2 := HA2.out
  have hst : Tst w5 T J F X4 f4 S4 (.map none) (.map none) (fun _ => Z5) (fun _ => Z5) (512 : Nat) (15360 : Nat) := (HF4.out.below HB5.out).tst hk4 hn4 (HJ4.out.below HB5.out) HXJ4.out HTx.out (fun e => by have := HX4l.out T e; omega) (by omega)
  have hb58 : Below w5.heap.size w5 w8 := HB56.out.trans (HB.out.mono HB56.out.size)
  have hs8 := HB.out.size
  have hop := HF4.out.ops
  have hlt : ∀ i, X4 i → i < w4.heap.size := HX4l.out
  refine ⟨T, A1, A2, J, X4, f4, S4, rfl, hst.below hb58, HRf.out.below HB.out, HTa.out, HFin.out.1, HFin.out.2, by omega, fun i hi => (HX4.out i hi).imp id (fun e => by omega), fun i hi => by have := hlt i hi; omega, ⟨by omega, by omega, by omega, by omega⟩, ⟨by omega, by omega, by omega⟩, ⟨fun e => by have := hlt _ e; omega, fun e => by have := hlt _ e; omega⟩, HC4.out.trans ((Chg.of_below HB5.out).trans (Chg.of_below hb58))⟩
end Go.Proofs.YtibkhgmmjhlpmaaGreat.Oct
