/- The records of a body, if they count. -/
import Derived.Test.YtibkhgmmjhlpmaaGreatPJri
namespace Go.Proofs.YtibkhgmmjhlpmaaGreat.Oct
open Go.RowKit Go.Deep

def Z512 : List Int := List.replicate 512 0
theorem Z512_len : Z512.length = 512 := List.length_replicate

/-- The operations that take the sign away. -/
def clrO (p : Nat) : List AO := [.wr p Z512, .fl]

set_option maxHeartbeats 4000000 in
set_option maxRecDepth 100000 in
theorem clear_j (w : World) (J F p q : Nat) (nu : Int) (hJ : Jrn w J F p q nu) (hp : p + 1024 ≤ q) (hq : q ≤ 4194304) (X : Nat → Prop) (f : Fs) (A : A3) (k n : Nat) (h : Fl w X F f A k n) (hXJ : ¬ X J) (hnn : n ≤ 800000) :
    Calls Tryz.prog 78 #[.pointer (some ⟨J, 0, none⟩)] w fun e w' => e = .returned (.int .i64 (cod 2 k)) ∧ RanJ w w' J p q nu X F A k n (clrO p) := by
  have HNo := hide (none_j w J F p q nu hJ (by omega))
  have HJ := hide hJ
  have HX := hide hXJ
  have HFl := hide h
  have HSet : ∀ u g, Below w.heap.size w u → Own u w.heap.size (.slice (some ⟨g, 0, none⟩) 512 512) Z512 → Hid (Calls Tryz.prog 75 #[.pointer (some ⟨J, 0, none⟩), .int .i64 p, .slice (some ⟨g, 0, none⟩) 512 512] u fun e w' => e = .returned (.int .i64 (cod 2 k)) ∧ RanJ w w' J p q nu X F A k n (clrO p)) := fun u g hu ho => hide (by
    obtain ⟨a9, c9, e9, hL9, _, _, _, hg9⟩ := ho.form
    simp only [Value.slice.injEq] at e9
    obtain ⟨rfl, -, -⟩ := e9
    obtain ⟨g', hg', hgB, _⟩ := hg9 (fun e => by have := Z512_len; rw [e] at this; simp at this)
    cases hg'
    have hst := settle_j u J F p q nu (hJ.below hu) X f _ _ _ (h.below hu) hXJ p (some ⟨g, 0, none⟩) 512 _ hL9 (fun _ x hx e => by
      cases hx
      have := h.x _ e
      simp only at this
      omega) (by rw [Z512_len]; omega) (by rw [Z512_len]; omega)
    rw [Z512_len] at hst
    refine hst.mono ?_
    rintro e9 w10 ⟨rfl, hr⟩
    exact ⟨rfl, RanJ.first hu (hr.jrn (hJ.below hu) hXJ)⟩)
  obtain ⟨w1, hmk, ho1, hb1⟩ : ∃ w1, (Instr.makeSlice 29 (.int .i64 512) (.int .i64 512)).run Tryz.prog w.drew = .ok (.slice (some ⟨w.heap.size, 0, none⟩) 512 512) w1 ∧ Own w1 w.heap.size (.slice (some ⟨w.heap.size, 0, none⟩) 512 512) Z512 ∧ Below w.heap.size w w1 :=
    ⟨_, run_make_bytes w.drew 512 (by omega), Own.made w.drew 512 (by unfold maxLen; omega), (Below.refl w.heap.size w).drew.alloc (Nat.le_refl _) _⟩
  have HO1 := hide ho1
  have HB1 := hide hb1
  have d0 : w.drew.cell? ⟨J, 1, none⟩ = some (.int .i64 (p : Int)) := hJ.cells.2.1
  have d1 : w1.cell? ⟨J, 1, none⟩ = some (.int .i64 (p : Int)) := (hJ.below hb1).cells.2.1
  clear h hJ hXJ ho1 hb1
  go_enter Tryz.func78, Tryz.ntmps78
  go_wp2_with fail
  refine HNo.out.mono ?_
  rintro e9 w9 ⟨rfl, h9⟩
  rw [h9]
  clear h9 w9
  go_wp2_with fail
  go_region_held3 (fun u => u.cell? ⟨J, 1, none⟩ = some (.int .i64 (p : Int))) (first | go_keep | exact HK.out) (first
    | (go_at_call 75; refine ((HSet _ _ HB1.out HO1.out).out).mono ?_; rintro e9 w10 ⟨rfl, hr10⟩; have HK := hide hr10.jr.cells.2.1; have HR10 := hide hr10; clear hr10))
  all_goals
    go_wp2_with fail
    go_ret
    exact ⟨rfl, HR10.out⟩

/-- Where records and their bytes lie, apart from a file. -/
structure ApJ (X : Nat → Prop) (a : Option Addr) (R : List JR) : Prop where
  row : R ≠ [] → ∀ x, a = some x → ¬ X x.block
  bytes : ∀ r ∈ R, r.b ≠ [] → ∀ x, r.a = some x → ¬ X x.block

theorem LiesJ.chg {X : Nat → Prop} {w w' : World} {a : Option Addr} {R : List JR} (h : LiesJ w a R) (hc : Chg X w w') (hx : ApJ X a R) : LiesJ w' a R := by
  rcases h with rfl | ⟨b, off, rfl, hlt, hcc⟩
  · exact Or.inl rfl
  · by_cases hR : R = []
    · exact Or.inl hR
    have hb := hx.row hR _ rfl
    refine Or.inr ⟨b, off, rfl, Nat.lt_of_lt_of_le hlt hc.size, fun k hk => ⟨hc.cell (hcc k hk).1 hb, hc.cell (hcc k hk).2.1 hb, ?_⟩⟩
    have hs := (hcc k hk).2.2
    refine ⟨hs.le, hs.max, hs.none, ?_⟩
    by_cases hbn : (R.getD k JR.z).b = []
    · rw [hbn]; exact Lies.nil _ _
    · refine hs.lies.chg hc (fun x hx9 => hx.bytes _ ?_ hbn x hx9)
      have : R.getD k JR.z = R[k] := by simp [hk]
      rw [this]
      exact List.getElem_mem _

theorem ApJ.more {X X' : Nat → Prop} {w : World} {a : Option Addr} {R : List JR} (h : ApJ X a R) (hl : LiesJ w a R) (hx : ∀ q, X' q → X q ∨ w.heap.size ≤ q) : ApJ X' a R := by
  have hlt : ∀ b, b < w.heap.size → ¬ X b → ¬ X' b := fun b h1 h2 h3 => by
    rcases hx b h3 with h | h
    · exact h2 h
    · omega
  rcases hl with rfl | ⟨b, off, rfl, hb, hcc⟩
  · exact ⟨fun h => absurd rfl h, fun r hr => by cases hr⟩
  · refine ⟨fun hR x hx9 => ?_, fun r hr hne x hx9 => ?_⟩
    · cases hx9
      exact hlt b hb (h.row hR _ rfl)
    · obtain ⟨k, hk, rfl⟩ := List.mem_iff_getElem.1 hr
      have hs := (hcc k hk).2.2
      have e : R.getD k JR.z = R[k] := by simp [hk]
      rw [e] at hs
      refine hlt _ ?_ (h.bytes _ hr hne x hx9)
      rcases hs.lies with h0 | ⟨b', o', e', hb', _⟩
      · exact absurd h0 hne
      · rw [hx9] at e'
        cases e'
        exact hb'

/-- The writes that records are. -/
def recO (D : List RD) : List AO := D.map (fun r => .wr r.1.toNat r.2)
/-- The operations of an apply. -/
def appO (p : Nat) (D : List RD) : List AO := recO D ++ ([.fl] ++ clrO p)

theorem recO_take (D : List RD) (k : Nat) (hk : k < D.length) (z : RD) : recO (D.take (k + 1)) = recO (D.take k) ++ [.wr (D.getD k z).1.toNat (D.getD k z).2] := by
  rw [take_get D k hk z]
  simp [recO]

theorem recO_cost (D : List RD) : costs (recO D) ≤ lenD D := by
  induction D with
  | nil => simp [recO, costs]
  | cons r D ih =>
    simp only [recO, costs, lenD, List.map_cons, List.sum_cons, AO.cost] at *
    omega
end Go.Proofs.YtibkhgmmjhlpmaaGreat.Oct

namespace Go.Proofs.YtibkhgmmjhlpmaaGreat.Oct
open Go.RowKit Go.Deep

theorem recO_length (D : List RD) : (recO D).length = D.length := by simp [recO]

theorem cod_sub (l m k : Nat) (h : m ≤ k) : cod l (k - m) = cod (m + l) k := by
  unfold cod
  by_cases h2 : m + l ≤ k
  · rw [if_pos h2, if_pos (by omega)]
  · rw [if_neg h2, if_neg (by omega)]

theorem three {u : World} {J F p q G : Nat} {nu : Int} {x0 x1 : Value} (h : Jrn u J F p q nu) (hb : Blk u G #[x0, x1] 125) :
    u.cell? ⟨J, 0, none⟩ = some (.pointer (some ⟨F, 0, none⟩)) ∧ u.cell? ⟨G, 0, none⟩ = some x0 ∧ u.cell? ⟨G, 1, none⟩ = some x1 :=
  ⟨h.cells.1, hb.cell 0 _ rfl, hb.cell 1 _ rfl⟩

set_option maxHeartbeats 8000000 in
set_option maxRecDepth 100000 in
theorem apply_j (w : World) (J F p q : Nat) (nu : Int) (hJ : Jrn w J F p q nu) (hp : p + 1024 ≤ q) (hq : q ≤ 4194304) (X : Nat → Prop) (f : Fs) (A : A3) (k n : Nat) (h : Fl w X F f A k n) (hXJ : ¬ X J) (a : Option Addr) (cap : Nat) (R : List JR) (hR : LiesJ w a R) (hap : ApJ (fun i => X i ∨ i = J) a R)
    (hat : ∀ r ∈ R, 0 ≤ r.at_ ∧ r.at_ + r.b.length ≤ 4194304) (hn : R.length ≤ 1000000) (hlen : lenD (R.map JR.dat) ≤ 100000) (hnn : n ≤ 400000) :
    Calls Tryz.prog 45 #[.pointer (some ⟨J, 0, none⟩), .slice a R.length cap] w fun e w' => e = .returned (.int .i64 (cod (R.length + 3) k)) ∧ RanJ w w' J p q nu X F A k n (appO p (R.map JR.dat)) := by
  have HNo := hide (none_j w J F p q nu hJ (by omega))
  have HJ := hide hJ
  have HX := hide hXJ
  have HR := hide hR
  have HAp := hide hap
  have HAt := hide hat
  have HCo : Hid (∀ t, costs (recO ((R.map JR.dat).take t)) ≤ 100000) := hide (fun t => Nat.le_trans (recO_cost _) (Nat.le_trans (lenD_mono _ t) hlen))
  have HR0 : Hid (RanJ w w J p q nu X F A k n (recO ((R.map JR.dat).take 0))) := hide ((Ran.nil h).jrn hJ hXJ)
  clear hJ hXJ hR hap hat h
  go_enter Tryz.func45, Tryz.ntmps45
  go_wp2_with fail
  refine HNo.out.mono ?_
  rintro e9 w9 ⟨rfl, h9⟩
  rw [h9]
  clear h9 w9
  go_wp2_with fail
  go_loopw [13] (fun i wr => ∃ (t : Nat), t ≤ R.length ∧ t ≤ k ∧ i = .int .i64 (t : Int) ∧ RanJ w wr J p q nu X F A k n (recO ((R.map JR.dat).take t))) (fun i _ => R.length - (intOf i).toNat)
  case atStart => exact ⟨0, by omega, by omega, rfl, HR0.out⟩
  case round =>
    obtain ⟨t, htR, htk, rfl, hran⟩ := hrel
    have HRan := hide hran
    obtain ⟨X1, f1, h1, hx1, hc1, hj1, hn1⟩ := hran
    have hol : (recO ((R.map JR.dat).take t)).length = t := by rw [recO_length]; simp; omega
    have hRl := HR.out.chg hc1 HAp.out
    have HAp1 : Hid (ApJ (fun i => X1 i ∨ i = J) a R) := hide (HAp.out.more HR.out (fun q hq => by
      rcases hq with h | h
      · exact (hx1 q h).imp Or.inl id
      · exact Or.inl (Or.inr h)))
    have HF1 := hide h1
    have HJ1 := hide hj1
    have HX1 := hide hx1
    have HC1 := hide hc1
    have HN1 := hide hn1
    have HOl := hide hol
    have HRl := hide hRl
    clear h1 hx1 hc1 hj1 hn1 hol hRl
    by_cases hlt : t < R.length
    · rcases HRl.out with hE | ⟨b, off, rfl, hblt, hc⟩
      · rw [hE] at hlt; simp at hlt
      obtain ⟨r0, r1, r2⟩ := hc t hlt
      have hmem : R.getD t JR.z ∈ R := by
        have : R.getD t JR.z = R[t] := by simp [hlt]
        rw [this]
        exact List.getElem_mem _
      have hat9 := HAt.out _ hmem
      have HApb := hide (HAp1.out.bytes _ hmem)
      have HSt : Hid (recO ((R.map JR.dat).take (t + 1)) = recO ((R.map JR.dat).take t) ++ [.wr (R.getD t JR.z).at_.toNat (R.getD t JR.z).b]) := hide (by
        rw [recO_take _ t (by simpa using hlt) (JR.dat JR.z), JR.dats]
        rfl)
      have HSl := hide r2
      clear hc r2 hmem
      generalize hrr : R.getD t JR.z = r at *
      clear hrr
      obtain ⟨at9, ra, rc, rb⟩ := r
      simp only at *
      obtain ⟨z, rfl⟩ := Int.eq_ofNat_of_zero_le hat9.1
      have hbx := Blk.new wr #[.int .i64 (z : Int), .slice ra rb.length rc] 125
      have hbl : Below wr.heap.size wr (wr.alloc (.cells #[.int .i64 (z : Int), .slice ra rb.length rc] 125)) := (Below.refl _ _).alloc (Nat.le_refl _) _
      have HBx := hide hbx
      have HBl := hide hbl
      have hz2 : z + rb.length ≤ 4194304 := by have := hat9.2; omega
      rw [Int.toNat_natCast] at HSt
      have HWr : ∀ u, Below wr.heap.size wr u → Hid (Calls Tryz.prog 70 #[.pointer (some ⟨F, 0, none⟩), .int .i64 z, .slice ra rb.length rc] u fun e w' => e = .returned (.int .i64 (cod 1 (k - t))) ∧ RanJ w w' J p q nu X F A k n (recO ((R.map JR.dat).take (t + 1))) ∧ ∀ G cs ty, Blk u G cs ty → wr.heap.size ≤ G → Blk w' G cs ty) := fun u hu => hide (by
        have hw := write_fl u X1 F f1 _ _ _ (HF1.out.below hu) (by have := HCo.out t; omega) z ra rc rb (HSl.out.below hu).lies (fun hne x hx e => HApb.out hne x hx (Or.inl e)) hz2
        rw [HOl.out] at hw
        refine hw.mono ?_
        rintro e9 w10 ⟨rfl, hr⟩
        refine ⟨rfl, ?_, fun G cs ty hG hle => ?_⟩
        · rw [HSt.out]
          have hk9 := hr
          rw [← HOl.out] at hk9
          refine RanJ.more HF1.out HX1.out HC1.out HJ.out (RanJ.first hu (Ran.jrn ?_ (HJ1.out.below hu) HN1.out))
          rw [HOl.out]
          exact hr
        · obtain ⟨X2, f2, _, _, hc2⟩ := hr
          exact hG.chg hc2 (fun e => by have := HF1.out.x _ e; omega))
      clear hbx hbl hat9
      go_wp2_with fail
      generalize wr.alloc (.cells #[.int .i64 z, .slice ra rb.length rc] 125) = w2 at *
      have HJ2 := hide (show Jrn w2.drew J F p q nu from HJ1.out.below HBl.out.drew)
      have HX2 := hide HBx.out.drew
      have HB2 := hide HBl.out.drew
      obtain ⟨s0, s1, s2⟩ := three HJ2.out HX2.out
      go_wp2_with fail
      go_region_held3 (fun u => u.cell? ⟨J, 0, none⟩ = some (.pointer (some ⟨F, 0, none⟩)) ∧ u.cell? ⟨wr.heap.size, 0, none⟩ = some (.int .i64 (z : Int)) ∧ u.cell? ⟨wr.heap.size, 1, none⟩ = some (.slice ra rb.length rc)) (first | go_keep | exact HK.out) (first
        | (go_at_call 70; refine ((HWr _ HB2.out).out).mono ?_; rintro e9 w10 ⟨rfl, hr10, hk10⟩; have HK := hide (three hr10.jr (hk10 _ _ _ HX2.out (Nat.le_refl _))); have HR10 := hide hr10; clear hr10 hk10))
      all_goals
        by_cases hk1 : t + 1 ≤ k
        · rw [cod_ok (show 1 ≤ k - t by omega)]
          go_wp2_with fail
          exact ⟨⟨t + 1, by omega, hk1, by congr 1 <;> omega, HR10.out⟩, by simp [intOf]; omega⟩
        · rw [cod_no (show ¬ 1 ≤ k - t by omega)]
          have HFi : Hid (RanJ w w10 J p q nu X F A k n (appO p (R.map JR.dat))) := hide (by
            have := HR10.out.stop (by rw [recO_length]; simp; omega) (recO ((R.map JR.dat).drop (t + 1)) ++ ([.fl] ++ clrO p))
            rw [← List.append_assoc, show recO ((R.map JR.dat).take (t + 1)) ++ recO ((R.map JR.dat).drop (t + 1)) = recO (R.map JR.dat) by rw [recO, recO, recO, ← List.map_append, List.take_append_drop]] at this
            exact this)
          go_wp2_with fail
          go_ret
          refine ⟨?_, HFi.out⟩
          rw [cod_no (by omega)]
          rfl
    · obtain rfl : t = R.length := by omega
      have he : (R.map JR.dat).take R.length = R.map JR.dat := by rw [List.take_of_length_le (by simp)]
      rw [he] at HRan HF1 HOl
      have hcD := HCo.out R.length
      rw [he] at hcD
      have HFu := hide (flush_fl wr X1 F f1 _ _ _ HF1.out (by omega))
      rw [HOl.out] at HFu
      obtain ⟨c0, c1, c2, c3⟩ := HJ1.out.cells
      clear he
      go_wp2_with fail
      refine HFu.out.mono ?_
      rintro e9 w2 ⟨rfl, hr2⟩
      have hr2' : Ran wr w2 X1 F (doAll ((recO (R.map JR.dat)).take k) A) (k - (recO (R.map JR.dat)).length) (n + costs (recO (R.map JR.dat))) [.fl] := by rw [HOl.out]; exact hr2
      have hrj := RanJ.more HF1.out HX1.out HC1.out HJ.out (hr2'.jrn HJ1.out HN1.out)
      clear hr2 hr2' c0 c1 c2 c3
      by_cases hk1 : R.length + 1 ≤ k
      · rw [cod_ok (show 1 ≤ k - R.length by omega)]
        obtain ⟨X2, f2, h2, hx2, hc2, hj2, hn2⟩ := hrj
        have hol2 : (recO (R.map JR.dat) ++ [AO.fl]).length = R.length + 1 := by rw [List.length_append, HOl.out]; rfl
        have HCl := hide (clear_j w2 J F p q nu hj2 hp hq X2 f2 _ _ _ h2 hn2 (by rw [costs_append]; simp [costs, AO.cost] at hcD ⊢; omega))
        have HFi : Hid (∀ w', RanJ w2 w' J p q nu X2 F _ _ _ (clrO p) → RanJ w w' J p q nu X F A k n (appO p (R.map JR.dat))) := hide (fun w' hr => by
          have := RanJ.more h2 hx2 hc2 HJ.out hr
          rw [List.append_assoc] at this
          exact this)
        rw [hol2, cod_sub 2 (R.length + 1) k hk1] at HCl
        rw [hol2] at HFi
        clear h2 hx2 hc2 hj2 hn2
        go_wp2_with fail
        refine HCl.out.mono ?_
        rintro e9 w3 ⟨rfl, hr3⟩
        have HR3 := hide (HFi.out w3 hr3)
        clear hr3
        go_wp2_with fail
        go_ret
        exact ⟨rfl, HR3.out⟩
      · rw [cod_no (show ¬ 1 ≤ k - R.length by omega)]
        have HFi : Hid (RanJ w w2 J p q nu X F A k n (appO p (R.map JR.dat))) := hide (by
          have := hrj.stop (by rw [List.length_append, HOl.out]; exact hk1) (clrO p)
          rw [List.append_assoc] at this
          exact this)
        clear hrj
        go_wp2_with fail
        go_ret
        refine ⟨?_, HFi.out⟩
        rw [cod_no (by omega)]
        rfl
end Go.Proofs.YtibkhgmmjhlpmaaGreat.Oct

namespace Go.Proofs.YtibkhgmmjhlpmaaGreat.Oct
open Go.RowKit Go.Deep

/-- No record is barred, and there is one. -/
def okD (p q : Nat) (D : List RD) : Bool := !D.isEmpty && !(D.any (fun r => barB p q r.1 r.2.length))

/-- The records of a body, by what a sign says of it. -/
def cntD (p q : Nat) (c s : Int) (l : List Int) : Option (List RD) :=
  if (moreC 0 l : Int) = s then (match decD l c with | some D => if okD p q D = true then some D else none | none => none) else none

theorem anyB_dat (p q : Nat) (R : List JR) : (R.map JR.dat).any (fun r => barB p q r.1 r.2.length) = anyB p q R := by
  unfold anyB
  rw [List.any_map]
  rfl

theorem decO_small {l : List Int} {p : Nat} {r : RD} (hb : Byts l) (h : decO l p = some r) : 0 ≤ r.1 ∧ r.1 ≤ 4194304 ∧ r.2.length ≤ l.length := by
  have he := decO_end h
  unfold decO at h
  split at h
  · rename_i hc
    simp at h
    have := (num_lt l p hb 8).1
    subst h
    simp only at *
    omega
  · cases h

theorem decM_small {l : List Int} (hb : Byts l) : ∀ {k : Nat} {D : List RD} {p : Nat}, decM l k = some (D, p) → ∀ r ∈ D, 0 ≤ r.1 ∧ r.1 ≤ 4194304 ∧ r.2.length ≤ l.length
  | 0, D, p, h => by
    simp [decM] at h
    obtain ⟨rfl, rfl⟩ := h
    intro r hr
    cases hr
  | k + 1, D, p, h => by
    rw [decM] at h
    split at h
    · cases h
    · rename_i D' p' hm
      split at h
      · cases h
      · rename_i r hr
        simp at h
        obtain ⟨rfl, rfl⟩ := h
        intro x hx
        rcases List.mem_append.1 hx with hx | hx
        · exact decM_small hb hm x hx
        · simp at hx
          subst hx
          exact decO_small hb hr

theorem decD_small' {l : List Int} (hb : Byts l) {c : Int} {D : List RD} (h : decD l c = some D) : (D.length : Int) ≤ max c 0 ∧ D.length ≤ l.length ∧ ∀ r ∈ D, 0 ≤ r.1 ∧ r.1 ≤ 4194304 ∧ r.2.length ≤ l.length := by
  unfold decD at h
  split at h
  · cases h
  · split at h
    · cases h
    · rename_i D' p' hm
      split at h
      · simp at h
        subst h
        have := (decM_end hm).2
        exact ⟨by omega, by omega, decM_small hb hm⟩
      · cases h

set_option maxHeartbeats 8000000 in
set_option maxRecDepth 100000 in
theorem counting_j (w : World) (J F p q : Nat) (nu : Int) (hJ : Jrn w J F p q nu) (hq : q ≤ 4194304) (nn : Int) (c : Nat) (m s : Int) (hc : c < 4294967296) (a : Option Addr) (cap : Nat) (l : List Int) (hlen : l.length ≤ 1000000) (hb : Byts l) (hs : Sl w a cap l) :
    Calls Tryz.prog 83 #[.pointer (some ⟨J, 0, none⟩), .agg #[.int .u64 nn, .int .u32 c, .int .u32 m, .int .u32 s], .slice a l.length cap] w fun e w' => Below w.heap.size w w' ∧
      ((cntD p q c s l = none ∧ e = .returned (.tuple #[.slice none 0 0, .bool false])) ∨
       (∃ R v, cntD p q c s l = some (R.map JR.dat) ∧ e = .returned (.tuple #[v, .bool true]) ∧ OwnK w' w.heap.size v R)) := by
  have hbx := Blk.new w #[.int .u64 nn, .int .u32 c, .int .u32 m, .int .u32 s] 133
  have hbl : Below w.heap.size w (w.alloc (.cells #[.int .u64 nn, .int .u32 c, .int .u32 m, .int .u32 s] 133)) := (Below.refl _ _).alloc (Nat.le_refl _) _
  have hsz : w.heap.size < (w.alloc (.cells #[.int .u64 nn, .int .u32 c, .int .u32 m, .int .u32 s] 133)).heap.size := by simp
  have HBx := hide hbx
  have HBl := hide hbl
  have HJ := hide hJ
  have HS := hide hs
  have HBy := hide hb
  have HDe := fun u (hu : Sl u a cap l) => hide (Decode_nat a cap l c u hlen hb hu (by omega))
  clear hJ hs hb hbx hbl
  go_enter Tryz.func83, Tryz.ntmps83
  go_wp2_with fail
  generalize w.alloc (.cells #[.int .u64 nn, .int .u32 c, .int .u32 m, .int .u32 s] 133) = w1 at *
  have HS1 : Hid (Calls Tryz.prog 76 #[.slice (some ⟨w1.heap.size, 0, none⟩) 1 1] (w1.alloc (.cells #[.slice a l.length cap] 29)).drew fun e w' => e = .returned (.int .u32 (moreC 0 l)) ∧ w' = (w1.alloc (.cells #[.slice a l.length cap] 29)).drew) := hide (by
    have := Sum_any (some ⟨w1.heap.size, 0, none⟩) 1 [l] (w1.alloc (.cells #[.slice a l.length cap] 29)).drew (by unfold maxLen; simp) (fun r => by
      match r with
      | 0 => simp; unfold maxLen; omega
      | r + 1 => simp) (fun r => by
      match r with
      | 0 => simpa using HBy.out
      | r + 1 => intro k; simp) (Or.inr ⟨w1.heap.size, 0, rfl, by simp, fun r hr => by
        have : r = 0 := by simpa using hr
        subst this
        exact ⟨a, cap, by simp, by simpa using ((HS.out.below HBl.out).below ((Below.refl _ _).alloc (Nat.le_refl _) (.cells #[.slice a l.length cap] 29)).drew)⟩⟩)
    simpa using this)
  have d0 : w1.drew.cell? ⟨w.heap.size, 3, none⟩ = some (.int .u32 s) := HBx.out.cell 3 _ rfl
  have d1 : (w1.alloc (.cells #[.slice a l.length cap] 29)).drew.cell? ⟨w.heap.size, 3, none⟩ = some (.int .u32 s) := (HBx.out.below ((Below.refl _ _).alloc (Nat.le_refl _) (.cells #[.slice a l.length cap] 29))).drew.cell 3 _ rfl
  have HB2 : Hid (Below w.heap.size w (w1.alloc (.cells #[.slice a l.length cap] 29)).drew) := hide (HBl.out.alloc HBl.out.size _).drew
  have HX2 := hide (HBx.out.below ((Below.refl _ _).alloc (Nat.le_refl _) (.cells #[.slice a l.length cap] 29))).drew
  go_wp2_with fail
  go_region_held3 (fun u => u.cell? ⟨w.heap.size, 3, none⟩ = some (.int .u32 s)) (go_keep) (first
    | (go_at_call 76; refine HS1.out.mono ?_; rintro e9 w7 ⟨rfl, rfl⟩))
  generalize (w1.alloc (.cells #[.slice a l.length cap] 29)).drew = w2 at *
  clear d0 d1 HS1
  obtain ⟨x0, x1, x2, x3⟩ : w2.cell? ⟨w.heap.size, 0, none⟩ = some (.int .u64 nn) ∧ w2.cell? ⟨w.heap.size, 1, none⟩ = some (.int .u32 c) ∧ w2.cell? ⟨w.heap.size, 2, none⟩ = some (.int .u32 m) ∧ w2.cell? ⟨w.heap.size, 3, none⟩ = some (.int .u32 s) := ⟨HX2.out.cell 0 _ rfl, HX2.out.cell 1 _ rfl, HX2.out.cell 2 _ rfl, HX2.out.cell 3 _ rfl⟩
  by_cases hsum : ((moreC 0 l : Nat) : Int) = s
  rotate_left
  · have HNo : Hid (cntD p q c s l = none) := hide (if_neg hsum)
    have hne : (((moreC 0 l : Nat) : Int) != s) = true := by simp [hsum]
    have HSm := hide hsum
    clear hsum
    go_wp2_with fail
    go_ret2
    exact ⟨HB2.out, Or.inl ⟨HNo.out, rfl⟩⟩
  have hne : (((moreC 0 l : Nat) : Int) != s) = false := by simp [hsum]
  have HCn : Hid (cntD p q c s l = match decD l c with | some D => if okD p q D = true then some D else none | none => none) := hide (if_pos hsum)
  have hwc : wrap64 (c : Int) = c := by unfold wrap64; omega
  clear hsum
  have HD2 := hide ((HDe w2 (HS.out.below HB2.out)).out)
  go_wp2_with fail
  refine HD2.out.mono ?_
  rintro e9 w3 ⟨hb3, ⟨hno, rfl⟩ | ⟨R, v, hyes, rfl, hown⟩⟩
  · have HNo : Hid (cntD p q c s l = none) := hide (by rw [HCn.out, hno])
    have HB3 := hide (HB2.out.trans (hb3.mono HB2.out.size))
    clear hb3 hno
    go_wp2_with fail
    go_ret2
    exact ⟨HB3.out, Or.inl ⟨HNo.out, rfl⟩⟩
  · have HB3 := hide (HB2.out.trans (hb3.mono HB2.out.size))
    have HCn2 : Hid (cntD p q c s l = if okD p q (R.map JR.dat) = true then some (R.map JR.dat) else none) := hide (by rw [HCn.out, hyes])
    have HOw : Hid (OwnK w3 w.heap.size v R) := hide ⟨⟨hown.row.1, (hown.row.2).imp id (fun ⟨g, cap, cur, h1, h2, h3⟩ => ⟨g, cap, cur, h1, Nat.le_trans HB2.out.size h2, h3⟩)⟩, fun r hr => ⟨(hown.far r hr).1, fun hne => by
      obtain ⟨g, h1, h2, h3⟩ := (hown.far r hr).2 hne
      exact ⟨g, h1, Nat.le_trans HB2.out.size h2, h3⟩⟩⟩
    have HYes := hide hyes
    obtain ⟨av, cv, rfl, hlv, hcv1, hcv2, _⟩ := HOw.out.form
    have hDl : (R.map JR.dat).length ≤ l.length ∧ ∀ r ∈ R.map JR.dat, 0 ≤ r.1 ∧ r.1 ≤ 4194304 ∧ r.2.length ≤ l.length := (decD_small' HBy.out hyes).2
    have HCt := hide (contains_j w3 J F p q nu (HJ.out.below HB3.out) hq av cv R hlv (fun r hr => by
      have := hDl.2 r.dat (List.mem_map_of_mem hr)
      simp only [JR.dat] at this
      omega) (by have := hDl.1; simp at this; omega) (fun r hr => by
      have := hDl.2 r.dat (List.mem_map_of_mem hr)
      simp only [JR.dat] at this
      unfold maxLen
      omega))
    have HOk : Hid (okD p q (R.map JR.dat) = (!(R.map JR.dat).isEmpty && !anyB p q R)) := hide (by unfold okD; rw [anyB_dat])
    clear hb3 hown hyes hlv
    by_cases hR0 : R.length = 0
    · have HNo : Hid (cntD p q c s l = none) := hide (by
        rw [HCn2.out, HOk.out, if_neg]
        have : R = [] := List.length_eq_zero_iff.1 hR0
        subst this
        simp)
      rw [hR0]
      go_wp2_with fail
      go_ret2
      exact ⟨HB3.out, Or.inl ⟨HNo.out, rfl⟩⟩
    · have hR1 : ((R.length : Int) == 0) = false := by simp; intro e; exact hR0 (by rw [e]; rfl)
      have hR2 : ¬ ((R.length : Int) = 0) := by omega
      go_wp2_with fail
      refine HCt.out.mono ?_
      rintro e9 w4 ⟨rfl, hb4⟩
      have HB4 := hide (HB3.out.trans (hb4.mono HB3.out.size))
      have HOw4 := hide (HOw.out.below hb4)
      clear hb4
      cases hab : anyB p q R with
      | true =>
        have HNo : Hid (cntD p q c s l = none) := hide (by rw [HCn2.out, HOk.out, hab, if_neg (by simp)])
        go_wp2_with fail
        go_ret2
        exact ⟨HB4.out, Or.inl ⟨HNo.out, rfl⟩⟩
      | false =>
        have HYs : Hid (cntD p q c s l = some (R.map JR.dat)) := hide (by
          rw [HCn2.out, HOk.out, hab, if_pos]
          have : R ≠ [] := fun e => hR0 (by rw [e]; rfl)
          simpa using this)
        go_wp2_with fail
        go_ret2
        exact ⟨HB4.out, Or.inr ⟨R, _, HYs.out, rfl, HOw4.out⟩⟩
end Go.Proofs.YtibkhgmmjhlpmaaGreat.Oct
