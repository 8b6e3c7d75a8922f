/- Records are done, and the sign is taken away. -/
import Derived.Test.YtgmifbknmjdemaaGreatPJrj
namespace Go.Proofs.YtgmifbknmjdemaaGreat.Oct
open Go.RowKit Go.Deep

theorem recO_length (D : List RD) : (recO D).length = D.length := by simp [recO]

theorem cod_sub (l m k : Nat) (h : m ≤ k) : cod l (k - m) = cod (m + l) k := by
  unfold cod
  by_cases h2 : m + l ≤ k
  · rw [if_pos h2, if_pos (by omega)]
  · rw [if_neg h2, if_neg (by omega)]

theorem three {u : World} {J F p q G : Nat} {nu : Int} {x0 x1 : Value} (h : Jrn u J F p q nu) (hb : Blk u G #[x0, x1] 95) :
    u.cell? ⟨J, 0, none⟩ = some (.pointer (some ⟨F, 0, none⟩)) ∧ u.cell? ⟨G, 0, none⟩ = some x0 ∧ u.cell? ⟨G, 1, none⟩ = some x1 :=
  ⟨h.cells.1, hb.cell 0 _ rfl, hb.cell 1 _ rfl⟩

set_option maxHeartbeats 8000000 in
set_option maxRecDepth 100000 in
theorem apply_j (w : World) (J F p q : Nat) (nu : Int) (hJ : Jrn w J F p q nu) (hp : p + 1024 ≤ q) (hq : q ≤ 4194304) (X : Nat → Prop) (f : Fs) (A : A3) (k n : Nat) (h : Fl w X F f A k n) (hXJ : ¬ X J) (a : Option Addr) (cap : Nat) (R : List JR) (hR : LiesJ w a R) (hap : ApJ (fun i => X i ∨ i = J) a R)
    (hat : ∀ r ∈ R, 0 ≤ r.at_ ∧ r.at_ + r.b.length ≤ 4194304) (hn : R.length ≤ 1000000) (hlen : lenD (R.map JR.dat) ≤ 100000) (hnn : n ≤ 400000) :
    Calls Tryz.prog 30 #[.pointer (some ⟨J, 0, none⟩), .slice a R.length cap] w fun e w' => e = .returned (.int .i64 (cod (R.length + 3) k)) ∧ RanJ w w' J p q nu X F A k n (appO p (R.map JR.dat)) := by
  have HNo := hide (none_j w J F p q nu hJ (by omega))
  have HJ := hide hJ
  have HX := hide hXJ
  have HR := hide hR
  have HAp := hide hap
  have HAt := hide hat
  have HCo : Hid (∀ t, costs (recO ((R.map JR.dat).take t)) ≤ 100000) := hide (fun t => Nat.le_trans (recO_cost _) (Nat.le_trans (lenD_mono _ t) hlen))
  have HR0 : Hid (RanJ w w J p q nu X F A k n (recO ((R.map JR.dat).take 0))) := hide ((Ran.nil h).jrn hJ hXJ)
  clear hJ hXJ hR hap hat h
  go_enter Tryz.func30, Tryz.ntmps30
  go_wp2_with fail
  refine HNo.out.mono ?_
  rintro e9 w9 ⟨rfl, h9⟩
  rw [h9]
  clear h9 w9
  go_wp2_with fail
  go_loopw [13] (fun i wr => ∃ (t : Nat), t ≤ R.length ∧ t ≤ k ∧ i = .int .i64 (t : Int) ∧ RanJ w wr J p q nu X F A k n (recO ((R.map JR.dat).take t))) (fun i _ => R.length - (intOf i).toNat)
  case atStart => exact ⟨0, by omega, by omega, rfl, HR0.out⟩
  case round =>
    obtain ⟨t, htR, htk, rfl, hran⟩ := hrel
    have HRan := hide hran
    obtain ⟨X1, f1, h1, hx1, hc1, hj1, hn1⟩ := hran
    have hol : (recO ((R.map JR.dat).take t)).length = t := by rw [recO_length]; simp; omega
    have hRl := HR.out.chg hc1 HAp.out
    have HAp1 : Hid (ApJ (fun i => X1 i ∨ i = J) a R) := hide (HAp.out.more HR.out (fun q hq => by
      rcases hq with h | h
      · exact (hx1 q h).imp Or.inl id
      · exact Or.inl (Or.inr h)))
    have HF1 := hide h1
    have HJ1 := hide hj1
    have HX1 := hide hx1
    have HC1 := hide hc1
    have HN1 := hide hn1
    have HOl := hide hol
    have HRl := hide hRl
    clear h1 hx1 hc1 hj1 hn1 hol hRl
    by_cases hlt : t < R.length
    · rcases HRl.out with hE | ⟨b, off, rfl, hblt, hc⟩
      · rw [hE] at hlt; simp at hlt
      obtain ⟨r0, r1, r2⟩ := hc t hlt
      have hmem : R.getD t JR.z ∈ R := by
        have : R.getD t JR.z = R[t] := by simp [hlt]
        rw [this]
        exact List.getElem_mem _
      have hat9 := HAt.out _ hmem
      have HApb := hide (HAp1.out.bytes _ hmem)
      have HSt : Hid (recO ((R.map JR.dat).take (t + 1)) = recO ((R.map JR.dat).take t) ++ [.wr (R.getD t JR.z).at_.toNat (R.getD t JR.z).b]) := hide (by
        rw [recO_take _ t (by simpa using hlt) (JR.dat JR.z), JR.dats]
        rfl)
      have HSl := hide r2
      clear hc r2 hmem
      generalize hrr : R.getD t JR.z = r at *
      clear hrr
      obtain ⟨at9, ra, rc, rb⟩ := r
      simp only at *
      obtain ⟨z, rfl⟩ := Int.eq_ofNat_of_zero_le hat9.1
      have hbx := Blk.new wr #[.int .i64 (z : Int), .slice ra rb.length rc] 95
      have hbl : Below wr.heap.size wr (wr.alloc (.cells #[.int .i64 (z : Int), .slice ra rb.length rc] 95)) := (Below.refl _ _).alloc (Nat.le_refl _) _
      have HBx := hide hbx
      have HBl := hide hbl
      have hz2 : z + rb.length ≤ 4194304 := by have := hat9.2; omega
      rw [Int.toNat_natCast] at HSt
      have HWr : ∀ u, Below wr.heap.size wr u → Hid (Calls Tryz.prog 45 #[.pointer (some ⟨F, 0, none⟩), .int .i64 z, .slice ra rb.length rc] u fun e w' => e = .returned (.int .i64 (cod 1 (k - t))) ∧ RanJ w w' J p q nu X F A k n (recO ((R.map JR.dat).take (t + 1))) ∧ ∀ G cs ty, Blk u G cs ty → wr.heap.size ≤ G → Blk w' G cs ty) := fun u hu => hide (by
        have hw := write_fl u X1 F f1 _ _ _ (HF1.out.below hu) (by have := HCo.out t; omega) z ra rc rb (HSl.out.below hu).lies (fun hne x hx e => HApb.out hne x hx (Or.inl e)) hz2
        rw [HOl.out] at hw
        refine hw.mono ?_
        rintro e9 w10 ⟨rfl, hr⟩
        refine ⟨rfl, ?_, fun G cs ty hG hle => ?_⟩
        · rw [HSt.out]
          have hk9 := hr
          rw [← HOl.out] at hk9
          refine RanJ.more HF1.out HX1.out HC1.out HJ.out (RanJ.first hu (Ran.jrn ?_ (HJ1.out.below hu) HN1.out))
          rw [HOl.out]
          exact hr
        · obtain ⟨X2, f2, _, _, hc2⟩ := hr
          exact hG.chg hc2 (fun e => by have := HF1.out.x _ e; omega))
      clear hbx hbl hat9
      go_wp2_with fail
      generalize wr.alloc (.cells #[.int .i64 z, .slice ra rb.length rc] 95) = w2 at *
      have HJ2 := hide (show Jrn w2.drew J F p q nu from HJ1.out.below HBl.out.drew)
      have HX2 := hide HBx.out.drew
      have HB2 := hide HBl.out.drew
      obtain ⟨s0, s1, s2⟩ := three HJ2.out HX2.out
      go_wp2_with fail
      go_region_held3 (fun u => u.cell? ⟨J, 0, none⟩ = some (.pointer (some ⟨F, 0, none⟩)) ∧ u.cell? ⟨wr.heap.size, 0, none⟩ = some (.int .i64 (z : Int)) ∧ u.cell? ⟨wr.heap.size, 1, none⟩ = some (.slice ra rb.length rc)) (first | go_keep | exact HK.out) (first
        | (go_at_call 45; refine ((HWr _ HB2.out).out).mono ?_; rintro e9 w10 ⟨rfl, hr10, hk10⟩; have HK := hide (three hr10.jr (hk10 _ _ _ HX2.out (Nat.le_refl _))); have HR10 := hide hr10; clear hr10 hk10))
      all_goals
        by_cases hk1 : t + 1 ≤ k
        · rw [cod_ok (show 1 ≤ k - t by omega)]
          go_wp2_with fail
          exact ⟨⟨t + 1, by omega, hk1, by congr 1 <;> omega, HR10.out⟩, by simp [intOf]; omega⟩
        · rw [cod_no (show ¬ 1 ≤ k - t by omega)]
          have HFi : Hid (RanJ w w10 J p q nu X F A k n (appO p (R.map JR.dat))) := hide (by
            have := HR10.out.stop (by rw [recO_length]; simp; omega) (recO ((R.map JR.dat).drop (t + 1)) ++ ([.fl] ++ clrO p))
            rw [← List.append_assoc, show recO ((R.map JR.dat).take (t + 1)) ++ recO ((R.map JR.dat).drop (t + 1)) = recO (R.map JR.dat) by rw [recO, recO, recO, ← List.map_append, List.take_append_drop]] at this
            exact this)
          go_wp2_with fail
          go_ret
          refine ⟨?_, HFi.out⟩
          rw [cod_no (by omega)]
          rfl
    · obtain rfl : t = R.length := by omega
      have he : (R.map JR.dat).take R.length = R.map JR.dat := by rw [List.take_of_length_le (by simp)]
      rw [he] at HRan HF1 HOl
      have hcD := HCo.out R.length
      rw [he] at hcD
      have HFu := hide (flush_fl wr X1 F f1 _ _ _ HF1.out (by omega))
      rw [HOl.out] at HFu
      obtain ⟨c0, c1, c2, c3⟩ := HJ1.out.cells
      clear he
      go_wp2_with fail
      refine HFu.out.mono ?_
      rintro e9 w2 ⟨rfl, hr2⟩
      have hr2' : Ran wr w2 X1 F (doAll ((recO (R.map JR.dat)).take k) A) (k - (recO (R.map JR.dat)).length) (n + costs (recO (R.map JR.dat))) [.fl] := by rw [HOl.out]; exact hr2
      have hrj := RanJ.more HF1.out HX1.out HC1.out HJ.out (hr2'.jrn HJ1.out HN1.out)
      clear hr2 hr2' c0 c1 c2 c3
      by_cases hk1 : R.length + 1 ≤ k
      · rw [cod_ok (show 1 ≤ k - R.length by omega)]
        obtain ⟨X2, f2, h2, hx2, hc2, hj2, hn2⟩ := hrj
        have hol2 : (recO (R.map JR.dat) ++ [AO.fl]).length = R.length + 1 := by rw [List.length_append, HOl.out]; rfl
        have HCl := hide (clear_j w2 J F p q nu hj2 hp hq X2 f2 _ _ _ h2 hn2 (by rw [costs_append]; simp [costs, AO.cost] at hcD ⊢; omega))
        have HFi : Hid (∀ w', RanJ w2 w' J p q nu X2 F _ _ _ (clrO p) → RanJ w w' J p q nu X F A k n (appO p (R.map JR.dat))) := hide (fun w' hr => by
          have := RanJ.more h2 hx2 hc2 HJ.out hr
          rw [List.append_assoc] at this
          exact this)
        rw [hol2, cod_sub 2 (R.length + 1) k hk1] at HCl
        rw [hol2] at HFi
        clear h2 hx2 hc2 hj2 hn2
        go_wp2_with fail
        refine HCl.out.mono ?_
        rintro e9 w3 ⟨rfl, hr3⟩
        have HR3 := hide (HFi.out w3 hr3)
        clear hr3
        go_wp2_with fail
        go_ret
        exact ⟨rfl, HR3.out⟩
      · rw [cod_no (show ¬ 1 ≤ k - R.length by omega)]
        have HFi : Hid (RanJ w w2 J p q nu X F A k n (appO p (R.map JR.dat))) := hide (by
          have := hrj.stop (by rw [List.length_append, HOl.out]; exact hk1) (clrO p)
          rw [List.append_assoc] at this
          exact this)
        clear hrj
        go_wp2_with fail
        go_ret
        refine ⟨?_, HFi.out⟩
        rw [cod_no (by omega)]
        rfl
end Go.Proofs.YtgmifbknmjdemaaGreat.Oct
