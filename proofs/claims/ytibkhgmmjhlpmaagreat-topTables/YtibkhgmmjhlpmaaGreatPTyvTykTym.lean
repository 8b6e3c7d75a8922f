/- A journal over bytes; the small example of layer 6. -/
import Derived.Test.YtibkhgmmjhlpmaaGreatPTyj
import Derived.Test.YtibkhgmmjhlpmaaGreatPJroJpdJrp
import Derived.Lib.SlBytesConst
namespace Go.Proofs.YtibkhgmmjhlpmaaGreat.Oct
open Go.RowKit Go.Deep Go.Sort

theorem four_t {u : World} {T J F G : Nat} {p q : Nat} {nu : Int} {vb vm va : Value} {d : Bool} {x0 x1 : Value} (ht : Txs u T J vb vm va d) (h : Jrn u J F p q nu) (hb : Blk u G #[x0, x1] 125) :
    u.cell? ⟨T, 0, none⟩ = some (.pointer (some ⟨J, 0, none⟩)) ∧ u.cell? ⟨J, 0, none⟩ = some (.pointer (some ⟨F, 0, none⟩)) ∧ u.cell? ⟨G, 0, none⟩ = some x0 ∧ u.cell? ⟨G, 1, none⟩ = some x1 :=
  ⟨ht.cell.1, h.cell0, hb.cell 0 _ rfl, hb.cell 1 _ rfl⟩

set_option maxHeartbeats 8000000 in
set_option maxRecDepth 100000 in
theorem ahead_any (w : World) (T J F p q : Nat) (nu : Int) (vb vm va : Value) (d : Bool) (ht : Txs w T J vb vm va d) (hJ : Jrn w J F p q nu) (X : Nat → Prop) (f : Fs) (A : A3) (k n : Nat) (h : Fl w X F f A k n) (hXT : ¬ X T) (hXJ : ¬ X J) (a : Option Addr) (cap : Nat) (R : List JR) (hR : LiesJ w a R) (hap : ApJ X a R) (hR0 : 0 < R.length)
    (hat : ∀ r ∈ R, 0 ≤ r.at_ ∧ r.at_ + r.b.length ≤ 4194304) (hn : R.length ≤ 1000000) (hlen : lenD (R.map JR.dat) ≤ 100000) (hnn : n ≤ 400000) :
    Calls Tryz.prog 43 #[.pointer (some ⟨T, 0, none⟩), .slice a R.length cap] w fun e w' => e = .returned (.int .i64 (cod (R.length + 1) k)) ∧ Ran w w' X F A k n (recO (R.map JR.dat) ++ [.fl]) := by
  have HT := hide ht
  have HJ := hide hJ
  have HXT := hide hXT
  have HXJ := hide hXJ
  have HR := hide hR
  have HAp := hide hap
  have HAt := hide hat
  have HCo : Hid (∀ t, costs (recO ((R.map JR.dat).take t)) ≤ 100000) := hide (fun t => Nat.le_trans (recO_cost _) (Nat.le_trans (lenD_mono _ t) hlen))
  have HR0 : Hid (Ran w w X F A k n (recO ((R.map JR.dat).take 0))) := hide (Ran.nil h)
  have hl1 : ¬ ((R.length : Int) = 0) := by omega
  have hl2 : ((R.length : Int) == 0) = false := by simpa using hl1
  clear hJ hXJ hXT hR hap hat h ht
  go_enter Tryz.func43, Tryz.ntmps43
  go_wp2_with fail
  go_loopw [13] (fun i wr => ∃ (t : Nat), t ≤ R.length ∧ t ≤ k ∧ i = .int .i64 (t : Int) ∧ Ran w wr X F A k n (recO ((R.map JR.dat).take t))) (fun i _ => R.length - (intOf i).toNat)
  case atStart => exact ⟨0, by omega, by omega, rfl, HR0.out⟩
  case round =>
    obtain ⟨t, htR, htk, rfl, hran⟩ := hrel
    have HRan := hide hran
    obtain ⟨X1, f1, h1, hx1, hc1⟩ := hran
    have hol : (recO ((R.map JR.dat).take t)).length = t := by rw [recO_length]; simp; omega
    have hRl := HR.out.chg hc1 HAp.out
    have HAp1 : Hid (ApJ X1 a R) := hide (HAp.out.more HR.out hx1)
    have HT1 : Hid (Txs wr T J vb vm va d) := hide ((hc1.block T HT.out.lt HXT.out).trans HT.out)
    have HJ1 : Hid (Jrn wr J F p q nu) := hide ((hc1.block J HJ.out.lt HXJ.out).trans HJ.out)
    have HnT : Hid (¬ X1 T) := hide (fun e => (hx1 T e).elim HXT.out (fun e => by have := HT.out.lt; omega))
    have HnJ : Hid (¬ X1 J) := hide (fun e => (hx1 J e).elim HXJ.out (fun e => by have := HJ.out.lt; omega))
    have HF1 := hide h1
    have HX1 := hide hx1
    have HC1 := hide hc1
    have HOl := hide hol
    have HRl := hide hRl
    clear h1 hx1 hc1 hol hRl
    by_cases hlt : t < R.length
    · rcases HRl.out with hE | ⟨b, off, rfl, hblt, hc⟩
      · rw [hE] at hlt; simp at hlt
      obtain ⟨r0, r1, r2⟩ := hc t hlt
      have hmem : R.getD t JR.z ∈ R := by
        have : R.getD t JR.z = R[t] := by simp [hlt]
        rw [this]
        exact List.getElem_mem _
      have hat9 := HAt.out _ hmem
      have HApb := hide (HAp1.out.bytes _ hmem)
      have HSt : Hid (recO ((R.map JR.dat).take (t + 1)) = recO ((R.map JR.dat).take t) ++ [.wr (R.getD t JR.z).at_.toNat (R.getD t JR.z).b]) := hide (by
        rw [recO_take _ t (by simpa using hlt) (JR.dat JR.z), JR.dats]
        rfl)
      have HSl := hide r2
      clear hc r2 hmem
      generalize hrr : R.getD t JR.z = r at *
      clear hrr
      obtain ⟨at9, ra, rc, rb⟩ := r
      simp only at *
      obtain ⟨z, rfl⟩ := Int.eq_ofNat_of_zero_le hat9.1
      have hbx := Blk.new wr #[.int .i64 (z : Int), .slice ra rb.length rc] 125
      have hbl : Below wr.heap.size wr (wr.alloc (.cells #[.int .i64 (z : Int), .slice ra rb.length rc] 125)) := (Below.refl _ _).alloc (Nat.le_refl _) _
      have HBx := hide hbx
      have HBl := hide hbl
      have hz2 : z + rb.length ≤ 4194304 := by have := hat9.2; omega
      rw [Int.toNat_natCast] at HSt
      have HWr : ∀ u, Below wr.heap.size wr u → Hid (Calls Tryz.prog 70 #[.pointer (some ⟨F, 0, none⟩), .int .i64 z, .slice ra rb.length rc] u fun e w' => e = .returned (.int .i64 (cod 1 (k - t))) ∧ Ran w w' X F A k n (recO ((R.map JR.dat).take (t + 1))) ∧ (∀ G cs ty, Blk u G cs ty → wr.heap.size ≤ G → Blk w' G cs ty) ∧ Txs w' T J vb vm va d ∧ Jrn w' J F p q nu) := fun u hu => hide (by
        have hw := write_fl u X1 F f1 _ _ _ (HF1.out.below hu) (by have := HCo.out t; omega) z ra rc rb (HSl.out.below hu).lies (fun hne x hx e => HApb.out hne x hx e) hz2
        rw [HOl.out] at hw
        refine hw.mono ?_
        rintro e9 w10 ⟨rfl, hr⟩
        refine ⟨rfl, ?_, fun G cs ty hG hle => ?_, ?_, ?_⟩
        · rw [HSt.out]
          refine Ran.more HF1.out HX1.out HC1.out (Ran.first hu ?_)
          rw [HOl.out]
          exact hr
        · obtain ⟨X2, f2, _, _, hc2⟩ := hr
          exact hG.chg hc2 (fun e => by have := HF1.out.x _ e; omega)
        · obtain ⟨X2, f2, _, _, hc2⟩ := hr
          exact (hc2.block T (HT1.out.below hu).lt HnT.out).trans (HT1.out.below hu)
        · obtain ⟨X2, f2, _, _, hc2⟩ := hr
          exact (hc2.block J (HJ1.out.below hu).lt HnJ.out).trans (HJ1.out.below hu))
      clear hbx hbl hat9
      go_wp2_with fail
      generalize wr.alloc (.cells #[.int .i64 z, .slice ra rb.length rc] 125) = w2 at *
      have HJ2 := hide (show Jrn w2.drew J F p q nu from HJ1.out.below HBl.out.drew)
      have HT2 := hide (show Txs w2.drew T J vb vm va d from HT1.out.below HBl.out.drew)
      have HX2 := hide HBx.out.drew
      have HB2 := hide HBl.out.drew
      obtain ⟨s00, s0, s1, s2⟩ := four_t HT2.out HJ2.out HX2.out
      go_wp2_with fail
      go_region_held3 (fun u => u.cell? ⟨T, 0, none⟩ = some (.pointer (some ⟨J, 0, none⟩)) ∧ u.cell? ⟨J, 0, none⟩ = some (.pointer (some ⟨F, 0, none⟩)) ∧ u.cell? ⟨wr.heap.size, 0, none⟩ = some (.int .i64 (z : Int)) ∧ u.cell? ⟨wr.heap.size, 1, none⟩ = some (.slice ra rb.length rc)) (first | go_keep | exact HK.out) (first
        | (go_at_call 70; refine ((HWr _ HB2.out).out).mono ?_; rintro e9 w10 ⟨rfl, hr10, hk10, ht10, hj10⟩; have HK := hide (four_t ht10 hj10 (hk10 _ _ _ HX2.out (Nat.le_refl _))); have HR10 := hide hr10; clear hr10 hk10 ht10 hj10))
      all_goals
        by_cases hk1 : t + 1 ≤ k
        · rw [cod_ok (show 1 ≤ k - t by omega)]
          go_wp2_with fail
          exact ⟨⟨t + 1, by omega, hk1, by congr 1 <;> omega, HR10.out⟩, by simp [intOf]; omega⟩
        · rw [cod_no (show ¬ 1 ≤ k - t by omega)]
          have HFi : Hid (Ran w w10 X F A k n (recO (R.map JR.dat) ++ [.fl])) := hide (by
            have := HR10.out.stop (by rw [recO_length]; simp; omega) (recO ((R.map JR.dat).drop (t + 1)) ++ [.fl])
            rw [← List.append_assoc, show recO ((R.map JR.dat).take (t + 1)) ++ recO ((R.map JR.dat).drop (t + 1)) = recO (R.map JR.dat) by rw [recO, recO, recO, ← List.map_append, List.take_append_drop]] at this
            exact this)
          go_wp2_with fail
          go_ret
          refine ⟨?_, HFi.out⟩
          rw [cod_no (by omega)]
          rfl
    · obtain rfl : t = R.length := by omega
      have he : (R.map JR.dat).take R.length = R.map JR.dat := by rw [List.take_of_length_le (by simp)]
      rw [he] at HRan HF1 HOl
      have hcD := HCo.out R.length
      rw [he] at hcD
      have HFu := hide (flush_fl wr X1 F f1 _ _ _ HF1.out (by omega))
      rw [HOl.out] at HFu
      have c0 := HJ1.out.cell0
      have c1 := HT1.out.cell.1
      clear he
      go_wp2_with fail
      refine HFu.out.mono ?_
      rintro e9 w2 ⟨rfl, hr2⟩
      have hr2' : Ran wr w2 X1 F (doAll ((recO (R.map JR.dat)).take k) A) (k - (recO (R.map JR.dat)).length) (n + costs (recO (R.map JR.dat))) [.fl] := by rw [HOl.out]; exact hr2
      have HRf := hide (Ran.more HF1.out HX1.out HC1.out hr2')
      have HCd : Hid (cod 1 (k - R.length) = cod (R.length + 1) k) := hide (cod_sub 1 R.length k htk)
      clear hr2 hr2' c0 c1
      go_wp2_with fail
      go_ret
      refine ⟨?_, HRf.out⟩
      rw [← HCd.out]
      rfl
end Go.Proofs.YtibkhgmmjhlpmaaGreat.Oct

namespace Go.Proofs.YtibkhgmmjhlpmaaGreat.Oct
open Go.RowKit Go.Deep Go.Sort

set_option maxRecDepth 100000 in
set_option maxHeartbeats 8000000 in
theorem put_q (w : World) (T J F : Nat) (X : Nat → Prop) (f : Fs) (A : A3) (k n : Nat) (vb vm va : Value) (B M : Int → List Int) (p q : Nat) (nu : Int) (h : Txq w T J F X f A k n vb vm va B M p q nu) (a : Option Addr) (cap m : Nat) (pl : List Int) (hm : m = pl.length) (hl : Lies w a pl) (hcap : m ≤ cap ∧ cap ≤ 9223372036854775807)
    (hlT : 0 < m → ∀ x, a = some x → x.block ≠ T ∧ ∀ r, vb = .map (some r) ∨ vm = .map (some r) → x.block ≠ r) (t : Nat) (htn : t + m ≤ 4194304) :
    Calls Tryz.prog 36 #[.pointer (some ⟨T, 0, none⟩), .int .i64 t, .slice a m cap] w fun e w' => e = .returned (.int .i64 0) ∧ (∃ vb' vm' B' M', Txq w' T J F X f A k n vb' vm' va B' M' p q nu ∧ Laid B M B' M' t m pl 2 ∧ ∀ r, vb' = .map (some r) ∨ vm' = .map (some r) → (vb = .map (some r) ∨ vm = .map (some r)) ∨ w.heap.size ≤ r) ∧ Chg (fun k => k = T ∨ vb = .map (some k) ∨ vm = .map (some k)) w w' := by
  have HH := hide h
  have HOp := hide (open_tx w T J vb vm _ h.tx)
  have HOu := hide (outside_no w t m htn)
  have HLy := hide (lay_by 2 (by omega) w T J vb vm _ false B M h.tx h.ov h.mm a cap m pl hm hl hcap hlT t htn)
  have HXl := hide h.fl.x
  clear h hl hlT hm
  go_enter Tryz.func36, Tryz.ntmps36
  go_wp2_with fail
  refine HOp.out.mono ?_
  rintro e9 w9 ⟨rfl, h9⟩
  subst h9
  go_wp2_with fail
  refine HOu.out.mono ?_
  rintro e9 w9 ⟨rfl, h9⟩
  subst h9
  go_wp2_with fail
  refine HLy.out.mono ?_
  rintro e9 w10 ⟨rfl, ⟨r1, r2, B', M', ht, ho, hr, hrr, hv⟩, hc⟩
  have HRr := hide hrr
  have HT := hide ht
  have HO := hide ho
  have HV := hide hv
  have HC := hide hc
  clear ht ho hv hc hrr
  go_wp2_with fail
  go_ret
  have hnY : ∀ k, k < w9.heap.size → X k → ¬ (k = T ∨ vb = .map (some k) ∨ vm = .map (some k)) := fun k _ hk e => by
    rcases e with rfl | e | e
    · exact HH.out.xT hk
    · exact HH.out.xM k (Or.inl e) hk
    · exact HH.out.xM k (Or.inr e) hk
  have hJn : ¬ (J = T ∨ vb = .map (some J) ∨ vm = .map (some J)) := fun e => by
    have hj : w9.heap[J]? = _ := HH.out.jr
    rcases e with e | e | e
    · exact HH.out.jt e
    · obtain ⟨_, es, c, he⟩ := HH.out.ov.b.lt J e
      rw [he] at hj; cases hj
    · obtain ⟨_, es, c, he⟩ := HH.out.ov.m.lt J e
      rw [he] at hj; cases hj
  have hr12 : ∀ r, (r = r1 ∨ r = r2) → ¬ X r := by
    intro r hrr hx
    rcases HRr.out r hrr with h | h
    · exact HH.out.xM r h hx
    · have := HXl.out r hx
      omega
  refine ⟨rfl, ⟨.map (some r1), .map (some r2), B', M', ⟨HT.out, HO.out, Or.inr ⟨r1, r2, rfl, rfl, hr⟩, (HC.out.block J HH.out.jr.lt hJn).trans HH.out.jr, HH.out.fl.chg HC.out hnY, HH.out.xT, HH.out.xJ, fun r e => hr12 r (by simpa [eq_comm] using e), HH.out.jt⟩, HV.out, fun r e => HRr.out r (by simpa [eq_comm] using e)⟩, HC.out⟩

set_option maxRecDepth 100000 in
theorem put_done (w : World) (T J : Nat) (vb vm va : Value) (ht : Txs w T J vb vm va true) (a b : Value) :
    Calls Tryz.prog 36 #[.pointer (some ⟨T, 0, none⟩), a, b] w fun e w' => e = .returned (.int .i64 6) ∧ w' = w := by
  have HNo := hide (none_tx w T J vb vm va true ht)
  have c4 := ht.cell.2.2.2.2
  have HOp : Hid (Calls Tryz.prog 39 #[.pointer (some ⟨T, 0, none⟩)] w fun e w' => e = .returned (.int .i64 6) ∧ w' = w) := hide (by
    go_enter Tryz.func39, Tryz.ntmps39
    go_wp2_with fail
    refine HNo.out.mono ?_
    rintro e9 w9 ⟨rfl, h9⟩
    rw [h9]
    clear h9
    go_wp2_with fail
    go_ret
    exact ⟨rfl, rfl⟩)
  clear ht c4 HNo
  go_enter Tryz.func36, Tryz.ntmps36
  go_wp2_with fail
  refine HOp.out.mono ?_
  rintro e9 w9 ⟨rfl, h9⟩
  rw [h9]
  clear h9
  go_wp2_with fail
  go_ret
  exact ⟨rfl, rfl⟩

theorem mod7 (x : Int) : ∃ n : Nat, n < 7000 ∧ (IntKind.u64.wrap x).tmod 7000 = (n : Int) := by
  have h0 : 0 ≤ IntKind.u64.wrap x := by rw [IntKind.wrap_u64]; omega
  have e : (IntKind.u64.wrap x).tmod 7000 = (IntKind.u64.wrap x) % 7000 := Int.tmod_eq_emod_of_nonneg h0
  rw [e]
  generalize IntKind.u64.wrap x = y at *
  exact ⟨(y % 7000).toNat, by omega, by omega⟩

/-- A file's bytes: noughts up to behind the journal, then one byte. -/
def BaseL (S : List Int) (m : Nat) (c : Int) : Prop := S.length = 10752 + m ∧ ∀ j, j < S.length → S.getD j 0 = if 10752 ≤ j then c else 0
end Go.Proofs.YtibkhgmmjhlpmaaGreat.Oct

namespace Go.Proofs.YtibkhgmmjhlpmaaGreat.Oct
open Go.RowKit Go.Deep Go.Sort

theorem mem2 {M : Int → List Int} {n : Nat} (hl : (M (n : Int)).length = 512) : 2 ∈ M (n : Int) ↔ ∃ j, j < 512 ∧ mkT M (512 * n + j) = 2 := by
  have e : ∀ j, j < 512 → mkT M (512 * n + j) = (M (n : Int)).getD j 0 := fun j hj => by
    unfold mkT
    rw [show (512 * n + j) / 512 = n by omega, show (512 * n + j) % 512 = j by omega]
  constructor
  · intro h
    obtain ⟨j, hj, hv⟩ := List.getElem_of_mem h
    refine ⟨j, by omega, ?_⟩
    rw [e j (by omega), List.getD_eq_getElem?_getD, List.getElem?_eq_getElem hj]
    exact hv
  · rintro ⟨j, hj, hv⟩
    rw [e j hj, List.getD_eq_getElem?_getD, List.getElem?_eq_getElem (by omega)] at hv
    rw [← show (M (n : Int))[j] = 2 from hv]
    exact List.getElem_mem _

theorem z5_get (i : Nat) : Z5.getD i 0 = 0 := by
  unfold Z5
  rw [List.getD_eq_getElem?_getD, List.getElem?_replicate]
  split <;> rfl

/-- No changes. -/
def nobM : Int → List Int := fun _ => Z5

theorem nob_mk (q : Nat) : mkT nobM q = 0 := z5_get _
theorem nob_val (q : Nat) (x : Int) : valT nobM nobM q x = x := by
  unfold valT
  rw [if_pos (show (nobM ((q / 512 : Nat) : Int)).getD (q % 512) 0 = 0 from z5_get _)]
theorem nob_no (s : Int) : ¬ 2 ∈ nobM s := fun h => absurd (List.eq_of_mem_replicate h) (by decide)

theorem ex_secs {B' M' : Int → List Int} (hl : ∀ s, (M' s).length = 512) (h : Laid nobM nobM B' M' 10755 1 [97] 2) : secsM M' = [21] := by
  refine rise_eq _ _ (secsM_rise _) (by simp) (fun x => ?_)
  rw [secsM_mem]
  simp only [List.mem_singleton]
  have hm : ∀ q, mkT M' q = if 10755 ≤ q ∧ q < 10755 + 1 then 2 else 0 := fun q => by
    rw [h.2.1 q, nob_mk]
    split
    · decide
    · rfl
  constructor
  · rintro ⟨hx, h2⟩
    obtain ⟨n, rfl⟩ := Int.eq_ofNat_of_zero_le hx.1
    obtain ⟨j, hj, hv⟩ := (mem2 (hl _)).1 h2
    rw [hm] at hv
    split at hv
    · omega
    · simp at hv
  · rintro rfl
    refine ⟨by omega, ?_⟩
    have := (mem2 (M := M') (n := 21) (hl _)).2 ⟨3, by omega, by rw [hm]; simp⟩
    simpa using this
end Go.Proofs.YtibkhgmmjhlpmaaGreat.Oct
