/- TxNils, for every input: changes refuse places outside, and a nil object refuses all, as the statement asks (no condition). -/
import Derived.Test.YtbpehfadmilhdaaTyj
import Derived.Test.YtbpehfadmilhdaaJrp
import Derived.Lib.SlBytesConst
import Derived.Test.YtbpehfadmilhdaaRows
import Derived.Test.YtbpehfadmilhdaaOpen
namespace Go.Proofs.Ytbpehfadmilhdaa.Oct
open Go.RowKit Go.Deep Go.Sort

set_option maxRecDepth 100000 in
set_option maxHeartbeats 8000000 in
theorem put_q (w : World) (T J F : Nat) (X : Nat → Prop) (f : Fs) (A : A3) (k n : Nat) (vb vm va : Value) (B M : Int → List Int) (p q : Nat) (nu : Int) (h : Txq w T J F X f A k n vb vm va B M p q nu) (a : Option Addr) (cap m : Nat) (pl : List Int) (hm : m = pl.length) (hl : Lies w a pl) (hcap : m ≤ cap ∧ cap ≤ 9223372036854775807)
    (hlT : 0 < m → ∀ x, a = some x → x.block ≠ T ∧ ∀ r, vb = .map (some r) ∨ vm = .map (some r) → x.block ≠ r) (t : Nat) (htn : t + m ≤ 4194304) :
    Calls Try.prog 13 #[.pointer (some ⟨T, 0, none⟩), .int .i64 t, .slice a m cap] w fun e w' => e = .returned (.int .i64 0) ∧ (∃ vb' vm' B' M', Txq w' T J F X f A k n vb' vm' va B' M' p q nu ∧ Laid B M B' M' t m pl 2 ∧ ∀ r, vb' = .map (some r) ∨ vm' = .map (some r) → (vb = .map (some r) ∨ vm = .map (some r)) ∨ w.heap.size ≤ r) ∧ Chg (fun k => k = T ∨ vb = .map (some k) ∨ vm = .map (some k)) w w' := by
  have HH := hide h
  have HOp := hide (open_tx w T J vb vm _ h.tx)
  have HOu := hide (outside_no w t m htn)
  have HLy := hide (lay_by 2 (by omega) w T J vb vm _ false B M h.tx h.ov h.mm a cap m pl hm hl hcap hlT t htn)
  have HXl := hide h.fl.x
  clear h hl hlT hm
  go_enter Try.func13, Try.ntmps13
  go_wp2_with fail
  refine HOp.out.mono ?_
  rintro e9 w9 ⟨rfl, h9⟩
  subst h9
  go_wp2_with fail
  refine HOu.out.mono ?_
  rintro e9 w9 ⟨rfl, h9⟩
  subst h9
  go_wp2_with fail
  refine HLy.out.mono ?_
  rintro e9 w10 ⟨rfl, ⟨r1, r2, B', M', ht, ho, hr, hrr, hv⟩, hc⟩
  have HRr := hide hrr
  have HT := hide ht
  have HO := hide ho
  have HV := hide hv
  have HC := hide hc
  clear ht ho hv hc hrr
  go_wp2_with fail
  go_ret
  have hnY : ∀ k, k < w9.heap.size → X k → ¬ (k = T ∨ vb = .map (some k) ∨ vm = .map (some k)) := fun k _ hk e => by
    rcases e with rfl | e | e
    · exact HH.out.xT hk
    · exact HH.out.xM k (Or.inl e) hk
    · exact HH.out.xM k (Or.inr e) hk
  have hJn : ¬ (J = T ∨ vb = .map (some J) ∨ vm = .map (some J)) := fun e => by
    have hj : w9.heap[J]? = _ := HH.out.jr
    rcases e with e | e | e
    · exact HH.out.jt e
    · obtain ⟨_, es, c, he⟩ := HH.out.ov.b.lt J e
      rw [he] at hj; cases hj
    · obtain ⟨_, es, c, he⟩ := HH.out.ov.m.lt J e
      rw [he] at hj; cases hj
  have hr12 : ∀ r, (r = r1 ∨ r = r2) → ¬ X r := by
    intro r hrr hx
    rcases HRr.out r hrr with h | h
    · exact HH.out.xM r h hx
    · have := HXl.out r hx
      omega
  refine ⟨rfl, ⟨.map (some r1), .map (some r2), B', M', ⟨HT.out, HO.out, Or.inr ⟨r1, r2, rfl, rfl, hr⟩, (HC.out.block J HH.out.jr.lt hJn).trans HH.out.jr, HH.out.fl.chg HC.out hnY, HH.out.xT, HH.out.xJ, fun r e => hr12 r (by simpa [eq_comm] using e), HH.out.jt⟩, HV.out, fun r e => HRr.out r (by simpa [eq_comm] using e)⟩, HC.out⟩

set_option maxRecDepth 100000 in
theorem put_done (w : World) (T J : Nat) (vb vm va : Value) (ht : Txs w T J vb vm va true) (a b : Value) :
    Calls Try.prog 13 #[.pointer (some ⟨T, 0, none⟩), a, b] w fun e w' => e = .returned (.int .i64 6) ∧ w' = w := by
  have HNo := hide (none_tx w T J vb vm va true ht)
  have c4 := ht.cell.2.2.2.2
  have HOp : Hid (Calls Try.prog 32 #[.pointer (some ⟨T, 0, none⟩)] w fun e w' => e = .returned (.int .i64 6) ∧ w' = w) := hide (by
    go_enter Try.func32, Try.ntmps32
    go_wp2_with fail
    refine HNo.out.mono ?_
    rintro e9 w9 ⟨rfl, h9⟩
    rw [h9]
    clear h9
    go_wp2_with fail
    go_ret
    exact ⟨rfl, rfl⟩)
  clear ht c4 HNo
  go_enter Try.func13, Try.ntmps13
  go_wp2_with fail
  refine HOp.out.mono ?_
  rintro e9 w9 ⟨rfl, h9⟩
  rw [h9]
  clear h9
  go_wp2_with fail
  go_ret
  exact ⟨rfl, rfl⟩

theorem mod7 (x : Int) : ∃ n : Nat, n < 7000 ∧ (IntKind.u64.wrap x).tmod 7000 = (n : Int) := by
  have h0 : 0 ≤ IntKind.u64.wrap x := by rw [IntKind.wrap_u64]; omega
  have e : (IntKind.u64.wrap x).tmod 7000 = (IntKind.u64.wrap x) % 7000 := Int.tmod_eq_emod_of_nonneg h0
  rw [e]
  generalize IntKind.u64.wrap x = y at *
  exact ⟨(y % 7000).toNat, by omega, by omega⟩

/-- A file's bytes: noughts up to behind the journal, then one byte. -/
def BaseL (S : List Int) (m : Nat) (c : Int) : Prop := S.length = 10752 + m ∧ ∀ j, j < S.length → S.getD j 0 = if 10752 ≤ j then c else 0

set_option maxRecDepth 100000 in
set_option maxHeartbeats 4000000 in
theorem base_any (w : World) (x c : Int) : Calls Try.prog 9 #[.int .i64 x, .int .u8 c] w fun e w' => ∃ v S m, e = .returned v ∧ Own w' w.heap.size v S ∧ BaseL S m c ∧ m < 7000 ∧ (IntKind.u64.wrap x).tmod 7000 = ((m : Nat) : Int) ∧ Below w.heap.size w w' := by
  obtain ⟨m, hm, hx⟩ := mod7 x
  have HX := hide hx
  have HZ := hide (Zeros_any (10752 + m) w (by omega))
  rw [show ((10752 + m : Nat) : Int) = 10752 + (m : Int) by omega] at HZ
  go_enter Try.func9, Try.ntmps9
  go_wp2_with fail
  refine HZ.out.mono ?_
  rintro e9 w1 ⟨v, rfl, ho1, hb1⟩
  obtain ⟨Z, hZ⟩ : ∃ Z, Z = List.replicate (10752 + m) (0 : Int) := ⟨_, rfl⟩
  rw [← hZ] at ho1
  have hZl : Z.length = 10752 + m := by rw [hZ]; exact List.length_replicate
  have HZz : Hid (∀ j, Z.getD j 0 = 0) := hide (fun j => by
    rw [hZ, List.getD_eq_getElem?_getD, List.getElem?_replicate]
    split <;> rfl)
  obtain ⟨a, cap, rfl, hl, _, hcap, hcm, hg⟩ := ho1.form
  obtain ⟨g, rfl, hg1, hg2⟩ := hg (fun e => by rw [e] at hZl; simp at hZl; omega)
  have HO1 := hide ho1
  have HB1 := hide hb1
  have HZl := hide hZl
  obtain ⟨N, hN⟩ : ∃ N, N = Z.length := ⟨_, rfl⟩
  have hNb : N ≤ 17752 ∧ 10752 ≤ N := by omega
  rw [← hN] at HO1 ⊢
  have HN := hide (hN.trans hZl)
  have HNZ := hide hN
  clear ho1 hb1 hl hZ hZl hcap hN
  go_wp2_with fail
  go_loopw [6] (fun i wr => ∃ (k : Nat) (L : List Int), 10752 ≤ k ∧ k ≤ N ∧ i = .int .i64 (k : Int) ∧ L.length = N ∧ (∀ j, j < N → L.getD j 0 = if 10752 ≤ j ∧ j < k then c else 0) ∧ Own wr w.heap.size (.slice (some ⟨g, 0, none⟩) N cap) L ∧ Below w.heap.size w wr) (fun i _ => N - (intOf i).toNat)
  case atStart => exact ⟨10752, Z, by omega, by omega, rfl, HNZ.out.symm, fun j _ => by rw [HZz.out, if_neg (by omega)], HO1.out, HB1.out⟩
  case round =>
    obtain ⟨k, L, hk1, hk, rfl, hLl, hv, ho, hb⟩ := hrel
    have HV := hide hv
    have HB := hide hb
    have HO := hide ho
    have HLl := hide hLl
    clear hv hb hLl
    by_cases hlt : k < N
    · have f0 := HO.out.free HLl.out.symm k
      have c0 := HO.out.cell HLl.out.symm k hlt
      obtain ⟨hs1, hs2⟩ := HO.out.set HLl.out.symm k c
      have HS1 := hide hs1
      have HS2 : Hid (Below w.heap.size w (wr.setCell ⟨g, k, none⟩ (.int .u8 c))) := hide (HB.out.setCell (p := ⟨g, k, none⟩) hg1 _)
      clear hs1 hs2 ho
      go_wp2_with fail
      refine ⟨⟨k + 1, L.set k c, by omega, by omega, by go_num, by rw [List.length_set]; exact HLl.out, fun j hj => ?_, HS1.out, HS2.out⟩, by simp [intOf]; omega⟩
      rw [getD_set _ _ _ _ (by rw [HLl.out]; exact hlt)]
      by_cases e : k = j
      · rw [if_pos e, if_pos (by omega)]
      · rw [if_neg e, HV.out j hj]
        by_cases h2 : 10752 ≤ j ∧ j < k
        · rw [if_pos h2, if_pos (by omega)]
        · rw [if_neg h2, if_neg (by omega)]
    · obtain rfl : k = N := by omega
      clear ho
      go_wp2_with fail
      go_ret
      refine ⟨_, L, m, rfl, HO.out, ⟨by rw [HLl.out]; exact HN.out, fun j hj => ?_⟩, hm, HX.out, HB.out⟩
      rw [HV.out j (by rw [← HLl.out]; exact hj)]
      rw [HLl.out] at hj
      by_cases h2 : 10752 ≤ j
      · rw [if_pos h2, if_pos ⟨h2, hj⟩]
      · rw [if_neg h2, if_neg (fun e => h2 e.1)]
end Go.Proofs.Ytbpehfadmilhdaa.Oct
namespace Go.Proofs.Ytbpehfadmilhdaa.Oct
open Go.RowKit Go.Deep Go.Sort

set_option maxRecDepth 100000 in
set_option maxHeartbeats 2000000 in
theorem open6 (w : World) (a : Option Addr) (cap : Nat) (l : List Int) (hl : Lies w a l) (hlen : l.length ≤ 4194304) (hf : 10752 ≤ l.length) :
    Calls Try.prog 10 #[.slice a l.length cap] w fun e w' => ∃ F J f X, e = .returned (.tuple #[.pointer (some ⟨F, 0, none⟩), .pointer (some ⟨J, 0, none⟩), .bool true]) ∧
      Fl w' X F f ⟨l, l, []⟩ 2000000 0 ∧ Jrn w' J F (512 : Nat) (10752 : Nat) 0 ∧ ¬ X J ∧ (∀ i, X i → w.heap.size ≤ i) ∧ w.heap.size ≤ J ∧ Below w.heap.size w w' := by
  have HN1 := hide (new_fl w a cap l hl hlen)
  clear hl
  go_enter Try.func10, Try.ntmps10
  go_wp2_with fail
  refine HN1.out.mono ?_
  rintro e9 w2 ⟨F, f, rfl, hf2, hf0, hb2⟩
  have HF2 := hide hf2
  have HB2 := hide hb2
  have hs12 := hb2.size
  have HJ := hide (jnew_fl w2 _ F f _ _ _ hf2 512 10240 (by omega) (by omega) (by omega) (by show 512 + 10240 ≤ l.length; omega))
  clear hf2 hb2 hf0 HN1
  go_wp2_with fail
  refine HJ.out.mono ?_
  rintro e9 w3 ⟨J, rfl, hj, hJ3, hb3⟩
  have HJ3 := hide hJ3
  have HF3 := hide (HF2.out.below hb3)
  have HB3 := hide (HB2.out.trans (hb3.mono HB2.out.size))
  clear hJ3 hb3 HJ
  go_wp2_with fail
  go_ret3
  exact ⟨F, J, f, _, rfl, HF3.out, HJ3.out, fun e => by omega, fun i hi => hi.1, by omega, HB3.out⟩

theorem mem2 {M : Int → List Int} {n : Nat} (hl : (M (n : Int)).length = 512) : 2 ∈ M (n : Int) ↔ ∃ j, j < 512 ∧ mkT M (512 * n + j) = 2 := by
  have e : ∀ j, j < 512 → mkT M (512 * n + j) = (M (n : Int)).getD j 0 := fun j hj => by
    unfold mkT
    rw [show (512 * n + j) / 512 = n by omega, show (512 * n + j) % 512 = j by omega]
  constructor
  · intro h
    obtain ⟨j, hj, hv⟩ := List.getElem_of_mem h
    refine ⟨j, by omega, ?_⟩
    rw [e j (by omega), List.getD_eq_getElem?_getD, List.getElem?_eq_getElem hj]
    exact hv
  · rintro ⟨j, hj, hv⟩
    rw [e j hj, List.getD_eq_getElem?_getD, List.getElem?_eq_getElem (by omega)] at hv
    rw [← show (M (n : Int))[j] = 2 from hv]
    exact List.getElem_mem _

theorem z5_get (i : Nat) : Z5.getD i 0 = 0 := by
  unfold Z5
  rw [List.getD_eq_getElem?_getD, List.getElem?_replicate]
  split <;> rfl

/-- No changes. -/
def nobM : Int → List Int := fun _ => Z5

theorem nob_mk (q : Nat) : mkT nobM q = 0 := z5_get _
theorem nob_val (q : Nat) (x : Int) : valT nobM nobM q x = x := by
  unfold valT
  rw [if_pos (show (nobM ((q / 512 : Nat) : Int)).getD (q % 512) 0 = 0 from z5_get _)]
theorem nob_no (s : Int) : ¬ 2 ∈ nobM s := fun h => absurd (List.eq_of_mem_replicate h) (by decide)

theorem ex_secs {B' M' : Int → List Int} (hl : ∀ s, (M' s).length = 512) (h : Laid nobM nobM B' M' 10755 1 [97] 2) : secsM M' = [21] := by
  refine rise_eq _ _ (secsM_rise _) (by simp) (fun x => ?_)
  rw [secsM_mem]
  simp only [List.mem_singleton]
  have hm : ∀ q, mkT M' q = if 10755 ≤ q ∧ q < 10755 + 1 then 2 else 0 := fun q => by
    rw [h.2.1 q, nob_mk]
    split
    · decide
    · rfl
  constructor
  · rintro ⟨hx, h2⟩
    obtain ⟨n, rfl⟩ := Int.eq_ofNat_of_zero_le hx.1
    obtain ⟨j, hj, hv⟩ := (mem2 (hl _)).1 h2
    rw [hm] at hv
    split at hv
    · omega
    · simp at hv
  · rintro rfl
    refine ⟨by omega, ?_⟩
    have := (mem2 (M := M') (n := 21) (hl _)).2 ⟨3, by omega, by rw [hm]; simp⟩
    simpa using this

set_option maxRecDepth 100000 in
set_option maxHeartbeats 8000000 in
theorem changed6 (w : World) : Calls Try.prog 7 #[] w fun e w' => e = .returned (.bool true) ∧ Below w.heap.size w w' := by
  have HBs := hide (base_any w 600 7)
  go_enter Try.func7, Try.ntmps7
  go_wp2_with fail
  refine HBs.out.mono ?_
  rintro e9 w1 ⟨v1, S, m, rfl, ho1, hS, hm, hmm, hb1⟩
  have hm6 : m = 600 := by
    have e : (IntKind.u64.wrap 600).tmod 7000 = 600 := by decide
    omega
  subst hm6
  obtain ⟨hSl, hSv⟩ := hS
  obtain ⟨a1, c1, rfl, hl1, _⟩ := ho1.form
  have HSv := hide hSv
  have HSl : Hid (S.length = 11352) := hide hSl
  have HOp := hide (open6 w1 a1 c1 S hl1 (by omega) (by omega))
  have HB1 := hide hb1
  have HSb : Hid (Byts S) := hide (fun i => by
    by_cases hi : i < S.length
    · rw [hSv i hi]
      split <;> omega
    · rw [List.getD_eq_getElem?_getD, List.getElem?_eq_none (by omega)]
      simp)
  clear ho1 hl1 hb1 hSl hSv hmm hm HBs
  go_wp2_with fail
  refine HOp.out.mono ?_
  rintro e9 w2 ⟨F, J, f, X, rfl, hf2, hj2, hx2, hlo2, hjl2, hb2⟩
  have HB2 := hide (HB1.out.trans (hb2.mono HB1.out.size))
  have HF2 := hide hf2
  have HJ2 := hide hj2
  have HX2 := hide hx2
  have HLo := hide hlo2
  have HBg := hide (begin_ok w2 J)
  have hXl := hf2.x
  have HXl := hide hXl
  have hjl := hj2.lt
  clear hf2 hj2 hx2 hlo2 hb2 HOp hXl
  go_wp2_with fail
  refine HBg.out.mono ?_
  rintro e9 w3 ⟨T, rfl, hT3, htx3, hb3⟩
  have hq3 : Txq w3 T J F X f ⟨S, S, []⟩ 2000000 0 (.map none) (.map none) (.slice none 0 0) nobM nobM 512 10752 0 :=
    ⟨htx3, ⟨Or.inl ⟨rfl, fun _ => rfl⟩, Or.inl ⟨rfl, fun _ => rfl⟩, fun _ => Z5_len, fun _ => Z5_len⟩, Or.inl ⟨rfl, rfl⟩, HJ2.out.below hb3, HF2.out.below hb3, fun e => by have := HXl.out T e; omega, HX2.out, fun r hr => (by rcases hr with h | h <;> cases h), (by omega)⟩
  have HB3 := hide (HB2.out.trans (hb3.mono HB2.out.size))
  have kc := Go.Lib.run_convert_bytes_const w3 25 5 #[.int .u8 97] 1 1 Try.underlying25 Try.underlying5
  have hb4 : Below w3.heap.size w3 (w3.alloc (.cells #[.int .u8 97] 5 (1, 2))) := (Below.refl _ _).alloc (Nat.le_refl _) _
  have hl4 : Lies (w3.alloc (.cells #[.int .u8 97] 5 (1, 2))) (some ⟨w3.heap.size, 0, none⟩) [97] := lies_marked w3 [97] (1, 2)
  have HPu := hide (put_q _ T J F X f _ _ _ _ _ _ _ _ 512 10752 0 (hq3.below hb4) (some ⟨w3.heap.size, 0, none⟩) 1 1 [97] rfl hl4 (by omega) (fun _ x hx => ⟨by cases hx; have := hq3.tx.lt; simp; omega, fun r hr => by rcases hr with h | h <;> cases h⟩) 10755 (by omega))
  have HB4 := hide (HB3.out.trans (hb4.mono HB3.out.size))
  have hT4 := hq3.tx.lt
  have hXw : ∀ i, X i → w.heap.size ≤ i := fun i hi => Nat.le_trans HB1.out.size (HLo.out i hi)
  have HXw := hide hXw
  have hTw : w.heap.size ≤ T := by have := HB2.out.size; omega
  have hJw : w.heap.size ≤ J := by have := HB1.out.size; omega
  clear hq3 hb4 hl4 hb3 htx3 HBg hXw
  go_wp2_with fail
  generalize w3.alloc (.cells #[.int .u8 97] 5 (1, 2)) = w4 at *
  refine HPu.out.mono ?_
  rintro e9 w5 ⟨rfl, ⟨vb, vm, B', M', hq5, hla, hmp⟩, hc5⟩
  have HB5 : Hid (Below w.heap.size w w5) := hide (HB4.out.trans (hc5.below _ HB4.out.size (fun i hi e => by
    rcases e with e | e | e
    · omega
    · cases e
    · cases e)))
  have HMl : Hid (∀ s, (M' s).length = 512) := hide hq5.ov.ml
  have HLa := hide hla
  have HGe := hide (get_q w5 T J F X f _ _ _ vb vm _ B' M' 512 10752 0 hq5 (by omega) 10755 2 (by omega))
  have Hse : Hid (∀ i, seeT S B' M' i = if i = 10755 then 97 else S.getD i 0) := hide (fun i => by
    unfold seeT
    rw [hla.1]
    by_cases e : i = 10755
    · subst e
      rw [if_pos (by omega), if_pos rfl]
      rfl
    · rw [if_neg (by omega), if_neg e, nob_val])
  clear hq5 hla hc5 HPu kc
  go_wp2_with fail
  refine HGe.out.mono ?_
  rintro e9 w6 ⟨⟨f6, hq6⟩, hc6, ⟨hk6, v6, l6, rfl, ho6, hl6, hg6⟩ | ⟨hk6, _⟩⟩
  rotate_left
  · exact absurd (by unfold rdc; split <;> omega) hk6
  have hl6e : l6 = [97, 7] := by
    refine ext_getD (by rw [hl6]; rfl) (fun i hi => ?_)
    rw [hg6 i (by omega), Hse.out]
    rw [hl6] at hi
    match i, hi with
    | 0, _ => rfl
    | 1, _ =>
      rw [if_neg (by omega), HSv.out _ (by rw [HSl.out]; omega)]
      rfl
  subst hl6e
  obtain ⟨a6, c6, rfl, hs6, _⟩ := ho6.form
  have HB6 : Hid (Below w.heap.size w w6) := hide (HB5.out.trans (hc6.below _ HB5.out.size (fun i hi e => by have := HXw.out i e; omega)))
  have HQ6 := hide hq6
  have HL6 := hide hs6
  have HBy1 := hide (bytes_fl w6 X F f6 _ _ _ hq6.fl)
  clear hq6 hc6 hk6 ho6 hl6 hg6 hs6 HGe
  go_wp2_with fail
  refine HBy1.out.mono ?_
  rintro e9 w7 ⟨v7, rfl, ho7, hb7⟩
  have ho7' : Own w7 w6.heap.size v7 S := ho7
  obtain ⟨a7, c7, rfl, hl7, _⟩ := ho7'.form
  have HQ7 := hide (HQ6.out.below hb7)
  have HB7 := hide (HB6.out.trans (hb7.mono HB6.out.size))
  have HL7 := hide (HL6.out.below hb7)
  have HBy2 := hide (bytes_fl w7 X F f6 _ _ _ (HQ6.out.below hb7).fl)
  have hlen7 : ¬ ((S.length : Int) < 11352) := by have := HSl.out; omega
  clear ho7 ho7' hl7 hb7 HBy1
  go_wp2_with fail
  refine HBy2.out.mono ?_
  rintro e9 w8 ⟨v8, rfl, ho8, hb8⟩
  have ho8' : Own w8 w7.heap.size v8 S := ho8
  obtain ⟨a8, c8, rfl, hl8, _, _, _, hg8⟩ := ho8'.form
  obtain ⟨g8, rfl, _, _⟩ := hg8 (fun e => by have := HSl.out; rw [e] at this; simp at this)
  have q8 := ho8'.cell rfl 10755 (by have := HSl.out; omega)
  rw [HSv.out 10755 (by have := HSl.out; omega), if_pos (by omega)] at q8
  have hi8 : (10755 : Int) < (S.length : Int) := by have := HSl.out; omega
  have HQ8 := HQ7.out.below hb8
  have hrt := run_text (P := Try.prog) (dst := 9) Try.underlying25 Try.underlying5 Try.underlying9 w8 a6 [97, 7] c6 (HL7.out.below hb8)
  have hba : ba [97, 7] = { data := #[97, 7] } := by decide
  rw [hba] at hrt
  have hrs : (convert 25 9 (.slice a6 2 c6)).run Try.prog w8 = .ok (.string { data := #[97, 7] }) w8 := hrt
  have HB8 := hide (HB7.out.trans (hb8.mono HB7.out.size))
  have hse := ex_secs HMl.out HLa.out
  have hrn : runsM M' = [(10752, 11264)] := by unfold runsM; rw [hse]; rfl
  have HCm := hide (commit_q w8 T J F X f6 ⟨S, S, []⟩ _ _ vb vm B' M' 512 10752 0 HQ8 (by omega) (by omega) (by omega) (by omega) (fun s hs => by rw [HLa.out.2.2 s hs]; exact nob_no s) (fun r hr => by rw [hrn] at hr; simp at hr; subst hr; simp) (fun i => by
    show 0 ≤ seeT S B' M' i ∧ seeT S B' M' i < 256
    rw [Hse.out]
    split
    · omega
    · exact HSb.out i))
  have HTw := hide hTw
  have HJw := hide hJw
  have HRn := hide hrn
  clear ho8 ho8' hl8 hb8 hg8 hrt hba HQ8 hse hrn HBy2
  go_wp2_with fail
  refine HCm.out.mono ?_
  have hsz : sizeR (runsM M') = 524 := by rw [HRn.out]; rfl
  have hrd : rdR S (runsM M') ≤ 2 := by
    rw [HRn.out]
    unfold rdR rdc
    simp only [List.map_cons, List.map_nil, List.sum_cons, List.sum_nil]
    split <;> omega
  have hrc : rdc S 10755 2 ≤ 1 := by unfold rdc; split <;> omega
  rintro e9 w9 (⟨h9, _⟩ | ⟨_, h9, _⟩ | ⟨_, _, rfl, ht9, nu9, n9, hn9, X9, f9, hf9, hx9, hc9, _⟩)
  · rw [hsz] at h9; omega
  · exact absurd (show rdR S (runsM M') ≤ _ by omega) h9
  obtain ⟨D, hD⟩ : ∃ D, D = recsM S B' M' := ⟨_, rfl⟩
  have hDe : D = [(10752, (List.range 512).map (fun i => seeT S B' M' (10752 + i)))] := by
    rw [hD]
    unfold recsM
    rw [HRn.out]
    rfl
  rw [show recsM (A3.S ⟨S, S, []⟩) B' M' = D from hD.symm] at hf9 ⊢
  have hDn : D ≠ [] := by rw [hDe]; simp
  have htO : txO 512 0 D = comO 512 0 D ++ appO 512 D := if_neg hDn
  have htL : (txO 512 0 D).length = 8 := by
    rw [htO, List.length_append, hDe]
    rfl
  rw [List.take_of_length_le (by rw [htL]; show 8 ≤ 2000000 - rdc S 10755 2 - rdR S (runsM M'); omega)] at hf9
  rw [cod_ok (by rw [htL]; show 8 ≤ 2000000 - rdc S 10755 2 - rdR S (runsM M'); omega)]
  rw [htO, doAll_append, com_state, app_state] at hf9
  obtain ⟨S9, hS9⟩ : ∃ S9, S9 = appS (comS S 512 0 D) 512 D := ⟨_, rfl⟩
  rw [← hS9] at hf9
  have hS9v : S9.getD 10755 0 = 97 ∧ 11264 ≤ S9.length := by
    rw [hS9]
    have hll : ((List.range 512).map (fun i => seeT S B' M' (10752 + i))).length = 512 := by simp
    constructor
    · rw [appS_get, if_neg (by omega), hDe]
      simp only [putS]
      rw [wr_get, hll, if_pos (by simp)]
      have : ((List.range 512).map (fun i => seeT S B' M' (10752 + i))).getD (10755 - (10752 : Int).toNat) 0 = seeT S B' M' 10755 := by
        rw [show 10755 - (10752 : Int).toNat = 3 by decide, List.getD_eq_getElem?_getD, List.getElem?_map, List.getElem?_range (by omega)]
        rfl
      rw [this, Hse.out, if_pos rfl]
    · unfold appS
      rw [hDe]
      simp only [putS]
      have hz := Z512_len
      rw [wr_len, wr_len, hll, if_neg (fun e => by rw [e] at hz; simp at hz), if_neg (fun e => by rw [e] at hll; simp at hll)]
      show 11264 ≤ max (max _ (10752 + 512)) (512 + Z512.length)
      omega
  have HB9 : Hid (Below w.heap.size w w9) := hide (HB8.out.trans (hc9.below _ HB8.out.size (fun i hi e => by
    rcases e with e | e | e
    · have := HXw.out i e; omega
    · have := HJw.out; omega
    · have := HTw.out; omega)))
  have HBy3 := hide (bytes_fl w9 X9 F f9 _ _ _ hf9)
  have HT9 := hide ht9
  have HS9 := hide hS9v
  clear ht9 hf9 hx9 hc9 hn9 hD hDe hDn htO htL hS9 hS9v hsz hrd hrc HCm
  go_wp2_with fail
  refine HBy3.out.mono ?_
  rintro e9 w10 ⟨v10, rfl, ho10, hb10⟩
  have ho10' : Own w10 w9.heap.size v10 S9 := ho10
  obtain ⟨a10, c10, rfl, hl10, _, _, _, hg10⟩ := ho10'.form
  obtain ⟨g10, rfl, _, _⟩ := hg10 (fun e => by have := HS9.out.2; rw [e] at this; simp at this)
  have q10 := ho10'.cell rfl 10755 (by have := HS9.out.2; omega)
  rw [HS9.out.1] at q10
  have hi10 : (10755 : Int) < (S9.length : Int) := by have := HS9.out.2; omega
  have HB10 := hide (HB9.out.trans (hb10.mono HB9.out.size))
  have HPd := hide (put_done w10 T J _ _ _ (HT9.out.below hb10) (.int .i64 0) (.slice none 0 0))
  clear ho10 ho10' hl10 hg10 hb10 HBy3
  go_wp2_with fail
  refine HPd.out.mono ?_
  rintro e9 w11 ⟨rfl, h11⟩
  rw [h11]
  clear h11
  go_wp2_with fail
  go_ret
  exact ⟨rfl, HB10.out⟩
end Go.Proofs.Ytbpehfadmilhdaa.Oct
namespace Go.Proofs.Ytbpehfadmilhdaa.Oct
open Go.RowKit Go.Deep Go.Sort

theorem exec_append {P : Program} {a : Act} {o : Oper} {s x : Operand} {t : TypeId} {v q v' : Value} {w w' : World} (ho : o.op = .call { callee := .builtin .append, args := #[s, x], argTypes := #[t, t] }) (hs : a.eval s = v) (hx : a.eval x = q) (h : (Builtin.append_ #[t, t] o.type #[v, q]).run P w = .ok v' w') : (execOp a.eval o).run P w = .ok (.value v') w' := by
  unfold execOp
  simp only [ho, resolve, invoke, builtin, Sem.run_bind, Sem.run_pure, Result.andThen_ok, List.map_toArray, List.map_cons, List.map_nil, hs, hx, h]

set_option maxRecDepth 100000 in
set_option maxHeartbeats 8000000 in
theorem fresh_q (w : World) (T J F : Nat) (X : Nat → Prop) (f : Fs) (A : A3) (k n : Nat) (vb vm va : Value) (B M : Int → List Int) (p q : Nat) (nu : Int) (h : Txq w T J F X f A k n vb vm va B M p q nu) (Ba : Nat) (L : List JR) (hva : OwnK w Ba va L) (hBa : Ba ≤ w.heap.size) (hLl : L.length ≤ 1000) (hsep : ∀ g, va.ownBlock = some g → g ≠ T ∧ g ≠ J ∧ ¬ X g ∧ ∀ r, vb = .map (some r) ∨ vm = .map (some r) → g ≠ r)
    (a : Option Addr) (cap m : Nat) (pl : List Int) (hm : m = pl.length) (hm0 : 0 < m) (hl : Lies w a pl) (hcap : m ≤ cap ∧ cap ≤ 9223372036854775807)
    (hlT : ∀ x, a = some x → x.block ≠ T ∧ some x.block ≠ va.ownBlock ∧ ∀ r, vb = .map (some r) ∨ vm = .map (some r) → x.block ≠ r) (t : Nat) (htn : t + m ≤ 4194304) (h512 : t % 512 = 0) :
    Calls Try.prog 14 #[.pointer (some ⟨T, 0, none⟩), .int .i64 t, .slice a m cap] w fun e w' => e = .returned (.int .i64 0) ∧ (∃ vb' vm' va' B' M', Txq w' T J F X f A k n vb' vm' va' B' M' p q nu ∧ Laid B M B' M' t m pl 1 ∧ (∀ r, vb' = .map (some r) ∨ vm' = .map (some r) → (vb = .map (some r) ∨ vm = .map (some r)) ∨ w.heap.size ≤ r)) ∧ Chg (fun k => k = T ∨ some k = va.ownBlock ∨ vb = .map (some k) ∨ vm = .map (some k)) w w' := by
  have HH := hide h
  have HOp := hide (open_tx w T J vb vm _ h.tx)
  have HOu := hide (outside_no w t m htn)
  have HXl := hide h.fl.x
  have HVa := hide hva
  have HSep := hide hsep
  have HlT := hide hlT
  have HL := hide hl
  have HHm := hide hm
  have hd1 : ((t : Nat) : Int).tmod 512 = 0 := by rw [Int.tmod_eq_emod_of_nonneg (by omega)]; omega
  have hd2 : ((t : Nat) : Int) % 512 = 0 := by omega
  have hTl := h.tx.lt
  have hS0 : w.drew.cell? ⟨T, 3, none⟩ = some va := h.tx.cell.2.2.2.1
  have hd0 : Below w.heap.size w w.drew := (Below.refl _ _).drew
  obtain ⟨i1, hi, hz0, hz1, hz2⟩ := info_parts info_rec
  clear h hva hsep hlT hl hm
  go_enter Try.func14, Try.ntmps14
  go_wp2_with fail
  refine HOp.out.mono ?_
  rintro e9 w9 ⟨rfl, h9⟩
  subst h9
  go_wp2_with fail
  refine HOu.out.mono ?_
  rintro e9 w9 ⟨rfl, h9⟩
  subst h9
  go_wp2_with fail
  refine wp_region_held_drew (S := (fun _ : World => True)) (by kernel_rfl) trivial (fun _ => ?_)
  refine any_take 0 (some 25) (.pointer (some ⟨T, 0, none⟩)) rfl rfl (by kernel_rfl) (by kernel_rfl) (by kernel_rfl) (fun _ _ _ h => h) (by rfl) trivial ?_ ?_
  · intro u hSu
    go_simp
  simp only [Act.put, List.setIfInBounds_toArray, List.set_cons_zero, List.set_cons_succ]
  refine any_take 1 (some 26) (.pointer (some ⟨T, 0, none⟩)) rfl rfl (by kernel_rfl) (by kernel_rfl) (by kernel_rfl) (fun _ _ _ h => h) (by rfl) trivial ?_ ?_
  · intro u hSu
    go_simp
  simp only [Act.put, List.setIfInBounds_toArray, List.set_cons_zero, List.set_cons_succ]
  refine any_take 2 (some 27) (.pointer (some ⟨T, 0, none⟩)) rfl rfl (by kernel_rfl) (by kernel_rfl) (by kernel_rfl) (fun _ _ _ h => h) (by rfl) trivial ?_ ?_
  · intro u hSu
    go_simp
  simp only [Act.put, List.setIfInBounds_toArray, List.set_cons_zero, List.set_cons_succ]
  refine any_take 3 (some 28) (.pointer (some ⟨T, 3, none⟩)) rfl rfl (by kernel_rfl) (by kernel_rfl) (by kernel_rfl) (fun _ _ _ h => h) (by rfl) trivial ?_ ?_
  · intro u hSu
    go_simp
  simp only [Act.put, List.setIfInBounds_toArray, List.set_cons_zero, List.set_cons_succ]
  refine any_take 5 (some 30) (.int .i64 (t : Int)) rfl rfl (by kernel_rfl) (by kernel_rfl) (by kernel_rfl) (fun _ _ _ h => h) (by rfl) trivial ?_ ?_
  · intro u hSu
    go_simp
  simp only [Act.put, List.setIfInBounds_toArray, List.set_cons_zero, List.set_cons_succ]
  refine any_take 6 (some 31) (.slice a m cap) rfl rfl (by kernel_rfl) (by kernel_rfl) (by kernel_rfl) (fun _ _ _ h => h) (by rfl) trivial ?_ ?_
  · intro u hSu
    go_simp
  simp only [Act.put, List.setIfInBounds_toArray, List.set_cons_zero, List.set_cons_succ]
  refine wpAnyH_ready (rs := [4, 7]) (by kernel_rfl) (by simp) ?_
  refine AllReadyH.cons (i := 4) rfl (fun K hK => ?_) (AllReadyH.cons (i := 7) rfl (fun K hK => ?_) AllReadyH.nil)
  · have cL := hS0
    go_simp
    refine hK.out _ _ trivial (fun _ => ?_)
    clear hK K
    try simp only [Act.put, List.setIfInBounds_toArray, List.set_cons_zero, List.set_cons_succ]
    clear cL
    refine wpAnyH_ready (rs := [7]) (by kernel_rfl) (by simp) ?_
    refine AllReadyH.cons (i := 7) rfl (fun K hK => ?_) AllReadyH.nil
    go_simp
    have HCl := hide (clone_any w9.drew a cap pl (HL.out.below hd0) (by have := HHm.out; omega))
    rw [← HHm.out] at HCl
    refine HCl.out.mono ?_
    rintro e9 wA ⟨vC, rfl, hoC, hbA⟩
    have hbwA : Below w9.heap.size w9 wA := hd0.trans (hbA.mono hd0.size)
    obtain ⟨aC, cC, rfl, hsC, hfC⟩ := hoC.sl
    rw [← HHm.out]
    go_simp
    refine hK.out _ _ trivial (fun _ => ?_)
    clear hK K
    try simp only [Act.put, List.setIfInBounds_toArray, List.set_cons_zero, List.set_cons_succ]
    refine any_take 8 (some 33) (.agg #[.int .i64 (t : Int), .slice aC m cC]) rfl rfl (by kernel_rfl) (by kernel_rfl) (by kernel_rfl) (fun _ _ _ h => h) (by rfl) trivial ?_ ?_
    · intro u hSu
      go_simp
    simp only [Act.put, List.setIfInBounds_toArray, List.set_cons_zero, List.set_cons_succ]
    refine wpAnyH_ready (rs := [9]) (by kernel_rfl) (by simp) ?_
    refine AllReadyH.cons (i := 9) rfl (fun K hK => ?_) AllReadyH.nil
    go_simp
    have hbB : Below wA.heap.size wA (wA.alloc (.cells #[.int .i64 (t : Int), .slice aC m cC] 79)) := (Below.refl _ _).alloc (Nat.le_refl _) _
    have hbwB : Below w9.heap.size w9 (wA.alloc (.cells #[.int .i64 (t : Int), .slice aC m cC] 79)) := hbwA.trans (hbB.mono hbwA.size)
    have hnB := new2J wA 79 (.int .i64 (t : Int)) (.slice aC m cC)
    refine hK.out _ _ trivial (fun _ => ?_)
    clear hK K
    try simp only [Act.put, List.setIfInBounds_toArray, List.set_cons_zero, List.set_cons_succ]
    generalize hWB : wA.alloc (.cells #[.int .i64 (t : Int), .slice aC m cC] 79) = wB at *
    obtain ⟨v5, w5, hr5, ho5, hg5, _, hw5⟩ := run_append_own_at (P := Try.prog) wB Ba 71 71 79 i1 (.agg #[.int .i64 0, .slice none 0 0]) 2 32 Try.underlying71 hi hz0 hz1 hz2 rfl (by decide) va L.length (L.flatMap JR.cells) (HVa.out.below hbwB).row ⟨wA.heap.size, 0, none⟩ 1 1 [.int .i64 (t : Int), .slice aC m cC] rfl hnB (by simp [Value.oneCell']) (by unfold maxLen; omega) (by omega) (Nat.le_trans hBa hbwB.size)
    obtain ⟨g5', cp5, hv5⟩ : ∃ g cp, v5 = .slice (some ⟨g, 0, none⟩) (L.length + 1) cp := by
      rcases ho5.2 with ⟨_, h0⟩ | ⟨g, cp, cur, h0, _⟩
      · omega
      · exact ⟨g, cp, h0⟩
    subst hv5
    have hnT : some T ≠ va.ownBlock := fun e => (HSep.out T e.symm).1 rfl
    refine ready_val 10 (some 35) (.slice (some ⟨g5', 0, none⟩) (L.length + 1) cp5) w5 (by kernel_rfl) rfl rfl rfl (exec_append rfl rfl rfl hr5) trivial ?_
    try simp only [Act.put, List.setIfInBounds_toArray, List.set_cons_zero, List.set_cons_succ]
    refine any_take 11 (some 36) (.pointer (some ⟨T, 0, none⟩)) rfl rfl (by kernel_rfl) (by kernel_rfl) (by kernel_rfl) (fun _ _ _ h => h) (by rfl) trivial ?_ ?_
    · intro u hSu
      go_simp
    simp only [Act.put, List.setIfInBounds_toArray, List.set_cons_zero, List.set_cons_succ]
    refine any_take 12 (some 37) (.pointer (some ⟨T, 3, none⟩)) rfl rfl (by kernel_rfl) (by kernel_rfl) (by kernel_rfl) (fun _ _ _ h => h) (by rfl) trivial ?_ ?_
    · intro u hSu
      go_simp
    simp only [Act.put, List.setIfInBounds_toArray, List.set_cons_zero, List.set_cons_succ]
    refine wpAnyH_ready (rs := [13]) (by kernel_rfl) (by simp) ?_
    refine AllReadyH.cons (i := 13) rfl (fun K hK => ?_) AllReadyH.nil
    have hc5 : Chg (fun k => k = T ∨ some k = va.ownBlock) w9 w5 := (Chg.of_below hbwB).trans ((Chg.of_grown hg5).mono (fun i _ e => Or.inr e))
    have ht5 : Txs w5 T J vb vm va false := (hg5.block T (Nat.lt_of_lt_of_le hTl hbwB.size) hnT).trans ((hbwB.block T hTl).trans HH.out.tx)
    have g5 := (show Blk w5 T #[.pointer (some ⟨J, 0, none⟩), vb, vm, va, .bool false] 73 from ht5).frozen 3
    have s5 : w5.cell? ⟨T, 3, none⟩ = some va := ht5.cell.2.2.2.1
    have ht6 : Txs (w5.setCell ⟨T, 3, none⟩ (.slice (some ⟨g5', 0, none⟩) (L.length + 1) cp5)) T J vb vm (.slice (some ⟨g5', 0, none⟩) (L.length + 1) cp5) false := heap_setCell_same _ T 3 _ _ (.slice (some ⟨g5', 0, none⟩) (L.length + 1) cp5) ht5
    have hc6 : Chg (fun k => k = T ∨ some k = va.ownBlock) w9 (w5.setCell ⟨T, 3, none⟩ (.slice (some ⟨g5', 0, none⟩) (L.length + 1) cp5)) := hc5.setCell T 3 _ (fun _ => Or.inl rfl)
    go_simp
    refine hK.out _ _ trivial (fun _ => ?_)
    clear hK K
    try simp only [Act.put, List.setIfInBounds_toArray, List.set_cons_zero, List.set_cons_succ]
    refine wpAnyH_done (by kernel_rfl) ?_ _
    generalize w5.setCell ⟨T, 3, none⟩ (.slice (some ⟨g5', 0, none⟩) (L.length + 1) cp5) = w6 at *
    have hm6 : ∀ r, vb = .map (some r) ∨ vm = .map (some r) → ¬ (r = T ∨ some r = va.ownBlock) := fun r hr e => by
      rcases e with e | e
      · have h1 : w9.heap[T]? = _ := HH.out.tx
        rcases hr with h | h
        · obtain ⟨_, es, cc, he⟩ := HH.out.ov.b.lt r h
          rw [e] at he; rw [he] at h1; cases h1
        · obtain ⟨_, es, cc, he⟩ := HH.out.ov.m.lt r h
          rw [e] at he; rw [he] at h1; cases h1
      · exact (HSep.out r e.symm).2.2.2 r hr rfl
    have hJ6 : ¬ (J = T ∨ some J = va.ownBlock) := fun e => by
      rcases e with e | e
      · exact HH.out.jt e
      · exact (HSep.out J e.symm).2.1 rfl
    have hq6 : Txq w6 T J F X f A k n vb vm (.slice (some ⟨g5', 0, none⟩) (L.length + 1) cp5) B M p q nu :=
      ⟨ht6, HH.out.ov.chg hc6 hm6, HH.out.mm, (hc6.block J HH.out.jr.lt hJ6).trans HH.out.jr, HH.out.fl.chg hc6 (fun i _ hX e => by
        rcases e with e | e
        · exact HH.out.xT (e ▸ hX)
        · exact (HSep.out i e.symm).2.2.1 hX), HH.out.xT, HH.out.xJ, HH.out.xM, HH.out.jt⟩
    have hl6 : Lies w6 a pl := HL.out.chg hc6 (fun x hx e => by
      have := HlT.out x hx
      rcases e with e | e
      · exact this.1 e
      · exact this.2.1 e)
    have HLy := hide (lay_by 1 (by omega) w6 T J vb vm _ false B M hq6.tx hq6.ov hq6.mm a cap m pl HHm.out hl6 hcap (fun _ x hx => ⟨(HlT.out x hx).1, (HlT.out x hx).2.2⟩) t htn)
    have HQ6 := hide hq6
    have HC6 := hide hc6
    have hs6 := hc6.size
    clear hr5 ho5 hg5 hw5 hc5 ht5 g5 s5 ht6 hc6 hm6 hJ6 hq6 hl6 hnB hbwB hbwA hoC hbA hsC hfC HCl
    apply_assumption
    go_wp2_with fail
    refine HLy.out.mono ?_
    rintro e9 w10 ⟨rfl, ⟨r1, r2, B', M', ht, ho, hr, hrr, hv⟩, hc⟩
    have HRr := hide hrr
    have HT := hide ht
    have HO := hide ho
    have HV := hide hv
    have HC := hide hc
    clear ht ho hv hc hrr HLy
    go_wp2_with fail
    go_ret
    have hnY : ∀ k, k < w6.heap.size → X k → ¬ (k = T ∨ vb = .map (some k) ∨ vm = .map (some k)) := fun k _ hk e => by
      rcases e with rfl | e | e
      · exact HH.out.xT hk
      · exact HH.out.xM k (Or.inl e) hk
      · exact HH.out.xM k (Or.inr e) hk
    have hJn : ¬ (J = T ∨ vb = .map (some J) ∨ vm = .map (some J)) := fun e => by
      have hj : w9.heap[J]? = _ := HH.out.jr
      rcases e with e | e | e
      · exact HH.out.jt e
      · obtain ⟨_, es, c, he⟩ := HH.out.ov.b.lt J e
        rw [he] at hj; cases hj
      · obtain ⟨_, es, c, he⟩ := HH.out.ov.m.lt J e
        rw [he] at hj; cases hj
    have hr12 : ∀ r, (r = r1 ∨ r = r2) → ¬ X r := by
      intro r hrr hx
      rcases HRr.out r hrr with h | h
      · exact HH.out.xM r h hx
      · have := HXl.out r hx
        omega
    refine ⟨rfl, ⟨.map (some r1), .map (some r2), _, B', M', ⟨HT.out, HO.out, Or.inr ⟨r1, r2, rfl, rfl, hr⟩, (HC.out.block J HQ6.out.jr.lt hJn).trans HQ6.out.jr, HQ6.out.fl.chg HC.out hnY, HH.out.xT, HH.out.xJ, fun r e => hr12 r (by simpa [eq_comm] using e), HH.out.jt⟩, HV.out, fun r e => (HRr.out r (by simpa [eq_comm] using e)).imp id (fun h => Nat.le_trans hs6 h)⟩, ?_⟩
    refine (HC6.out.mono (fun i _ e => e.imp id Or.inl)).trans (HC.out.mono (fun i _ e => ?_))
    rcases e with e | e
    · exact Or.inl e
    · exact Or.inr (Or.inr e)
  · go_simp
    have HCl := hide (clone_any w9.drew a cap pl (HL.out.below hd0) (by have := HHm.out; omega))
    rw [← HHm.out] at HCl
    refine HCl.out.mono ?_
    rintro e9 wA ⟨vC, rfl, hoC, hbA⟩
    have hbwA : Below w9.heap.size w9 wA := hd0.trans (hbA.mono hd0.size)
    obtain ⟨aC, cC, rfl, hsC, hfC⟩ := hoC.sl
    rw [← HHm.out]
    go_simp
    refine hK.out _ _ trivial (fun _ => ?_)
    clear hK K
    try simp only [Act.put, List.setIfInBounds_toArray, List.set_cons_zero, List.set_cons_succ]
    refine any_take 8 (some 33) (.agg #[.int .i64 (t : Int), .slice aC m cC]) rfl rfl (by kernel_rfl) (by kernel_rfl) (by kernel_rfl) (fun _ _ _ h => h) (by rfl) trivial ?_ ?_
    · intro u hSu
      go_simp
    simp only [Act.put, List.setIfInBounds_toArray, List.set_cons_zero, List.set_cons_succ]
    refine wpAnyH_ready (rs := [4, 9]) (by kernel_rfl) (by simp) ?_
    refine AllReadyH.cons (i := 4) rfl (fun K hK => ?_) (AllReadyH.cons (i := 9) rfl (fun K hK => ?_) AllReadyH.nil)
    · have cL := (hbwA.cell (p := ⟨T, 3, none⟩) hTl).trans hS0
      go_simp
      refine hK.out _ _ trivial (fun _ => ?_)
      clear hK K
      try simp only [Act.put, List.setIfInBounds_toArray, List.set_cons_zero, List.set_cons_succ]
      clear cL
      refine wpAnyH_ready (rs := [9]) (by kernel_rfl) (by simp) ?_
      refine AllReadyH.cons (i := 9) rfl (fun K hK => ?_) AllReadyH.nil
      go_simp
      have hbB : Below wA.heap.size wA (wA.alloc (.cells #[.int .i64 (t : Int), .slice aC m cC] 79)) := (Below.refl _ _).alloc (Nat.le_refl _) _
      have hbwB : Below w9.heap.size w9 (wA.alloc (.cells #[.int .i64 (t : Int), .slice aC m cC] 79)) := hbwA.trans (hbB.mono hbwA.size)
      have hnB := new2J wA 79 (.int .i64 (t : Int)) (.slice aC m cC)
      refine hK.out _ _ trivial (fun _ => ?_)
      clear hK K
      try simp only [Act.put, List.setIfInBounds_toArray, List.set_cons_zero, List.set_cons_succ]
      generalize hWB : wA.alloc (.cells #[.int .i64 (t : Int), .slice aC m cC] 79) = wB at *
      obtain ⟨v5, w5, hr5, ho5, hg5, _, hw5⟩ := run_append_own_at (P := Try.prog) wB Ba 71 71 79 i1 (.agg #[.int .i64 0, .slice none 0 0]) 2 32 Try.underlying71 hi hz0 hz1 hz2 rfl (by decide) va L.length (L.flatMap JR.cells) (HVa.out.below hbwB).row ⟨wA.heap.size, 0, none⟩ 1 1 [.int .i64 (t : Int), .slice aC m cC] rfl hnB (by simp [Value.oneCell']) (by unfold maxLen; omega) (by omega) (Nat.le_trans hBa hbwB.size)
      obtain ⟨g5', cp5, hv5⟩ : ∃ g cp, v5 = .slice (some ⟨g, 0, none⟩) (L.length + 1) cp := by
        rcases ho5.2 with ⟨_, h0⟩ | ⟨g, cp, cur, h0, _⟩
        · omega
        · exact ⟨g, cp, h0⟩
      subst hv5
      have hnT : some T ≠ va.ownBlock := fun e => (HSep.out T e.symm).1 rfl
      refine ready_val 10 (some 35) (.slice (some ⟨g5', 0, none⟩) (L.length + 1) cp5) w5 (by kernel_rfl) rfl rfl rfl (exec_append rfl rfl rfl hr5) trivial ?_
      try simp only [Act.put, List.setIfInBounds_toArray, List.set_cons_zero, List.set_cons_succ]
      refine any_take 11 (some 36) (.pointer (some ⟨T, 0, none⟩)) rfl rfl (by kernel_rfl) (by kernel_rfl) (by kernel_rfl) (fun _ _ _ h => h) (by rfl) trivial ?_ ?_
      · intro u hSu
        go_simp
      simp only [Act.put, List.setIfInBounds_toArray, List.set_cons_zero, List.set_cons_succ]
      refine any_take 12 (some 37) (.pointer (some ⟨T, 3, none⟩)) rfl rfl (by kernel_rfl) (by kernel_rfl) (by kernel_rfl) (fun _ _ _ h => h) (by rfl) trivial ?_ ?_
      · intro u hSu
        go_simp
      simp only [Act.put, List.setIfInBounds_toArray, List.set_cons_zero, List.set_cons_succ]
      refine wpAnyH_ready (rs := [13]) (by kernel_rfl) (by simp) ?_
      refine AllReadyH.cons (i := 13) rfl (fun K hK => ?_) AllReadyH.nil
      have hc5 : Chg (fun k => k = T ∨ some k = va.ownBlock) w9 w5 := (Chg.of_below hbwB).trans ((Chg.of_grown hg5).mono (fun i _ e => Or.inr e))
      have ht5 : Txs w5 T J vb vm va false := (hg5.block T (Nat.lt_of_lt_of_le hTl hbwB.size) hnT).trans ((hbwB.block T hTl).trans HH.out.tx)
      have g5 := (show Blk w5 T #[.pointer (some ⟨J, 0, none⟩), vb, vm, va, .bool false] 73 from ht5).frozen 3
      have s5 : w5.cell? ⟨T, 3, none⟩ = some va := ht5.cell.2.2.2.1
      have ht6 : Txs (w5.setCell ⟨T, 3, none⟩ (.slice (some ⟨g5', 0, none⟩) (L.length + 1) cp5)) T J vb vm (.slice (some ⟨g5', 0, none⟩) (L.length + 1) cp5) false := heap_setCell_same _ T 3 _ _ (.slice (some ⟨g5', 0, none⟩) (L.length + 1) cp5) ht5
      have hc6 : Chg (fun k => k = T ∨ some k = va.ownBlock) w9 (w5.setCell ⟨T, 3, none⟩ (.slice (some ⟨g5', 0, none⟩) (L.length + 1) cp5)) := hc5.setCell T 3 _ (fun _ => Or.inl rfl)
      go_simp
      refine hK.out _ _ trivial (fun _ => ?_)
      clear hK K
      try simp only [Act.put, List.setIfInBounds_toArray, List.set_cons_zero, List.set_cons_succ]
      refine wpAnyH_done (by kernel_rfl) ?_ _
      generalize w5.setCell ⟨T, 3, none⟩ (.slice (some ⟨g5', 0, none⟩) (L.length + 1) cp5) = w6 at *
      have hm6 : ∀ r, vb = .map (some r) ∨ vm = .map (some r) → ¬ (r = T ∨ some r = va.ownBlock) := fun r hr e => by
        rcases e with e | e
        · have h1 : w9.heap[T]? = _ := HH.out.tx
          rcases hr with h | h
          · obtain ⟨_, es, cc, he⟩ := HH.out.ov.b.lt r h
            rw [e] at he; rw [he] at h1; cases h1
          · obtain ⟨_, es, cc, he⟩ := HH.out.ov.m.lt r h
            rw [e] at he; rw [he] at h1; cases h1
        · exact (HSep.out r e.symm).2.2.2 r hr rfl
      have hJ6 : ¬ (J = T ∨ some J = va.ownBlock) := fun e => by
        rcases e with e | e
        · exact HH.out.jt e
        · exact (HSep.out J e.symm).2.1 rfl
      have hq6 : Txq w6 T J F X f A k n vb vm (.slice (some ⟨g5', 0, none⟩) (L.length + 1) cp5) B M p q nu :=
        ⟨ht6, HH.out.ov.chg hc6 hm6, HH.out.mm, (hc6.block J HH.out.jr.lt hJ6).trans HH.out.jr, HH.out.fl.chg hc6 (fun i _ hX e => by
          rcases e with e | e
          · exact HH.out.xT (e ▸ hX)
          · exact (HSep.out i e.symm).2.2.1 hX), HH.out.xT, HH.out.xJ, HH.out.xM, HH.out.jt⟩
      have hl6 : Lies w6 a pl := HL.out.chg hc6 (fun x hx e => by
        have := HlT.out x hx
        rcases e with e | e
        · exact this.1 e
        · exact this.2.1 e)
      have HLy := hide (lay_by 1 (by omega) w6 T J vb vm _ false B M hq6.tx hq6.ov hq6.mm a cap m pl HHm.out hl6 hcap (fun _ x hx => ⟨(HlT.out x hx).1, (HlT.out x hx).2.2⟩) t htn)
      have HQ6 := hide hq6
      have HC6 := hide hc6
      have hs6 := hc6.size
      clear hr5 ho5 hg5 hw5 hc5 ht5 g5 s5 ht6 hc6 hm6 hJ6 hq6 hl6 hnB hbwB hbwA hoC hbA hsC hfC HCl
      apply_assumption
      go_wp2_with fail
      refine HLy.out.mono ?_
      rintro e9 w10 ⟨rfl, ⟨r1, r2, B', M', ht, ho, hr, hrr, hv⟩, hc⟩
      have HRr := hide hrr
      have HT := hide ht
      have HO := hide ho
      have HV := hide hv
      have HC := hide hc
      clear ht ho hv hc hrr HLy
      go_wp2_with fail
      go_ret
      have hnY : ∀ k, k < w6.heap.size → X k → ¬ (k = T ∨ vb = .map (some k) ∨ vm = .map (some k)) := fun k _ hk e => by
        rcases e with rfl | e | e
        · exact HH.out.xT hk
        · exact HH.out.xM k (Or.inl e) hk
        · exact HH.out.xM k (Or.inr e) hk
      have hJn : ¬ (J = T ∨ vb = .map (some J) ∨ vm = .map (some J)) := fun e => by
        have hj : w9.heap[J]? = _ := HH.out.jr
        rcases e with e | e | e
        · exact HH.out.jt e
        · obtain ⟨_, es, c, he⟩ := HH.out.ov.b.lt J e
          rw [he] at hj; cases hj
        · obtain ⟨_, es, c, he⟩ := HH.out.ov.m.lt J e
          rw [he] at hj; cases hj
      have hr12 : ∀ r, (r = r1 ∨ r = r2) → ¬ X r := by
        intro r hrr hx
        rcases HRr.out r hrr with h | h
        · exact HH.out.xM r h hx
        · have := HXl.out r hx
          omega
      refine ⟨rfl, ⟨.map (some r1), .map (some r2), _, B', M', ⟨HT.out, HO.out, Or.inr ⟨r1, r2, rfl, rfl, hr⟩, (HC.out.block J HQ6.out.jr.lt hJn).trans HQ6.out.jr, HQ6.out.fl.chg HC.out hnY, HH.out.xT, HH.out.xJ, fun r e => hr12 r (by simpa [eq_comm] using e), HH.out.jt⟩, HV.out, fun r e => (HRr.out r (by simpa [eq_comm] using e)).imp id (fun h => Nat.le_trans hs6 h)⟩, ?_⟩
      refine (HC6.out.mono (fun i _ e => e.imp id Or.inl)).trans (HC.out.mono (fun i _ e => ?_))
      rcases e with e | e
      · exact Or.inl e
      · exact Or.inr (Or.inr e)
    · go_simp
      have hbB : Below wA.heap.size wA (wA.alloc (.cells #[.int .i64 (t : Int), .slice aC m cC] 79)) := (Below.refl _ _).alloc (Nat.le_refl _) _
      have hbwB : Below w9.heap.size w9 (wA.alloc (.cells #[.int .i64 (t : Int), .slice aC m cC] 79)) := hbwA.trans (hbB.mono hbwA.size)
      have hnB := new2J wA 79 (.int .i64 (t : Int)) (.slice aC m cC)
      refine hK.out _ _ trivial (fun _ => ?_)
      clear hK K
      try simp only [Act.put, List.setIfInBounds_toArray, List.set_cons_zero, List.set_cons_succ]
      generalize hWB : wA.alloc (.cells #[.int .i64 (t : Int), .slice aC m cC] 79) = wB at *
      refine wpAnyH_ready (rs := [4]) (by kernel_rfl) (by simp) ?_
      refine AllReadyH.cons (i := 4) rfl (fun K hK => ?_) AllReadyH.nil
      have cL := (hbwB.cell (p := ⟨T, 3, none⟩) hTl).trans hS0
      go_simp
      refine hK.out _ _ trivial (fun _ => ?_)
      clear hK K
      try simp only [Act.put, List.setIfInBounds_toArray, List.set_cons_zero, List.set_cons_succ]
      clear cL
      obtain ⟨v5, w5, hr5, ho5, hg5, _, hw5⟩ := run_append_own_at (P := Try.prog) wB Ba 71 71 79 i1 (.agg #[.int .i64 0, .slice none 0 0]) 2 32 Try.underlying71 hi hz0 hz1 hz2 rfl (by decide) va L.length (L.flatMap JR.cells) (HVa.out.below hbwB).row ⟨wA.heap.size, 0, none⟩ 1 1 [.int .i64 (t : Int), .slice aC m cC] rfl hnB (by simp [Value.oneCell']) (by unfold maxLen; omega) (by omega) (Nat.le_trans hBa hbwB.size)
      obtain ⟨g5', cp5, hv5⟩ : ∃ g cp, v5 = .slice (some ⟨g, 0, none⟩) (L.length + 1) cp := by
        rcases ho5.2 with ⟨_, h0⟩ | ⟨g, cp, cur, h0, _⟩
        · omega
        · exact ⟨g, cp, h0⟩
      subst hv5
      have hnT : some T ≠ va.ownBlock := fun e => (HSep.out T e.symm).1 rfl
      refine ready_val 10 (some 35) (.slice (some ⟨g5', 0, none⟩) (L.length + 1) cp5) w5 (by kernel_rfl) rfl rfl rfl (exec_append rfl rfl rfl hr5) trivial ?_
      try simp only [Act.put, List.setIfInBounds_toArray, List.set_cons_zero, List.set_cons_succ]
      refine any_take 11 (some 36) (.pointer (some ⟨T, 0, none⟩)) rfl rfl (by kernel_rfl) (by kernel_rfl) (by kernel_rfl) (fun _ _ _ h => h) (by rfl) trivial ?_ ?_
      · intro u hSu
        go_simp
      simp only [Act.put, List.setIfInBounds_toArray, List.set_cons_zero, List.set_cons_succ]
      refine any_take 12 (some 37) (.pointer (some ⟨T, 3, none⟩)) rfl rfl (by kernel_rfl) (by kernel_rfl) (by kernel_rfl) (fun _ _ _ h => h) (by rfl) trivial ?_ ?_
      · intro u hSu
        go_simp
      simp only [Act.put, List.setIfInBounds_toArray, List.set_cons_zero, List.set_cons_succ]
      refine wpAnyH_ready (rs := [13]) (by kernel_rfl) (by simp) ?_
      refine AllReadyH.cons (i := 13) rfl (fun K hK => ?_) AllReadyH.nil
      have hc5 : Chg (fun k => k = T ∨ some k = va.ownBlock) w9 w5 := (Chg.of_below hbwB).trans ((Chg.of_grown hg5).mono (fun i _ e => Or.inr e))
      have ht5 : Txs w5 T J vb vm va false := (hg5.block T (Nat.lt_of_lt_of_le hTl hbwB.size) hnT).trans ((hbwB.block T hTl).trans HH.out.tx)
      have g5 := (show Blk w5 T #[.pointer (some ⟨J, 0, none⟩), vb, vm, va, .bool false] 73 from ht5).frozen 3
      have s5 : w5.cell? ⟨T, 3, none⟩ = some va := ht5.cell.2.2.2.1
      have ht6 : Txs (w5.setCell ⟨T, 3, none⟩ (.slice (some ⟨g5', 0, none⟩) (L.length + 1) cp5)) T J vb vm (.slice (some ⟨g5', 0, none⟩) (L.length + 1) cp5) false := heap_setCell_same _ T 3 _ _ (.slice (some ⟨g5', 0, none⟩) (L.length + 1) cp5) ht5
      have hc6 : Chg (fun k => k = T ∨ some k = va.ownBlock) w9 (w5.setCell ⟨T, 3, none⟩ (.slice (some ⟨g5', 0, none⟩) (L.length + 1) cp5)) := hc5.setCell T 3 _ (fun _ => Or.inl rfl)
      go_simp
      refine hK.out _ _ trivial (fun _ => ?_)
      clear hK K
      try simp only [Act.put, List.setIfInBounds_toArray, List.set_cons_zero, List.set_cons_succ]
      refine wpAnyH_done (by kernel_rfl) ?_ _
      generalize w5.setCell ⟨T, 3, none⟩ (.slice (some ⟨g5', 0, none⟩) (L.length + 1) cp5) = w6 at *
      have hm6 : ∀ r, vb = .map (some r) ∨ vm = .map (some r) → ¬ (r = T ∨ some r = va.ownBlock) := fun r hr e => by
        rcases e with e | e
        · have h1 : w9.heap[T]? = _ := HH.out.tx
          rcases hr with h | h
          · obtain ⟨_, es, cc, he⟩ := HH.out.ov.b.lt r h
            rw [e] at he; rw [he] at h1; cases h1
          · obtain ⟨_, es, cc, he⟩ := HH.out.ov.m.lt r h
            rw [e] at he; rw [he] at h1; cases h1
        · exact (HSep.out r e.symm).2.2.2 r hr rfl
      have hJ6 : ¬ (J = T ∨ some J = va.ownBlock) := fun e => by
        rcases e with e | e
        · exact HH.out.jt e
        · exact (HSep.out J e.symm).2.1 rfl
      have hq6 : Txq w6 T J F X f A k n vb vm (.slice (some ⟨g5', 0, none⟩) (L.length + 1) cp5) B M p q nu :=
        ⟨ht6, HH.out.ov.chg hc6 hm6, HH.out.mm, (hc6.block J HH.out.jr.lt hJ6).trans HH.out.jr, HH.out.fl.chg hc6 (fun i _ hX e => by
          rcases e with e | e
          · exact HH.out.xT (e ▸ hX)
          · exact (HSep.out i e.symm).2.2.1 hX), HH.out.xT, HH.out.xJ, HH.out.xM, HH.out.jt⟩
      have hl6 : Lies w6 a pl := HL.out.chg hc6 (fun x hx e => by
        have := HlT.out x hx
        rcases e with e | e
        · exact this.1 e
        · exact this.2.1 e)
      have HLy := hide (lay_by 1 (by omega) w6 T J vb vm _ false B M hq6.tx hq6.ov hq6.mm a cap m pl HHm.out hl6 hcap (fun _ x hx => ⟨(HlT.out x hx).1, (HlT.out x hx).2.2⟩) t htn)
      have HQ6 := hide hq6
      have HC6 := hide hc6
      have hs6 := hc6.size
      clear hr5 ho5 hg5 hw5 hc5 ht5 g5 s5 ht6 hc6 hm6 hJ6 hq6 hl6 hnB hbwB hbwA hoC hbA hsC hfC HCl
      apply_assumption
      go_wp2_with fail
      refine HLy.out.mono ?_
      rintro e9 w10 ⟨rfl, ⟨r1, r2, B', M', ht, ho, hr, hrr, hv⟩, hc⟩
      have HRr := hide hrr
      have HT := hide ht
      have HO := hide ho
      have HV := hide hv
      have HC := hide hc
      clear ht ho hv hc hrr HLy
      go_wp2_with fail
      go_ret
      have hnY : ∀ k, k < w6.heap.size → X k → ¬ (k = T ∨ vb = .map (some k) ∨ vm = .map (some k)) := fun k _ hk e => by
        rcases e with rfl | e | e
        · exact HH.out.xT hk
        · exact HH.out.xM k (Or.inl e) hk
        · exact HH.out.xM k (Or.inr e) hk
      have hJn : ¬ (J = T ∨ vb = .map (some J) ∨ vm = .map (some J)) := fun e => by
        have hj : w9.heap[J]? = _ := HH.out.jr
        rcases e with e | e | e
        · exact HH.out.jt e
        · obtain ⟨_, es, c, he⟩ := HH.out.ov.b.lt J e
          rw [he] at hj; cases hj
        · obtain ⟨_, es, c, he⟩ := HH.out.ov.m.lt J e
          rw [he] at hj; cases hj
      have hr12 : ∀ r, (r = r1 ∨ r = r2) → ¬ X r := by
        intro r hrr hx
        rcases HRr.out r hrr with h | h
        · exact HH.out.xM r h hx
        · have := HXl.out r hx
          omega
      refine ⟨rfl, ⟨.map (some r1), .map (some r2), _, B', M', ⟨HT.out, HO.out, Or.inr ⟨r1, r2, rfl, rfl, hr⟩, (HC.out.block J HQ6.out.jr.lt hJn).trans HQ6.out.jr, HQ6.out.fl.chg HC.out hnY, HH.out.xT, HH.out.xJ, fun r e => hr12 r (by simpa [eq_comm] using e), HH.out.jt⟩, HV.out, fun r e => (HRr.out r (by simpa [eq_comm] using e)).imp id (fun h => Nat.le_trans hs6 h)⟩, ?_⟩
      refine (HC6.out.mono (fun i _ e => e.imp id Or.inl)).trans (HC.out.mono (fun i _ e => ?_))
      rcases e with e | e
      · exact Or.inl e
      · exact Or.inr (Or.inr e)
end Go.Proofs.Ytbpehfadmilhdaa.Oct
namespace Go.Proofs.Ytbpehfadmilhdaa.Oct
open Go.RowKit Go.Deep Go.Sort

set_option maxRecDepth 100000 in
theorem outside_yes (w : World) (t n : Int) (ht : t ≤ 9223372036854775807) (h : t < 0 ∨ n < 0 ∨ 4194304 - t < n) : Calls Try.prog 33 #[.int .i64 t, .int .i64 n] w fun e w' => e = .returned (.bool true) ∧ w' = w := by
  by_cases h1 : t < 0
  · go_enter Try.func33, Try.ntmps33
    go_wp2_with fail
    go_ret
    exact ⟨rfl, rfl⟩
  · by_cases h2 : n < 0
    · go_enter Try.func33, Try.ntmps33
      go_wp2_with fail
      go_ret
      exact ⟨rfl, rfl⟩
    · have h3 : 4194304 - t < n := by omega
      have h4 : decide (4194304 - t < n) = true := by simpa using h3
      go_enter Try.func33, Try.ntmps33
      go_wp2_with fail
      go_ret
      exact ⟨rfl, rfl⟩

set_option maxRecDepth 100000 in
theorem get_no (w : World) (T J : Nat) (vb vm va : Value) (d : Bool) (h : Txs w T J vb vm va d) (t n : Int) (ht : t ≤ 9223372036854775807) (ho : t < 0 ∨ n < 0 ∨ 4194304 - t < n) :
    Calls Try.prog 17 #[.pointer (some ⟨T, 0, none⟩), .int .i64 t, .int .i64 n] w fun e w' => e = .returned (.tuple #[.slice none 0 0, .int .i64 4]) ∧ w' = w := by
  have HNo := hide (none_tx w T J vb vm va d h)
  have HOu := hide (outside_yes w t n ht ho)
  clear h ho ht
  go_enter Try.func17, Try.ntmps17
  go_wp2_with fail
  refine HNo.out.mono ?_
  rintro e9 w9 ⟨rfl, h9⟩
  rw [h9]
  clear h9
  go_wp2_with fail
  refine HOu.out.mono ?_
  rintro e9 w9 ⟨rfl, h9⟩
  rw [h9]
  clear h9
  go_wp2_with fail
  go_ret2
  exact ⟨rfl, rfl⟩

set_option maxRecDepth 100000 in
theorem put_no (w : World) (T J : Nat) (vb vm va : Value) (h : Txs w T J vb vm va false) (t : Int) (ht : t ≤ 9223372036854775807) (a : Option Addr) (m cap : Nat) (ho : t < 0 ∨ (m : Int) < 0 ∨ 4194304 - t < m) :
    Calls Try.prog 13 #[.pointer (some ⟨T, 0, none⟩), .int .i64 t, .slice a m cap] w fun e w' => e = .returned (.int .i64 4) ∧ w' = w := by
  have HOp := hide (open_tx w T J vb vm va h)
  have HOu := hide (outside_yes w t m ht ho)
  clear h ho ht
  go_enter Try.func13, Try.ntmps13
  go_wp2_with fail
  refine HOp.out.mono ?_
  rintro e9 w9 ⟨rfl, h9⟩
  rw [h9]
  clear h9
  go_wp2_with fail
  refine HOu.out.mono ?_
  rintro e9 w9 ⟨rfl, h9⟩
  rw [h9]
  clear h9
  go_wp2_with fail
  go_ret
  exact ⟨rfl, rfl⟩

set_option maxRecDepth 100000 in
theorem fresh_no (w : World) (T J : Nat) (vb vm va : Value) (h : Txs w T J vb vm va false) (t : Int) (ht : t ≤ 9223372036854775807) (a : Option Addr) (m cap : Nat) (ho : t < 0 ∨ (m : Int) < 0 ∨ 4194304 - t < m) :
    Calls Try.prog 14 #[.pointer (some ⟨T, 0, none⟩), .int .i64 t, .slice a m cap] w fun e w' => e = .returned (.int .i64 4) ∧ w' = w := by
  have HOp := hide (open_tx w T J vb vm va h)
  have HOu := hide (outside_yes w t m ht ho)
  clear h ho ht
  go_enter Try.func14, Try.ntmps14
  go_wp2_with fail
  refine HOp.out.mono ?_
  rintro e9 w9 ⟨rfl, h9⟩
  rw [h9]
  clear h9
  go_wp2_with fail
  refine HOu.out.mono ?_
  rintro e9 w9 ⟨rfl, h9⟩
  rw [h9]
  clear h9
  go_wp2_with fail
  go_ret
  exact ⟨rfl, rfl⟩

set_option maxRecDepth 100000 in
theorem fresh_odd (w : World) (T J : Nat) (vb vm va : Value) (h : Txs w T J vb vm va false) (t : Nat) (a : Option Addr) (m cap : Nat) (ho : t + m ≤ 4194304) (h5 : ¬ t % 512 = 0) :
    Calls Try.prog 14 #[.pointer (some ⟨T, 0, none⟩), .int .i64 t, .slice a m cap] w fun e w' => e = .returned (.int .i64 4) ∧ w' = w := by
  have HOp := hide (open_tx w T J vb vm va h)
  have HOu := hide (outside_no w t m ho)
  obtain ⟨z, hz⟩ : ∃ z : Nat, z = t % 512 := ⟨_, rfl⟩
  have hd1 : ((t : Nat) : Int).tmod 512 = (z : Int) := by rw [Int.tmod_eq_emod_of_nonneg (by omega)]; omega
  have hd2 : ((t : Nat) : Int) % 512 = (z : Int) := by omega
  have hd3 : ¬ ((z : Int) = 0) := by omega
  have hd4 : ((z : Int) != 0) = true := by simp; omega
  clear h ho h5 hz
  go_enter Try.func14, Try.ntmps14
  go_wp2_with fail
  refine HOp.out.mono ?_
  rintro e9 w9 ⟨rfl, h9⟩
  rw [h9]
  clear h9
  go_wp2_with fail
  refine HOu.out.mono ?_
  rintro e9 w9 ⟨rfl, h9⟩
  rw [h9]
  clear h9
  go_wp2_with fail
  go_ret
  exact ⟨rfl, rfl⟩

set_option maxRecDepth 100000 in
theorem fresh_none (w : World) (T J : Nat) (vb vm va : Value) (h : Txs w T J vb vm va false) (t : Nat) (a : Option Addr) (cap : Nat) (ho : t ≤ 4194304) (h5 : t % 512 = 0) :
    Calls Try.prog 14 #[.pointer (some ⟨T, 0, none⟩), .int .i64 t, .slice a 0 cap] w fun e w' => e = .returned (.int .i64 0) ∧ w' = w := by
  have HOp := hide (open_tx w T J vb vm va h)
  have HOu := hide (outside_no w t 0 (by omega))
  have hd1 : ((t : Nat) : Int).tmod 512 = 0 := by rw [Int.tmod_eq_emod_of_nonneg (by omega)]; omega
  have hd2 : ((t : Nat) : Int) % 512 = 0 := by omega
  clear h ho h5
  go_enter Try.func14, Try.ntmps14
  go_wp2_with fail
  refine HOp.out.mono ?_
  rintro e9 w9 ⟨rfl, h9⟩
  rw [h9]
  clear h9
  go_wp2_with fail
  refine HOu.out.mono ?_
  rintro e9 w9 ⟨rfl, h9⟩
  rw [h9]
  clear h9
  go_wp2_with fail
  go_ret
  exact ⟨rfl, rfl⟩

theorem nilt_none (w : World) : Calls Try.prog 36 #[.pointer none] w fun e w' => e = .returned (.bool true) ∧ w' = w := by
  go_enter Try.func36, Try.ntmps36
  go_wp2_with fail
  go_ret
  exact ⟨rfl, rfl⟩

theorem nilt_open (w : World) : Calls Try.prog 32 #[.pointer none] w fun e w' => e = .returned (.int .i64 2) ∧ w' = w := by
  go_enter Try.func32, Try.ntmps32
  go_wp2_with fail
  refine (nilt_none _).mono ?_
  rintro e9 w1 ⟨rfl, rfl⟩
  go_wp2_with fail
  go_ret
  exact ⟨rfl, rfl⟩

theorem nilt_get (w : World) (a b : Value) : Calls Try.prog 17 #[.pointer none, a, b] w fun e w' => e = .returned (.tuple #[.slice none 0 0, .int .i64 2]) ∧ w' = w := by
  go_enter Try.func17, Try.ntmps17
  go_wp2_with fail
  refine (nilt_none _).mono ?_
  rintro e9 w1 ⟨rfl, rfl⟩
  go_wp2_with fail
  go_ret2
  exact ⟨rfl, rfl⟩

theorem nilt_put (w : World) (a b : Value) : Calls Try.prog 13 #[.pointer none, a, b] w fun e w' => e = .returned (.int .i64 2) ∧ w' = w := by
  go_enter Try.func13, Try.ntmps13
  go_wp2_with fail
  refine (nilt_open _).mono ?_
  rintro e9 w1 ⟨rfl, rfl⟩
  go_wp2_with fail
  go_ret
  exact ⟨rfl, rfl⟩

theorem nilt_fresh (w : World) (a b : Value) : Calls Try.prog 14 #[.pointer none, a, b] w fun e w' => e = .returned (.int .i64 2) ∧ w' = w := by
  go_enter Try.func14, Try.ntmps14
  go_wp2_with fail
  refine (nilt_open _).mono ?_
  rintro e9 w1 ⟨rfl, rfl⟩
  go_wp2_with fail
  go_ret
  exact ⟨rfl, rfl⟩

theorem nilt_commit (w : World) : Calls Try.prog 22 #[.pointer none] w fun e w' => e = .returned (.int .i64 2) ∧ w' = w := by
  go_enter Try.func22, Try.ntmps22
  go_wp2_with fail
  refine (nilt_open _).mono ?_
  rintro e9 w1 ⟨rfl, rfl⟩
  go_wp2_with fail
  go_ret
  exact ⟨rfl, rfl⟩

theorem nilt_size (w : World) : Calls Try.prog 20 #[.pointer none] w fun e w' => e = .returned (.int .i64 0) ∧ w' = w := by
  go_enter Try.func20, Try.ntmps20
  go_wp2_with fail
  refine (nilt_none _).mono ?_
  rintro e9 w1 ⟨rfl, rfl⟩
  go_wp2_with fail
  go_ret
  exact ⟨rfl, rfl⟩

theorem nilt_begin (w : World) : Calls Try.prog 11 #[.pointer none] w fun e w' => e = .returned (.tuple #[.pointer none, .int .i64 2]) ∧ w' = w := by
  go_enter Try.func11, Try.ntmps11
  go_wp2_with fail
  go_ret2
  exact ⟨rfl, rfl⟩
end Go.Proofs.Ytbpehfadmilhdaa.Oct
namespace Go.Proofs.Ytbpehfadmilhdaa.Oct
open Go.RowKit Go.Deep Go.WideShapes Go.ChangeShapes Go.ChangeAt Go.Sort

/-- A refusal's number, or none. -/
def no4 (b : Bool) : Int := if b then 0 else 4
theorem no4_yes : no4 true = 0 := rfl
theorem no4_no : no4 false = 4 := rfl

theorem getT6 (w : World) (T J F : Nat) (X : Nat → Prop) (f : Fs) (A : A3) (k n : Nat) (vb vm va : Value) (B M : Int → List Int) (p q : Nat) (nu : Int) (h : Txq w T J F X f A k n vb vm va B M p q nu) (hk : 1 ≤ k) (hn : n ≤ 900000) (t m : Int) (ht : t ≤ 9223372036854775807) (b : Bool) (hb : b = decide (0 ≤ t ∧ 0 ≤ m ∧ m ≤ 4194304 - t)) :
    Calls Try.prog 17 #[.pointer (some ⟨T, 0, none⟩), .int .i64 t, .int .i64 m] w fun e w' => (∃ v, e = .returned (.tuple #[v, .int .i64 (no4 b)])) ∧ (∃ f' k' n', Txq w' T J F X f' A k' n' vb vm va B M p q nu) ∧ Chg X w w' := by
  by_cases hc : 0 ≤ t ∧ 0 ≤ m ∧ m ≤ 4194304 - t
  · rw [decide_eq_true hc] at hb
    subst hb
    obtain ⟨tn, rfl⟩ := Int.eq_ofNat_of_zero_le hc.1
    obtain ⟨mn, rfl⟩ := Int.eq_ofNat_of_zero_le hc.2.1
    refine (get_q w T J F X f A k n vb vm va B M p q nu h hn tn mn (by omega)).mono ?_
    rintro e w' ⟨⟨f', hq⟩, hc', ⟨_, v, l, rfl, _⟩ | ⟨hno, _⟩⟩
    · exact ⟨⟨v, rfl⟩, ⟨f', _, _, hq⟩, hc'⟩
    · exact absurd (show rdc A.S tn mn ≤ k by unfold rdc; split <;> omega) hno
  · rw [decide_eq_false hc] at hb
    subst hb
    refine (get_no w T J vb vm va false h.tx t m ht (by omega)).mono ?_
    rintro e w' ⟨rfl, rfl⟩
    exact ⟨⟨_, rfl⟩, ⟨f, k, n, h⟩, Chg.refl _ _⟩

theorem putT6 (w : World) (T J F : Nat) (X : Nat → Prop) (f : Fs) (A : A3) (k n : Nat) (vb vm va : Value) (B M : Int → List Int) (p q : Nat) (nu : Int) (h : Txq w T J F X f A k n vb vm va B M p q nu) (t : Int) (ht : t ≤ 9223372036854775807) (a : Option Addr) (cap : Nat) (l : List Int) (hl : Lies w a l) (hcap : l.length ≤ cap ∧ cap ≤ 9223372036854775807)
    (hlT : 0 < l.length → ∀ x, a = some x → x.block ≠ T ∧ ∀ r, vb = .map (some r) ∨ vm = .map (some r) → x.block ≠ r) (b : Bool) (hb : b = decide (0 ≤ t ∧ (l.length : Int) ≤ 4194304 - t)) :
    Calls Try.prog 13 #[.pointer (some ⟨T, 0, none⟩), .int .i64 t, .slice a l.length cap] w fun e w' => e = .returned (.int .i64 (no4 b)) ∧ (∃ vb' vm' B' M', Txq w' T J F X f A k n vb' vm' va B' M' p q nu ∧ ∀ r, vb' = .map (some r) ∨ vm' = .map (some r) → (vb = .map (some r) ∨ vm = .map (some r)) ∨ w.heap.size ≤ r) ∧ Chg (fun k => k = T ∨ vb = .map (some k) ∨ vm = .map (some k)) w w' := by
  by_cases hc : 0 ≤ t ∧ (l.length : Int) ≤ 4194304 - t
  · rw [decide_eq_true hc] at hb
    subst hb
    obtain ⟨tn, rfl⟩ := Int.eq_ofNat_of_zero_le hc.1
    refine (put_q w T J F X f A k n vb vm va B M p q nu h a cap l.length l rfl hl hcap hlT tn (by omega)).mono ?_
    rintro e w' ⟨rfl, ⟨vb', vm', B', M', hq, _, hr⟩, hc'⟩
    exact ⟨rfl, ⟨vb', vm', B', M', hq, hr⟩, hc'⟩
  · rw [decide_eq_false hc] at hb
    subst hb
    refine (put_no w T J vb vm va h.tx t ht a l.length cap (by omega)).mono ?_
    rintro e w' ⟨rfl, rfl⟩
    exact ⟨rfl, ⟨vb, vm, B, M, h, fun r hr => Or.inl hr⟩, Chg.refl _ _⟩

theorem freshT6 (w : World) (T J F : Nat) (X : Nat → Prop) (f : Fs) (A : A3) (k n : Nat) (vb vm : Value) (B M : Int → List Int) (p q : Nat) (nu : Int) (h : Txq w T J F X f A k n vb vm (.slice none 0 0) B M p q nu) (t : Int) (ht : t ≤ 9223372036854775807) (a : Option Addr) (cap : Nat) (l : List Int) (hl : Lies w a l) (hcap : l.length ≤ cap ∧ cap ≤ 9223372036854775807)
    (hlT : 0 < l.length → ∀ x, a = some x → x.block ≠ T ∧ ∀ r, vb = .map (some r) ∨ vm = .map (some r) → x.block ≠ r) (b : Bool) (hb : b = decide ((0 ≤ t ∧ (l.length : Int) ≤ 4194304 - t) ∧ t % 512 = 0)) :
    Calls Try.prog 14 #[.pointer (some ⟨T, 0, none⟩), .int .i64 t, .slice a l.length cap] w fun e w' => e = .returned (.int .i64 (no4 b)) ∧ Chg (fun k => k = T ∨ vb = .map (some k) ∨ vm = .map (some k)) w w' := by
  by_cases hc : 0 ≤ t ∧ (l.length : Int) ≤ 4194304 - t
  · obtain ⟨tn, rfl⟩ := Int.eq_ofNat_of_zero_le hc.1
    by_cases h5 : tn % 512 = 0
    · rw [decide_eq_true ⟨hc, by omega⟩] at hb
      subst hb
      by_cases h0 : l.length = 0
      · rw [h0]
        refine (fresh_none w T J vb vm _ h.tx tn a cap (by omega) h5).mono ?_
        rintro e w' ⟨rfl, rfl⟩
        exact ⟨rfl, Chg.refl _ _⟩
      · refine (fresh_q w T J F X f A k n vb vm _ B M p q nu h 0 [] ⟨World.ownsRow_nil _ _ _ _, fun r hr => by cases hr⟩ (by omega) (by simp) (fun g hg => by simp [Value.ownBlock] at hg) a cap l.length l rfl (by omega) hl hcap (fun x hx => ⟨(hlT (by omega) x hx).1, by simp [Value.ownBlock], (hlT (by omega) x hx).2⟩) tn (by omega) h5).mono ?_
        rintro e w' ⟨rfl, _, hc'⟩
        refine ⟨rfl, hc'.mono (fun i _ e => ?_)⟩
        rcases e with e | e | e
        · exact Or.inl e
        · simp [Value.ownBlock] at e
        · exact Or.inr e
    · rw [decide_eq_false (fun e => h5 (by omega))] at hb
      subst hb
      refine (fresh_odd w T J vb vm _ h.tx tn a l.length cap (by omega) h5).mono ?_
      rintro e w' ⟨rfl, rfl⟩
      exact ⟨rfl, Chg.refl _ _⟩
  · rw [decide_eq_false (fun e => hc e.1)] at hb
    subst hb
    refine (fresh_no w T J vb vm _ h.tx t ht a l.length cap (by omega)).mono ?_
    rintro e w' ⟨rfl, rfl⟩
    exact ⟨rfl, Chg.refl _ _⟩
set_option maxRecDepth 100000 in
set_option maxHeartbeats 16000000 in
theorem txnils_walk (t n : Int) (a : Option Addr) (cap : Nat) (l : List Int) (w : World) (ht : -9223372036854775808 ≤ t ∧ t ≤ 9223372036854775807) (hn : -9223372036854775808 ≤ n ∧ n ≤ 9223372036854775807) (hs : Sl w a cap l) :
    Calls Try.prog 6 #[.int .i64 t, .int .i64 n, .slice a l.length cap] w fun e w' => e = .returned (.bool true) ∧ Below w.heap.size w w' := by
  have HS := hide hs
  have hcap : l.length ≤ cap ∧ cap ≤ 9223372036854775807 := ⟨hs.le, by have := hs.max; unfold maxLen at this; omega⟩
  have hlm : l.length ≤ 9223372036854775807 := by omega
  clear hs
  by_cases hbig : 2000 < l.length
  · go_enter Try.func6, Try.ntmps6
    go_wp2_with fail
    refine (changed6 _).mono ?_
    rintro e9 w5 ⟨rfl, hb5⟩
    have HB5 := hide hb5
    clear hb5
    go_wp2_with fail
    go_ret
    exact ⟨rfl, HB5.out⟩
  by_cases hn5 : 5000 < n ∧ n ≤ 4194304
  · obtain ⟨hn6, hn7⟩ := hn5
    go_enter Try.func6, Try.ntmps6
    go_wp2_with fail
    refine (changed6 _).mono ?_
    rintro e9 w5 ⟨rfl, hb5⟩
    have HB5 := hide hb5
    clear hb5
    go_wp2_with fail
    go_ret
    exact ⟨rfl, HB5.out⟩
  have hN : (n < 0 ∧ ¬ 5000 < n) ∨ (0 ≤ n ∧ ¬ 5000 < n) ∨ (5000 < n ∧ ¬ n ≤ 4194304) := by omega
  clear hn5
  have hA : (t < 0 ∧ ¬ 0 ≤ t) ∨ (0 ≤ t ∧ ¬ t ≤ 4194304) ∨ (0 ≤ t ∧ t ≤ 4194304) := by omega
  rcases hN with ⟨hn1, hn2⟩ | ⟨hn1, hn2⟩ | ⟨hn1, hn2⟩
  all_goals
    have HBs := hide (base_any w 100 1)
    go_enter Try.func6, Try.ntmps6
    go_wp2_with fail
    refine HBs.out.mono ?_
    rintro e9 w1 ⟨v1, S, m, rfl, ho1, hS, hm, hmm, hb1⟩
    obtain ⟨hSl, hSv⟩ := hS
    obtain ⟨a1, c1, rfl, hl1, _⟩ := ho1.form
    have HOp := hide (open6 w1 a1 c1 S hl1 (by omega) (by omega))
    have HB1 := hide hb1
    clear ho1 hl1 hb1 hSl hSv hmm hm HBs
    go_wp2_with fail
    refine HOp.out.mono ?_
    rintro e9 w2 ⟨F, J, f, X, rfl, hf2, hj2, hx2, hlo2, hjl2, hb2⟩
    have HB2 := hide (HB1.out.trans (hb2.mono HB1.out.size))
    have HF2 := hide hf2
    have HJ2 := hide hj2
    have HX2 := hide hx2
    have HXw : Hid (∀ i, X i → w.heap.size ≤ i) := hide (fun i hi => Nat.le_trans HB1.out.size (hlo2 i hi))
    have HBg := hide (begin_ok w2 J)
    have HXl := hide hf2.x
    have hjl := hj2.lt
    clear hf2 hj2 hx2 hlo2 hb2 HOp
    go_wp2_with fail
    refine HBg.out.mono ?_
    rintro e9 w3 ⟨T, rfl, hT3, htx3, hb3⟩
    have hq3 : Txq w3 T J F X f ⟨S, S, []⟩ 2000000 0 (.map none) (.map none) (.slice none 0 0) nobM nobM 512 10752 0 :=
      ⟨htx3, ⟨Or.inl ⟨rfl, fun _ => rfl⟩, Or.inl ⟨rfl, fun _ => rfl⟩, fun _ => Z5_len, fun _ => Z5_len⟩, Or.inl ⟨rfl, rfl⟩, HJ2.out.below hb3, HF2.out.below hb3, fun e => by have := HXl.out T e; omega, HX2.out, fun r hr => (by rcases hr with h | h <;> cases h), (by omega)⟩
    have HB3 := hide (HB2.out.trans (hb3.mono HB2.out.size))
    have hTw : w.heap.size ≤ T := by have := HB2.out.size; omega
    have HQ3 := hide hq3
    clear hq3 htx3 hb3 HBg hjl hjl2 HJ2 HF2
    rcases hA with ⟨ha1, ha2⟩ | ⟨ha1, ha2⟩ | ⟨ha1, ha2⟩
    all_goals
      by_cases hG : 0 ≤ t ∧ 0 ≤ n ∧ n ≤ 4194304 - t
      all_goals
        by_cases hP : 0 ≤ t ∧ (l.length : Int) ≤ 4194304 - t
        all_goals
          by_cases hW : (0 ≤ t ∧ (l.length : Int) ≤ 4194304 - t) ∧ t % 512 = 0
          all_goals
            first
            | (exfalso; omega)
            | skip
  all_goals
    have HaB : Hid (0 < l.length → ∀ x, a = some x → x.block < w.heap.size) := hide (fun h0 x hx => by
      rcases HS.out.lies with h | ⟨b, off, h1, h2, _⟩
      · rw [h] at h0; simp at h0
      · rw [hx] at h1; cases h1; exact h2)
    first
    | have Eg : Hid (no4 (decide (0 ≤ t ∧ 0 ≤ n ∧ n ≤ 4194304 - t)) = 0) := hide (by rw [decide_eq_true hG, no4_yes])
    | have Eg : Hid (no4 (decide (0 ≤ t ∧ 0 ≤ n ∧ n ≤ 4194304 - t)) = 4) := hide (by rw [decide_eq_false hG, no4_no])
    first
    | have Ep : Hid (no4 (decide (0 ≤ t ∧ (l.length : Int) ≤ 4194304 - t)) = 0) := hide (by rw [decide_eq_true hP, no4_yes])
    | have Ep : Hid (no4 (decide (0 ≤ t ∧ (l.length : Int) ≤ 4194304 - t)) = 4) := hide (by rw [decide_eq_false hP, no4_no])
    first
    | have Ew : Hid (no4 (decide ((0 ≤ t ∧ (l.length : Int) ≤ 4194304 - t) ∧ t % 512 = 0)) = 0) := hide (by rw [decide_eq_true hW, no4_yes])
    | have Ew : Hid (no4 (decide ((0 ≤ t ∧ (l.length : Int) ≤ 4194304 - t) ∧ t % 512 = 0)) = 4) := hide (by rw [decide_eq_false hW, no4_no])
    first
    | have q0 : 0 ≤ n := by omega
    | have q0 : ¬ 0 ≤ n := by omega
    first
    | have q1 : n ≤ 4194304 - t := by omega
    | have q1 : ¬ n ≤ 4194304 - t := by omega
    | skip
    first
    | have q2 : (l.length : Int) ≤ 4194304 - t := by omega
    | have q2 : ¬ ((l.length : Int) ≤ 4194304 - t) := by omega
    | skip
    obtain ⟨z, hz1, hz2⟩ : ∃ z : Int, t.tmod 512 = z ∧ (0 ≤ t → t % 512 = z) := ⟨_, rfl, fun h => (Int.tmod_eq_emod_of_nonneg h).symm⟩
    first
    | (have hz3 : z = 0 := by have := hz2 (by omega); omega
       have hz5 : t % 512 = z := hz2 (by omega)
       subst hz3)
    | (have hz4 : ¬ z = 0 := by have := hz2 (by omega); omega
       have hz6 : (z == 0) = false := by simpa using hz4
       have hz5 : t % 512 = z := hz2 (by omega))
    | skip
    clear hz2 hG hP hW
    have HGe := hide (getT6 w3 T J F X f _ _ _ _ _ _ _ _ _ _ _ HQ3.out (by omega) (by omega) t n ht.2 _ rfl)
    rw [Eg.out] at HGe
    have Htt := hide ht.2
    have HTw := hide hTw
    clear ht hn hTw
    go_wp2_with fail
    refine HGe.out.mono ?_
    rintro e9 w4 ⟨⟨v4, rfl⟩, ⟨f4, k4, n4, hq4⟩, hc4⟩
    have HB4 : Hid (Below w.heap.size w w4) := hide (HB3.out.trans (hc4.below _ HB3.out.size (fun i hi e => by have := HXw.out i e; omega)))
    have HPu := hide (putT6 w4 T J F X f4 _ k4 n4 _ _ _ _ _ _ _ _ hq4 t Htt.out a cap l (HS.out.lies.below HB4.out) hcap (fun h0 x hx => ⟨by have := HaB.out h0 x hx; have := HTw.out; omega, fun r hr => by rcases hr with h | h <;> cases h⟩) _ rfl)
    rw [Ep.out] at HPu
    clear hq4 hc4 HGe
    go_wp2_with fail
    refine HPu.out.mono ?_
    rintro e9 w5 ⟨rfl, ⟨vb5, vm5, B5, M5, hq5, hr5⟩, hc5⟩
    have HB5 : Hid (Below w.heap.size w w5) := hide (HB4.out.trans (hc5.below _ HB4.out.size (fun i hi e => by
      rcases e with e | e | e
      · have := HTw.out; omega
      · cases e
      · cases e)))
    have HMp : Hid (∀ r, vb5 = .map (some r) ∨ vm5 = .map (some r) → w.heap.size ≤ r) := hide (fun r hr => by
      rcases hr5 r hr with (h | h) | h
      · cases h
      · cases h
      · exact Nat.le_trans HB4.out.size h)
    have HFr := hide (freshT6 w5 T J F X f4 _ k4 n4 vb5 vm5 B5 M5 _ _ _ hq5 t Htt.out a cap l (HS.out.lies.below HB5.out) hcap (fun h0 x hx => ⟨by have := HaB.out h0 x hx; have := HTw.out; omega, fun r hr => by have := HMp.out r hr; have := HaB.out h0 x hx; omega⟩) _ rfl)
    rw [Ew.out] at HFr
    clear hq5 hc5 hr5 HPu
    go_wp2_with fail
    refine HFr.out.mono ?_
    rintro e9 w6 ⟨rfl, hc6⟩
    have HB6 : Hid (Below w.heap.size w w6) := hide (HB5.out.trans (hc6.below _ HB5.out.size (fun i hi e => by
      rcases e with e | e | e
      · have := HTw.out; omega
      · have := HMp.out i (Or.inl e); omega
      · have := HMp.out i (Or.inr e); omega)))
    clear hc6 HFr
    go_wp2_with fail
    refine (nilt_begin _).mono ?_
    rintro e9 w7 ⟨rfl, h7⟩
    rw [h7]
    clear h7 w7
    go_wp2_with fail
    refine (nilt_get _ _ _).mono ?_
    rintro e9 w7 ⟨rfl, h7⟩
    rw [h7]
    clear h7 w7
    go_wp2_with fail
    refine (changed6 _).mono ?_
    rintro e9 w8 ⟨rfl, hb8⟩
    have HB8 := hide (HB6.out.trans (hb8.mono HB6.out.size))
    clear hb8
    go_wp2_with fail
    refine (nilt_put _ _ _).mono ?_
    rintro e9 w9 ⟨rfl, h9⟩
    rw [h9]
    clear h9 w9
    go_wp2_with fail
    refine (nilt_fresh _ _ _).mono ?_
    rintro e9 w9 ⟨rfl, h9⟩
    rw [h9]
    clear h9 w9
    go_wp2_with fail
    refine (nilt_commit _).mono ?_
    rintro e9 w9 ⟨rfl, h9⟩
    rw [h9]
    clear h9 w9
    go_wp2_with fail
    refine (nilt_size _).mono ?_
    rintro e9 w9 ⟨rfl, h9⟩
    rw [h9]
    clear h9 w9
    go_wp2_with fail
    go_ret
    exact ⟨rfl, HB8.out⟩

set_option maxRecDepth 100000 in
theorem txNils_lifted (os : Os) (started : os.Started) (H : Type) (enc : TypeId × Value → H) :
    ReturnsInHanded {} Try.checked os 6 .any (Rows.txNilsSpec.pre6 enc Try.prog Try.f6 Rows.txNilsRow.domain false) (Rows.txNilsSpec.post enc Try.prog Try.f6 false true false false) := by
  refine returnsInHanded_of_change (C := Try.checked) own started (by kernel_rfl) Try.func6
    (ChangeSpec.witness6 (enc := enc) (C := Try.checked) false ⟨#[], #[.int .i64 0, .int .i64 0, .slice none 0 0], []⟩ 8 (by kernel_rfl) (by kernel_rfl) (by kernel_rfl) (by kernel_rfl)) ?_
  intro W base args ds gs before hval0 hW _ _
  have hval : ∀ (j : Nat) t v, Try.f6.params[j]? = some t → args[j]? = some v → Value.okWide Try.prog W .any base t v := hval0
  have hW' := hW
  obtain ⟨p, q, hA0, hV, rfl, hfz, hnd⟩ := hW
  have hA : DataW.TrodAll enc Try.prog W 0 (fun _ => true) true Try.f6.params.toList args.toList ds p := hA0
  rw [Try.params6] at hA hval
  obtain ⟨v0, vs0, d0, ds0, p0, q0, hargs0, rfl, rfl, h0, r0⟩ := trodAll_cons hA
  obtain ⟨v1, vs1, d1, ds1, p1, q1, hargs1, rfl, rfl, h1, r1⟩ := trodAll_cons r0
  obtain ⟨v2, vs2, d2, ds2, p2, q2, hargs2, rfl, rfl, h2, r2⟩ := trodAll_cons r1
  obtain ⟨rfl, rfl, rfl⟩ := trodAll_nil r2
  subst hargs2
  subst hargs1
  obtain rfl : args = #[v0, v1, v2] := by cases args; simp_all
  obtain ⟨rfl, rfl⟩ := trodVars_none hV
  simp only [List.append_nil] at hW'
  have hlt2 : ∀ x ∈ p2, x.block < W.heap.size := fun x hx => by simpa using hW'.lt x (by simp [hx])
  obtain ⟨x0, rfl, rfl, rfl, w0⟩ := open_int Try.underlying2 (hval 0 2 v0 rfl rfl) h0
  obtain ⟨x1, rfl, rfl, rfl, w1⟩ := open_int Try.underlying2 (hval 1 2 v1 rfl rfl) h1
  obtain ⟨a2, cap2, l2, rfl, hn2, hb2, hl2, hs2⟩ := open_bytes (hval 2 25 v2 rfl rfl) h2
  clear hA0
  refine (txnils_walk x0 x1 a2 cap2 l2 W (wf_i64 w0) (wf_i64 w1) hs2).mono fun e W' ⟨he, hb⟩ => ?_
  subst he
  refine ⟨_, rfl, _, _, _, [], ([] ++ ([] ++ (p2 ++ []))), [], hW', ?_, ?_, rfl, hb.frame _, fun h => by cases h⟩
  · exact trodAll_cons_mk (shut_bool Try.underlying4 _) trodAll_mk0
  · exact trodAll_cons_mk (shut_int Try.underlying2 w0) (trodAll_cons_mk (shut_int Try.underlying2 w1) (trodAll_cons_mk (Below.trod laidOut (by kernel_rfl) (of_decide_eq_true (by kernel_rfl)) h2 hb hlt2) (trodAll_mk0)))

theorem txNils_holds : Rows.TxNilsSaid :=
  OpenClaim.holds_of_wide 6 Try.f6 rfl rfl rfl rfl rfl rfl rfl ⟨rfl, rfl, rfl, rfl, rfl⟩ rfl rfl rfl rfl rfl (by kernel_rfl) Try.func6 (by kernel_rfl)
    (of_decide_eq_true (by kernel_rfl)) (by unfold Func.isWrapper; first | (rw [if_pos (by decide +kernel)]; kernel_rfl) | (rw [if_neg (by decide +kernel)]; exact ⟨rfl, rfl⟩))
    (fun os started H enc _ => txNils_lifted os started H enc)
end Go.Proofs.Ytbpehfadmilhdaa.Oct
