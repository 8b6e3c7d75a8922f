/- TxPlays, for every input: what is read within changes is the file with all that was put, and written ahead, so far; the file itself isn't changed by it (no condition). -/
import Derived.Test.YtbpehfadmilhdaaTyj
import Derived.Test.YtbpehfadmilhdaaJrp
import Derived.Lib.SlBytesConst
import Derived.Test.YtbpehfadmilhdaaOpen
import Derived.Test.YtbpehfadmilhdaaCrs
import Derived.Lib.SmallJoins
import Derived.Deep.Slices
import Derived.Handy
import Derived.Test.YtbpehfadmilhdaaRows
namespace Go.Proofs.Ytbpehfadmilhdaa.Oct
open Go.RowKit Go.Deep Go.Sort

set_option maxRecDepth 100000 in
set_option maxHeartbeats 8000000 in
theorem put_q (w : World) (T J F : Nat) (X : Nat → Prop) (f : Fs) (A : A3) (k n : Nat) (vb vm va : Value) (B M : Int → List Int) (p q : Nat) (nu : Int) (h : Txq w T J F X f A k n vb vm va B M p q nu) (a : Option Addr) (cap m : Nat) (pl : List Int) (hm : m = pl.length) (hl : Lies w a pl) (hcap : m ≤ cap ∧ cap ≤ 9223372036854775807)
    (hlT : 0 < m → ∀ x, a = some x → x.block ≠ T ∧ ∀ r, vb = .map (some r) ∨ vm = .map (some r) → x.block ≠ r) (t : Nat) (htn : t + m ≤ 4194304) :
    Calls Try.prog 13 #[.pointer (some ⟨T, 0, none⟩), .int .i64 t, .slice a m cap] w fun e w' => e = .returned (.int .i64 0) ∧ (∃ vb' vm' B' M', Txq w' T J F X f A k n vb' vm' va B' M' p q nu ∧ Laid B M B' M' t m pl 2 ∧ ∀ r, vb' = .map (some r) ∨ vm' = .map (some r) → (vb = .map (some r) ∨ vm = .map (some r)) ∨ w.heap.size ≤ r) ∧ Chg (fun k => k = T ∨ vb = .map (some k) ∨ vm = .map (some k)) w w' := by
  have HH := hide h
  have HOp := hide (open_tx w T J vb vm _ h.tx)
  have HOu := hide (outside_no w t m htn)
  have HLy := hide (lay_by 2 (by omega) w T J vb vm _ false B M h.tx h.ov h.mm a cap m pl hm hl hcap hlT t htn)
  have HXl := hide h.fl.x
  clear h hl hlT hm
  go_enter Try.func13, Try.ntmps13
  go_wp2_with fail
  refine HOp.out.mono ?_
  rintro e9 w9 ⟨rfl, h9⟩
  subst h9
  go_wp2_with fail
  refine HOu.out.mono ?_
  rintro e9 w9 ⟨rfl, h9⟩
  subst h9
  go_wp2_with fail
  refine HLy.out.mono ?_
  rintro e9 w10 ⟨rfl, ⟨r1, r2, B', M', ht, ho, hr, hrr, hv⟩, hc⟩
  have HRr := hide hrr
  have HT := hide ht
  have HO := hide ho
  have HV := hide hv
  have HC := hide hc
  clear ht ho hv hc hrr
  go_wp2_with fail
  go_ret
  have hnY : ∀ k, k < w9.heap.size → X k → ¬ (k = T ∨ vb = .map (some k) ∨ vm = .map (some k)) := fun k _ hk e => by
    rcases e with rfl | e | e
    · exact HH.out.xT hk
    · exact HH.out.xM k (Or.inl e) hk
    · exact HH.out.xM k (Or.inr e) hk
  have hJn : ¬ (J = T ∨ vb = .map (some J) ∨ vm = .map (some J)) := fun e => by
    have hj : w9.heap[J]? = _ := HH.out.jr
    rcases e with e | e | e
    · exact HH.out.jt e
    · obtain ⟨_, es, c, he⟩ := HH.out.ov.b.lt J e
      rw [he] at hj; cases hj
    · obtain ⟨_, es, c, he⟩ := HH.out.ov.m.lt J e
      rw [he] at hj; cases hj
  have hr12 : ∀ r, (r = r1 ∨ r = r2) → ¬ X r := by
    intro r hrr hx
    rcases HRr.out r hrr with h | h
    · exact HH.out.xM r h hx
    · have := HXl.out r hx
      omega
  refine ⟨rfl, ⟨.map (some r1), .map (some r2), B', M', ⟨HT.out, HO.out, Or.inr ⟨r1, r2, rfl, rfl, hr⟩, (HC.out.block J HH.out.jr.lt hJn).trans HH.out.jr, HH.out.fl.chg HC.out hnY, HH.out.xT, HH.out.xJ, fun r e => hr12 r (by simpa [eq_comm] using e), HH.out.jt⟩, HV.out, fun r e => HRr.out r (by simpa [eq_comm] using e)⟩, HC.out⟩

set_option maxRecDepth 100000 in
theorem put_done (w : World) (T J : Nat) (vb vm va : Value) (ht : Txs w T J vb vm va true) (a b : Value) :
    Calls Try.prog 13 #[.pointer (some ⟨T, 0, none⟩), a, b] w fun e w' => e = .returned (.int .i64 6) ∧ w' = w := by
  have HNo := hide (none_tx w T J vb vm va true ht)
  have c4 := ht.cell.2.2.2.2
  have HOp : Hid (Calls Try.prog 32 #[.pointer (some ⟨T, 0, none⟩)] w fun e w' => e = .returned (.int .i64 6) ∧ w' = w) := hide (by
    go_enter Try.func32, Try.ntmps32
    go_wp2_with fail
    refine HNo.out.mono ?_
    rintro e9 w9 ⟨rfl, h9⟩
    rw [h9]
    clear h9
    go_wp2_with fail
    go_ret
    exact ⟨rfl, rfl⟩)
  clear ht c4 HNo
  go_enter Try.func13, Try.ntmps13
  go_wp2_with fail
  refine HOp.out.mono ?_
  rintro e9 w9 ⟨rfl, h9⟩
  rw [h9]
  clear h9
  go_wp2_with fail
  go_ret
  exact ⟨rfl, rfl⟩

theorem mod7 (x : Int) : ∃ n : Nat, n < 7000 ∧ (IntKind.u64.wrap x).tmod 7000 = (n : Int) := by
  have h0 : 0 ≤ IntKind.u64.wrap x := by rw [IntKind.wrap_u64]; omega
  have e : (IntKind.u64.wrap x).tmod 7000 = (IntKind.u64.wrap x) % 7000 := Int.tmod_eq_emod_of_nonneg h0
  rw [e]
  generalize IntKind.u64.wrap x = y at *
  exact ⟨(y % 7000).toNat, by omega, by omega⟩

/-- A file's bytes: noughts up to behind the journal, then one byte. -/
def BaseL (S : List Int) (m : Nat) (c : Int) : Prop := S.length = 10752 + m ∧ ∀ j, j < S.length → S.getD j 0 = if 10752 ≤ j then c else 0

set_option maxRecDepth 100000 in
set_option maxHeartbeats 4000000 in
theorem base_any (w : World) (x c : Int) : Calls Try.prog 9 #[.int .i64 x, .int .u8 c] w fun e w' => ∃ v S m, e = .returned v ∧ Own w' w.heap.size v S ∧ BaseL S m c ∧ m < 7000 ∧ (IntKind.u64.wrap x).tmod 7000 = ((m : Nat) : Int) ∧ Below w.heap.size w w' := by
  obtain ⟨m, hm, hx⟩ := mod7 x
  have HX := hide hx
  have HZ := hide (Zeros_any (10752 + m) w (by omega))
  rw [show ((10752 + m : Nat) : Int) = 10752 + (m : Int) by omega] at HZ
  go_enter Try.func9, Try.ntmps9
  go_wp2_with fail
  refine HZ.out.mono ?_
  rintro e9 w1 ⟨v, rfl, ho1, hb1⟩
  obtain ⟨Z, hZ⟩ : ∃ Z, Z = List.replicate (10752 + m) (0 : Int) := ⟨_, rfl⟩
  rw [← hZ] at ho1
  have hZl : Z.length = 10752 + m := by rw [hZ]; exact List.length_replicate
  have HZz : Hid (∀ j, Z.getD j 0 = 0) := hide (fun j => by
    rw [hZ, List.getD_eq_getElem?_getD, List.getElem?_replicate]
    split <;> rfl)
  obtain ⟨a, cap, rfl, hl, _, hcap, hcm, hg⟩ := ho1.form
  obtain ⟨g, rfl, hg1, hg2⟩ := hg (fun e => by rw [e] at hZl; simp at hZl; omega)
  have HO1 := hide ho1
  have HB1 := hide hb1
  have HZl := hide hZl
  obtain ⟨N, hN⟩ : ∃ N, N = Z.length := ⟨_, rfl⟩
  have hNb : N ≤ 17752 ∧ 10752 ≤ N := by omega
  rw [← hN] at HO1 ⊢
  have HN := hide (hN.trans hZl)
  have HNZ := hide hN
  clear ho1 hb1 hl hZ hZl hcap hN
  go_wp2_with fail
  go_loopw [6] (fun i wr => ∃ (k : Nat) (L : List Int), 10752 ≤ k ∧ k ≤ N ∧ i = .int .i64 (k : Int) ∧ L.length = N ∧ (∀ j, j < N → L.getD j 0 = if 10752 ≤ j ∧ j < k then c else 0) ∧ Own wr w.heap.size (.slice (some ⟨g, 0, none⟩) N cap) L ∧ Below w.heap.size w wr) (fun i _ => N - (intOf i).toNat)
  case atStart => exact ⟨10752, Z, by omega, by omega, rfl, HNZ.out.symm, fun j _ => by rw [HZz.out, if_neg (by omega)], HO1.out, HB1.out⟩
  case round =>
    obtain ⟨k, L, hk1, hk, rfl, hLl, hv, ho, hb⟩ := hrel
    have HV := hide hv
    have HB := hide hb
    have HO := hide ho
    have HLl := hide hLl
    clear hv hb hLl
    by_cases hlt : k < N
    · have f0 := HO.out.free HLl.out.symm k
      have c0 := HO.out.cell HLl.out.symm k hlt
      obtain ⟨hs1, hs2⟩ := HO.out.set HLl.out.symm k c
      have HS1 := hide hs1
      have HS2 : Hid (Below w.heap.size w (wr.setCell ⟨g, k, none⟩ (.int .u8 c))) := hide (HB.out.setCell (p := ⟨g, k, none⟩) hg1 _)
      clear hs1 hs2 ho
      go_wp2_with fail
      refine ⟨⟨k + 1, L.set k c, by omega, by omega, by go_num, by rw [List.length_set]; exact HLl.out, fun j hj => ?_, HS1.out, HS2.out⟩, by simp [intOf]; omega⟩
      rw [getD_set _ _ _ _ (by rw [HLl.out]; exact hlt)]
      by_cases e : k = j
      · rw [if_pos e, if_pos (by omega)]
      · rw [if_neg e, HV.out j hj]
        by_cases h2 : 10752 ≤ j ∧ j < k
        · rw [if_pos h2, if_pos (by omega)]
        · rw [if_neg h2, if_neg (by omega)]
    · obtain rfl : k = N := by omega
      clear ho
      go_wp2_with fail
      go_ret
      refine ⟨_, L, m, rfl, HO.out, ⟨by rw [HLl.out]; exact HN.out, fun j hj => ?_⟩, hm, HX.out, HB.out⟩
      rw [HV.out j (by rw [← HLl.out]; exact hj)]
      rw [HLl.out] at hj
      by_cases h2 : 10752 ≤ j
      · rw [if_pos h2, if_pos ⟨h2, hj⟩]
      · rw [if_neg h2, if_neg (fun e => h2 e.1)]
end Go.Proofs.Ytbpehfadmilhdaa.Oct
namespace Go.Proofs.Ytbpehfadmilhdaa.Oct
open Go.RowKit Go.Deep Go.Sort

set_option maxRecDepth 100000 in
set_option maxHeartbeats 2000000 in
theorem open6 (w : World) (a : Option Addr) (cap : Nat) (l : List Int) (hl : Lies w a l) (hlen : l.length ≤ 4194304) (hf : 10752 ≤ l.length) :
    Calls Try.prog 10 #[.slice a l.length cap] w fun e w' => ∃ F J f X, e = .returned (.tuple #[.pointer (some ⟨F, 0, none⟩), .pointer (some ⟨J, 0, none⟩), .bool true]) ∧
      Fl w' X F f ⟨l, l, []⟩ 2000000 0 ∧ Jrn w' J F (512 : Nat) (10752 : Nat) 0 ∧ ¬ X J ∧ (∀ i, X i → w.heap.size ≤ i) ∧ w.heap.size ≤ J ∧ Below w.heap.size w w' := by
  have HN1 := hide (new_fl w a cap l hl hlen)
  clear hl
  go_enter Try.func10, Try.ntmps10
  go_wp2_with fail
  refine HN1.out.mono ?_
  rintro e9 w2 ⟨F, f, rfl, hf2, hf0, hb2⟩
  have HF2 := hide hf2
  have HB2 := hide hb2
  have hs12 := hb2.size
  have HJ := hide (jnew_fl w2 _ F f _ _ _ hf2 512 10240 (by omega) (by omega) (by omega) (by show 512 + 10240 ≤ l.length; omega))
  clear hf2 hb2 hf0 HN1
  go_wp2_with fail
  refine HJ.out.mono ?_
  rintro e9 w3 ⟨J, rfl, hj, hJ3, hb3⟩
  have HJ3 := hide hJ3
  have HF3 := hide (HF2.out.below hb3)
  have HB3 := hide (HB2.out.trans (hb3.mono HB2.out.size))
  clear hJ3 hb3 HJ
  go_wp2_with fail
  go_ret3
  exact ⟨F, J, f, _, rfl, HF3.out, HJ3.out, fun e => by omega, fun i hi => hi.1, by omega, HB3.out⟩

theorem mem2 {M : Int → List Int} {n : Nat} (hl : (M (n : Int)).length = 512) : 2 ∈ M (n : Int) ↔ ∃ j, j < 512 ∧ mkT M (512 * n + j) = 2 := by
  have e : ∀ j, j < 512 → mkT M (512 * n + j) = (M (n : Int)).getD j 0 := fun j hj => by
    unfold mkT
    rw [show (512 * n + j) / 512 = n by omega, show (512 * n + j) % 512 = j by omega]
  constructor
  · intro h
    obtain ⟨j, hj, hv⟩ := List.getElem_of_mem h
    refine ⟨j, by omega, ?_⟩
    rw [e j (by omega), List.getD_eq_getElem?_getD, List.getElem?_eq_getElem hj]
    exact hv
  · rintro ⟨j, hj, hv⟩
    rw [e j hj, List.getD_eq_getElem?_getD, List.getElem?_eq_getElem (by omega)] at hv
    rw [← show (M (n : Int))[j] = 2 from hv]
    exact List.getElem_mem _

theorem z5_get (i : Nat) : Z5.getD i 0 = 0 := by
  unfold Z5
  rw [List.getD_eq_getElem?_getD, List.getElem?_replicate]
  split <;> rfl

/-- No changes. -/
def nobM : Int → List Int := fun _ => Z5

theorem nob_mk (q : Nat) : mkT nobM q = 0 := z5_get _
theorem nob_val (q : Nat) (x : Int) : valT nobM nobM q x = x := by
  unfold valT
  rw [if_pos (show (nobM ((q / 512 : Nat) : Int)).getD (q % 512) 0 = 0 from z5_get _)]
theorem nob_no (s : Int) : ¬ 2 ∈ nobM s := fun h => absurd (List.eq_of_mem_replicate h) (by decide)

theorem ex_secs {B' M' : Int → List Int} (hl : ∀ s, (M' s).length = 512) (h : Laid nobM nobM B' M' 10755 1 [97] 2) : secsM M' = [21] := by
  refine rise_eq _ _ (secsM_rise _) (by simp) (fun x => ?_)
  rw [secsM_mem]
  simp only [List.mem_singleton]
  have hm : ∀ q, mkT M' q = if 10755 ≤ q ∧ q < 10755 + 1 then 2 else 0 := fun q => by
    rw [h.2.1 q, nob_mk]
    split
    · decide
    · rfl
  constructor
  · rintro ⟨hx, h2⟩
    obtain ⟨n, rfl⟩ := Int.eq_ofNat_of_zero_le hx.1
    obtain ⟨j, hj, hv⟩ := (mem2 (hl _)).1 h2
    rw [hm] at hv
    split at hv
    · omega
    · simp at hv
  · rintro rfl
    refine ⟨by omega, ?_⟩
    have := (mem2 (M := M') (n := 21) (hl _)).2 ⟨3, by omega, by rw [hm]; simp⟩
    simpa using this

set_option maxRecDepth 100000 in
set_option maxHeartbeats 8000000 in
theorem changed6 (w : World) : Calls Try.prog 7 #[] w fun e w' => e = .returned (.bool true) ∧ Below w.heap.size w w' := by
  have HBs := hide (base_any w 600 7)
  go_enter Try.func7, Try.ntmps7
  go_wp2_with fail
  refine HBs.out.mono ?_
  rintro e9 w1 ⟨v1, S, m, rfl, ho1, hS, hm, hmm, hb1⟩
  have hm6 : m = 600 := by
    have e : (IntKind.u64.wrap 600).tmod 7000 = 600 := by decide
    omega
  subst hm6
  obtain ⟨hSl, hSv⟩ := hS
  obtain ⟨a1, c1, rfl, hl1, _⟩ := ho1.form
  have HSv := hide hSv
  have HSl : Hid (S.length = 11352) := hide hSl
  have HOp := hide (open6 w1 a1 c1 S hl1 (by omega) (by omega))
  have HB1 := hide hb1
  have HSb : Hid (Byts S) := hide (fun i => by
    by_cases hi : i < S.length
    · rw [hSv i hi]
      split <;> omega
    · rw [List.getD_eq_getElem?_getD, List.getElem?_eq_none (by omega)]
      simp)
  clear ho1 hl1 hb1 hSl hSv hmm hm HBs
  go_wp2_with fail
  refine HOp.out.mono ?_
  rintro e9 w2 ⟨F, J, f, X, rfl, hf2, hj2, hx2, hlo2, hjl2, hb2⟩
  have HB2 := hide (HB1.out.trans (hb2.mono HB1.out.size))
  have HF2 := hide hf2
  have HJ2 := hide hj2
  have HX2 := hide hx2
  have HLo := hide hlo2
  have HBg := hide (begin_ok w2 J)
  have hXl := hf2.x
  have HXl := hide hXl
  have hjl := hj2.lt
  clear hf2 hj2 hx2 hlo2 hb2 HOp hXl
  go_wp2_with fail
  refine HBg.out.mono ?_
  rintro e9 w3 ⟨T, rfl, hT3, htx3, hb3⟩
  have hq3 : Txq w3 T J F X f ⟨S, S, []⟩ 2000000 0 (.map none) (.map none) (.slice none 0 0) nobM nobM 512 10752 0 :=
    ⟨htx3, ⟨Or.inl ⟨rfl, fun _ => rfl⟩, Or.inl ⟨rfl, fun _ => rfl⟩, fun _ => Z5_len, fun _ => Z5_len⟩, Or.inl ⟨rfl, rfl⟩, HJ2.out.below hb3, HF2.out.below hb3, fun e => by have := HXl.out T e; omega, HX2.out, fun r hr => (by rcases hr with h | h <;> cases h), (by omega)⟩
  have HB3 := hide (HB2.out.trans (hb3.mono HB2.out.size))
  have kc := Go.Lib.run_convert_bytes_const w3 25 5 #[.int .u8 97] 1 1 Try.underlying25 Try.underlying5
  have hb4 : Below w3.heap.size w3 (w3.alloc (.cells #[.int .u8 97] 5 (1, 2))) := (Below.refl _ _).alloc (Nat.le_refl _) _
  have hl4 : Lies (w3.alloc (.cells #[.int .u8 97] 5 (1, 2))) (some ⟨w3.heap.size, 0, none⟩) [97] := lies_marked w3 [97] (1, 2)
  have HPu := hide (put_q _ T J F X f _ _ _ _ _ _ _ _ 512 10752 0 (hq3.below hb4) (some ⟨w3.heap.size, 0, none⟩) 1 1 [97] rfl hl4 (by omega) (fun _ x hx => ⟨by cases hx; have := hq3.tx.lt; simp; omega, fun r hr => by rcases hr with h | h <;> cases h⟩) 10755 (by omega))
  have HB4 := hide (HB3.out.trans (hb4.mono HB3.out.size))
  have hT4 := hq3.tx.lt
  have hXw : ∀ i, X i → w.heap.size ≤ i := fun i hi => Nat.le_trans HB1.out.size (HLo.out i hi)
  have HXw := hide hXw
  have hTw : w.heap.size ≤ T := by have := HB2.out.size; omega
  have hJw : w.heap.size ≤ J := by have := HB1.out.size; omega
  clear hq3 hb4 hl4 hb3 htx3 HBg hXw
  go_wp2_with fail
  generalize w3.alloc (.cells #[.int .u8 97] 5 (1, 2)) = w4 at *
  refine HPu.out.mono ?_
  rintro e9 w5 ⟨rfl, ⟨vb, vm, B', M', hq5, hla, hmp⟩, hc5⟩
  have HB5 : Hid (Below w.heap.size w w5) := hide (HB4.out.trans (hc5.below _ HB4.out.size (fun i hi e => by
    rcases e with e | e | e
    · omega
    · cases e
    · cases e)))
  have HMl : Hid (∀ s, (M' s).length = 512) := hide hq5.ov.ml
  have HLa := hide hla
  have HGe := hide (get_q w5 T J F X f _ _ _ vb vm _ B' M' 512 10752 0 hq5 (by omega) 10755 2 (by omega))
  have Hse : Hid (∀ i, seeT S B' M' i = if i = 10755 then 97 else S.getD i 0) := hide (fun i => by
    unfold seeT
    rw [hla.1]
    by_cases e : i = 10755
    · subst e
      rw [if_pos (by omega), if_pos rfl]
      rfl
    · rw [if_neg (by omega), if_neg e, nob_val])
  clear hq5 hla hc5 HPu kc
  go_wp2_with fail
  refine HGe.out.mono ?_
  rintro e9 w6 ⟨⟨f6, hq6⟩, hc6, ⟨hk6, v6, l6, rfl, ho6, hl6, hg6⟩ | ⟨hk6, _⟩⟩
  rotate_left
  · exact absurd (by unfold rdc; split <;> omega) hk6
  have hl6e : l6 = [97, 7] := by
    refine ext_getD (by rw [hl6]; rfl) (fun i hi => ?_)
    rw [hg6 i (by omega), Hse.out]
    rw [hl6] at hi
    match i, hi with
    | 0, _ => rfl
    | 1, _ =>
      rw [if_neg (by omega), HSv.out _ (by rw [HSl.out]; omega)]
      rfl
  subst hl6e
  obtain ⟨a6, c6, rfl, hs6, _⟩ := ho6.form
  have HB6 : Hid (Below w.heap.size w w6) := hide (HB5.out.trans (hc6.below _ HB5.out.size (fun i hi e => by have := HXw.out i e; omega)))
  have HQ6 := hide hq6
  have HL6 := hide hs6
  have HBy1 := hide (bytes_fl w6 X F f6 _ _ _ hq6.fl)
  clear hq6 hc6 hk6 ho6 hl6 hg6 hs6 HGe
  go_wp2_with fail
  refine HBy1.out.mono ?_
  rintro e9 w7 ⟨v7, rfl, ho7, hb7⟩
  have ho7' : Own w7 w6.heap.size v7 S := ho7
  obtain ⟨a7, c7, rfl, hl7, _⟩ := ho7'.form
  have HQ7 := hide (HQ6.out.below hb7)
  have HB7 := hide (HB6.out.trans (hb7.mono HB6.out.size))
  have HL7 := hide (HL6.out.below hb7)
  have HBy2 := hide (bytes_fl w7 X F f6 _ _ _ (HQ6.out.below hb7).fl)
  have hlen7 : ¬ ((S.length : Int) < 11352) := by have := HSl.out; omega
  clear ho7 ho7' hl7 hb7 HBy1
  go_wp2_with fail
  refine HBy2.out.mono ?_
  rintro e9 w8 ⟨v8, rfl, ho8, hb8⟩
  have ho8' : Own w8 w7.heap.size v8 S := ho8
  obtain ⟨a8, c8, rfl, hl8, _, _, _, hg8⟩ := ho8'.form
  obtain ⟨g8, rfl, _, _⟩ := hg8 (fun e => by have := HSl.out; rw [e] at this; simp at this)
  have q8 := ho8'.cell rfl 10755 (by have := HSl.out; omega)
  rw [HSv.out 10755 (by have := HSl.out; omega), if_pos (by omega)] at q8
  have hi8 : (10755 : Int) < (S.length : Int) := by have := HSl.out; omega
  have HQ8 := HQ7.out.below hb8
  have hrt := run_text (P := Try.prog) (dst := 9) Try.underlying25 Try.underlying5 Try.underlying9 w8 a6 [97, 7] c6 (HL7.out.below hb8)
  have hba : ba [97, 7] = { data := #[97, 7] } := by decide
  rw [hba] at hrt
  have hrs : (convert 25 9 (.slice a6 2 c6)).run Try.prog w8 = .ok (.string { data := #[97, 7] }) w8 := hrt
  have HB8 := hide (HB7.out.trans (hb8.mono HB7.out.size))
  have hse := ex_secs HMl.out HLa.out
  have hrn : runsM M' = [(10752, 11264)] := by unfold runsM; rw [hse]; rfl
  have HCm := hide (commit_q w8 T J F X f6 ⟨S, S, []⟩ _ _ vb vm B' M' 512 10752 0 HQ8 (by omega) (by omega) (by omega) (by omega) (fun s hs => by rw [HLa.out.2.2 s hs]; exact nob_no s) (fun r hr => by rw [hrn] at hr; simp at hr; subst hr; simp) (fun i => by
    show 0 ≤ seeT S B' M' i ∧ seeT S B' M' i < 256
    rw [Hse.out]
    split
    · omega
    · exact HSb.out i))
  have HTw := hide hTw
  have HJw := hide hJw
  have HRn := hide hrn
  clear ho8 ho8' hl8 hb8 hg8 hrt hba HQ8 hse hrn HBy2
  go_wp2_with fail
  refine HCm.out.mono ?_
  have hsz : sizeR (runsM M') = 524 := by rw [HRn.out]; rfl
  have hrd : rdR S (runsM M') ≤ 2 := by
    rw [HRn.out]
    unfold rdR rdc
    simp only [List.map_cons, List.map_nil, List.sum_cons, List.sum_nil]
    split <;> omega
  have hrc : rdc S 10755 2 ≤ 1 := by unfold rdc; split <;> omega
  rintro e9 w9 (⟨h9, _⟩ | ⟨_, h9, _⟩ | ⟨_, _, rfl, ht9, nu9, n9, hn9, X9, f9, hf9, hx9, hc9, _⟩)
  · rw [hsz] at h9; omega
  · exact absurd (show rdR S (runsM M') ≤ _ by omega) h9
  obtain ⟨D, hD⟩ : ∃ D, D = recsM S B' M' := ⟨_, rfl⟩
  have hDe : D = [(10752, (List.range 512).map (fun i => seeT S B' M' (10752 + i)))] := by
    rw [hD]
    unfold recsM
    rw [HRn.out]
    rfl
  rw [show recsM (A3.S ⟨S, S, []⟩) B' M' = D from hD.symm] at hf9 ⊢
  have hDn : D ≠ [] := by rw [hDe]; simp
  have htO : txO 512 0 D = comO 512 0 D ++ appO 512 D := if_neg hDn
  have htL : (txO 512 0 D).length = 8 := by
    rw [htO, List.length_append, hDe]
    rfl
  rw [List.take_of_length_le (by rw [htL]; show 8 ≤ 2000000 - rdc S 10755 2 - rdR S (runsM M'); omega)] at hf9
  rw [cod_ok (by rw [htL]; show 8 ≤ 2000000 - rdc S 10755 2 - rdR S (runsM M'); omega)]
  rw [htO, doAll_append, com_state, app_state] at hf9
  obtain ⟨S9, hS9⟩ : ∃ S9, S9 = appS (comS S 512 0 D) 512 D := ⟨_, rfl⟩
  rw [← hS9] at hf9
  have hS9v : S9.getD 10755 0 = 97 ∧ 11264 ≤ S9.length := by
    rw [hS9]
    have hll : ((List.range 512).map (fun i => seeT S B' M' (10752 + i))).length = 512 := by simp
    constructor
    · rw [appS_get, if_neg (by omega), hDe]
      simp only [putS]
      rw [wr_get, hll, if_pos (by simp)]
      have : ((List.range 512).map (fun i => seeT S B' M' (10752 + i))).getD (10755 - (10752 : Int).toNat) 0 = seeT S B' M' 10755 := by
        rw [show 10755 - (10752 : Int).toNat = 3 by decide, List.getD_eq_getElem?_getD, List.getElem?_map, List.getElem?_range (by omega)]
        rfl
      rw [this, Hse.out, if_pos rfl]
    · unfold appS
      rw [hDe]
      simp only [putS]
      have hz := Z512_len
      rw [wr_len, wr_len, hll, if_neg (fun e => by rw [e] at hz; simp at hz), if_neg (fun e => by rw [e] at hll; simp at hll)]
      show 11264 ≤ max (max _ (10752 + 512)) (512 + Z512.length)
      omega
  have HB9 : Hid (Below w.heap.size w w9) := hide (HB8.out.trans (hc9.below _ HB8.out.size (fun i hi e => by
    rcases e with e | e | e
    · have := HXw.out i e; omega
    · have := HJw.out; omega
    · have := HTw.out; omega)))
  have HBy3 := hide (bytes_fl w9 X9 F f9 _ _ _ hf9)
  have HT9 := hide ht9
  have HS9 := hide hS9v
  clear ht9 hf9 hx9 hc9 hn9 hD hDe hDn htO htL hS9 hS9v hsz hrd hrc HCm
  go_wp2_with fail
  refine HBy3.out.mono ?_
  rintro e9 w10 ⟨v10, rfl, ho10, hb10⟩
  have ho10' : Own w10 w9.heap.size v10 S9 := ho10
  obtain ⟨a10, c10, rfl, hl10, _, _, _, hg10⟩ := ho10'.form
  obtain ⟨g10, rfl, _, _⟩ := hg10 (fun e => by have := HS9.out.2; rw [e] at this; simp at this)
  have q10 := ho10'.cell rfl 10755 (by have := HS9.out.2; omega)
  rw [HS9.out.1] at q10
  have hi10 : (10755 : Int) < (S9.length : Int) := by have := HS9.out.2; omega
  have HB10 := hide (HB9.out.trans (hb10.mono HB9.out.size))
  have HPd := hide (put_done w10 T J _ _ _ (HT9.out.below hb10) (.int .i64 0) (.slice none 0 0))
  clear ho10 ho10' hl10 hg10 hb10 HBy3
  go_wp2_with fail
  refine HPd.out.mono ?_
  rintro e9 w11 ⟨rfl, h11⟩
  rw [h11]
  clear h11
  go_wp2_with fail
  go_ret
  exact ⟨rfl, HB10.out⟩
end Go.Proofs.Ytbpehfadmilhdaa.Oct
namespace Go.Proofs.Ytbpehfadmilhdaa.Oct
open Go.RowKit Go.Deep Go.Sort

theorem exec_append {P : Program} {a : Act} {o : Oper} {s x : Operand} {t : TypeId} {v q v' : Value} {w w' : World} (ho : o.op = .call { callee := .builtin .append, args := #[s, x], argTypes := #[t, t] }) (hs : a.eval s = v) (hx : a.eval x = q) (h : (Builtin.append_ #[t, t] o.type #[v, q]).run P w = .ok v' w') : (execOp a.eval o).run P w = .ok (.value v') w' := by
  unfold execOp
  simp only [ho, resolve, invoke, builtin, Sem.run_bind, Sem.run_pure, Result.andThen_ok, List.map_toArray, List.map_cons, List.map_nil, hs, hx, h]

set_option maxRecDepth 100000 in
set_option maxHeartbeats 8000000 in
theorem fresh_q (w : World) (T J F : Nat) (X : Nat → Prop) (f : Fs) (A : A3) (k n : Nat) (vb vm va : Value) (B M : Int → List Int) (p q : Nat) (nu : Int) (h : Txq w T J F X f A k n vb vm va B M p q nu) (Ba : Nat) (L : List JR) (hva : OwnK w Ba va L) (hBa : Ba ≤ w.heap.size) (hLl : L.length ≤ 1000) (hsep : ∀ g, va.ownBlock = some g → g ≠ T ∧ g ≠ J ∧ ¬ X g ∧ ∀ r, vb = .map (some r) ∨ vm = .map (some r) → g ≠ r)
    (a : Option Addr) (cap m : Nat) (pl : List Int) (hm : m = pl.length) (hm0 : 0 < m) (hl : Lies w a pl) (hcap : m ≤ cap ∧ cap ≤ 9223372036854775807)
    (hlT : ∀ x, a = some x → x.block ≠ T ∧ some x.block ≠ va.ownBlock ∧ ∀ r, vb = .map (some r) ∨ vm = .map (some r) → x.block ≠ r) (t : Nat) (htn : t + m ≤ 4194304) (h512 : t % 512 = 0) :
    Calls Try.prog 14 #[.pointer (some ⟨T, 0, none⟩), .int .i64 t, .slice a m cap] w fun e w' => e = .returned (.int .i64 0) ∧ (∃ vb' vm' va' B' M', Txq w' T J F X f A k n vb' vm' va' B' M' p q nu ∧ Laid B M B' M' t m pl 1 ∧ (∀ r, vb' = .map (some r) ∨ vm' = .map (some r) → (vb = .map (some r) ∨ vm = .map (some r)) ∨ w.heap.size ≤ r)) ∧ Chg (fun k => k = T ∨ some k = va.ownBlock ∨ vb = .map (some k) ∨ vm = .map (some k)) w w' := by
  have HH := hide h
  have HOp := hide (open_tx w T J vb vm _ h.tx)
  have HOu := hide (outside_no w t m htn)
  have HXl := hide h.fl.x
  have HVa := hide hva
  have HSep := hide hsep
  have HlT := hide hlT
  have HL := hide hl
  have HHm := hide hm
  have hd1 : ((t : Nat) : Int).tmod 512 = 0 := by rw [Int.tmod_eq_emod_of_nonneg (by omega)]; omega
  have hd2 : ((t : Nat) : Int) % 512 = 0 := by omega
  have hTl := h.tx.lt
  have hS0 : w.drew.cell? ⟨T, 3, none⟩ = some va := h.tx.cell.2.2.2.1
  have hd0 : Below w.heap.size w w.drew := (Below.refl _ _).drew
  obtain ⟨i1, hi, hz0, hz1, hz2⟩ := info_parts info_rec
  clear h hva hsep hlT hl hm
  go_enter Try.func14, Try.ntmps14
  go_wp2_with fail
  refine HOp.out.mono ?_
  rintro e9 w9 ⟨rfl, h9⟩
  subst h9
  go_wp2_with fail
  refine HOu.out.mono ?_
  rintro e9 w9 ⟨rfl, h9⟩
  subst h9
  go_wp2_with fail
  refine wp_region_held_drew (S := (fun _ : World => True)) (by kernel_rfl) trivial (fun _ => ?_)
  refine any_take 0 (some 25) (.pointer (some ⟨T, 0, none⟩)) rfl rfl (by kernel_rfl) (by kernel_rfl) (by kernel_rfl) (fun _ _ _ h => h) (by rfl) trivial ?_ ?_
  · intro u hSu
    go_simp
  simp only [Act.put, List.setIfInBounds_toArray, List.set_cons_zero, List.set_cons_succ]
  refine any_take 1 (some 26) (.pointer (some ⟨T, 0, none⟩)) rfl rfl (by kernel_rfl) (by kernel_rfl) (by kernel_rfl) (fun _ _ _ h => h) (by rfl) trivial ?_ ?_
  · intro u hSu
    go_simp
  simp only [Act.put, List.setIfInBounds_toArray, List.set_cons_zero, List.set_cons_succ]
  refine any_take 2 (some 27) (.pointer (some ⟨T, 0, none⟩)) rfl rfl (by kernel_rfl) (by kernel_rfl) (by kernel_rfl) (fun _ _ _ h => h) (by rfl) trivial ?_ ?_
  · intro u hSu
    go_simp
  simp only [Act.put, List.setIfInBounds_toArray, List.set_cons_zero, List.set_cons_succ]
  refine any_take 3 (some 28) (.pointer (some ⟨T, 3, none⟩)) rfl rfl (by kernel_rfl) (by kernel_rfl) (by kernel_rfl) (fun _ _ _ h => h) (by rfl) trivial ?_ ?_
  · intro u hSu
    go_simp
  simp only [Act.put, List.setIfInBounds_toArray, List.set_cons_zero, List.set_cons_succ]
  refine any_take 5 (some 30) (.int .i64 (t : Int)) rfl rfl (by kernel_rfl) (by kernel_rfl) (by kernel_rfl) (fun _ _ _ h => h) (by rfl) trivial ?_ ?_
  · intro u hSu
    go_simp
  simp only [Act.put, List.setIfInBounds_toArray, List.set_cons_zero, List.set_cons_succ]
  refine any_take 6 (some 31) (.slice a m cap) rfl rfl (by kernel_rfl) (by kernel_rfl) (by kernel_rfl) (fun _ _ _ h => h) (by rfl) trivial ?_ ?_
  · intro u hSu
    go_simp
  simp only [Act.put, List.setIfInBounds_toArray, List.set_cons_zero, List.set_cons_succ]
  refine wpAnyH_ready (rs := [4, 7]) (by kernel_rfl) (by simp) ?_
  refine AllReadyH.cons (i := 4) rfl (fun K hK => ?_) (AllReadyH.cons (i := 7) rfl (fun K hK => ?_) AllReadyH.nil)
  · have cL := hS0
    go_simp
    refine hK.out _ _ trivial (fun _ => ?_)
    clear hK K
    try simp only [Act.put, List.setIfInBounds_toArray, List.set_cons_zero, List.set_cons_succ]
    clear cL
    refine wpAnyH_ready (rs := [7]) (by kernel_rfl) (by simp) ?_
    refine AllReadyH.cons (i := 7) rfl (fun K hK => ?_) AllReadyH.nil
    go_simp
    have HCl := hide (clone_any w9.drew a cap pl (HL.out.below hd0) (by have := HHm.out; omega))
    rw [← HHm.out] at HCl
    refine HCl.out.mono ?_
    rintro e9 wA ⟨vC, rfl, hoC, hbA⟩
    have hbwA : Below w9.heap.size w9 wA := hd0.trans (hbA.mono hd0.size)
    obtain ⟨aC, cC, rfl, hsC, hfC⟩ := hoC.sl
    rw [← HHm.out]
    go_simp
    refine hK.out _ _ trivial (fun _ => ?_)
    clear hK K
    try simp only [Act.put, List.setIfInBounds_toArray, List.set_cons_zero, List.set_cons_succ]
    refine any_take 8 (some 33) (.agg #[.int .i64 (t : Int), .slice aC m cC]) rfl rfl (by kernel_rfl) (by kernel_rfl) (by kernel_rfl) (fun _ _ _ h => h) (by rfl) trivial ?_ ?_
    · intro u hSu
      go_simp
    simp only [Act.put, List.setIfInBounds_toArray, List.set_cons_zero, List.set_cons_succ]
    refine wpAnyH_ready (rs := [9]) (by kernel_rfl) (by simp) ?_
    refine AllReadyH.cons (i := 9) rfl (fun K hK => ?_) AllReadyH.nil
    go_simp
    have hbB : Below wA.heap.size wA (wA.alloc (.cells #[.int .i64 (t : Int), .slice aC m cC] 79)) := (Below.refl _ _).alloc (Nat.le_refl _) _
    have hbwB : Below w9.heap.size w9 (wA.alloc (.cells #[.int .i64 (t : Int), .slice aC m cC] 79)) := hbwA.trans (hbB.mono hbwA.size)
    have hnB := new2J wA 79 (.int .i64 (t : Int)) (.slice aC m cC)
    refine hK.out _ _ trivial (fun _ => ?_)
    clear hK K
    try simp only [Act.put, List.setIfInBounds_toArray, List.set_cons_zero, List.set_cons_succ]
    generalize hWB : wA.alloc (.cells #[.int .i64 (t : Int), .slice aC m cC] 79) = wB at *
    obtain ⟨v5, w5, hr5, ho5, hg5, _, hw5⟩ := run_append_own_at (P := Try.prog) wB Ba 71 71 79 i1 (.agg #[.int .i64 0, .slice none 0 0]) 2 32 Try.underlying71 hi hz0 hz1 hz2 rfl (by decide) va L.length (L.flatMap JR.cells) (HVa.out.below hbwB).row ⟨wA.heap.size, 0, none⟩ 1 1 [.int .i64 (t : Int), .slice aC m cC] rfl hnB (by simp [Value.oneCell']) (by unfold maxLen; omega) (by omega) (Nat.le_trans hBa hbwB.size)
    obtain ⟨g5', cp5, hv5⟩ : ∃ g cp, v5 = .slice (some ⟨g, 0, none⟩) (L.length + 1) cp := by
      rcases ho5.2 with ⟨_, h0⟩ | ⟨g, cp, cur, h0, _⟩
      · omega
      · exact ⟨g, cp, h0⟩
    subst hv5
    have hnT : some T ≠ va.ownBlock := fun e => (HSep.out T e.symm).1 rfl
    refine ready_val 10 (some 35) (.slice (some ⟨g5', 0, none⟩) (L.length + 1) cp5) w5 (by kernel_rfl) rfl rfl rfl (exec_append rfl rfl rfl hr5) trivial ?_
    try simp only [Act.put, List.setIfInBounds_toArray, List.set_cons_zero, List.set_cons_succ]
    refine any_take 11 (some 36) (.pointer (some ⟨T, 0, none⟩)) rfl rfl (by kernel_rfl) (by kernel_rfl) (by kernel_rfl) (fun _ _ _ h => h) (by rfl) trivial ?_ ?_
    · intro u hSu
      go_simp
    simp only [Act.put, List.setIfInBounds_toArray, List.set_cons_zero, List.set_cons_succ]
    refine any_take 12 (some 37) (.pointer (some ⟨T, 3, none⟩)) rfl rfl (by kernel_rfl) (by kernel_rfl) (by kernel_rfl) (fun _ _ _ h => h) (by rfl) trivial ?_ ?_
    · intro u hSu
      go_simp
    simp only [Act.put, List.setIfInBounds_toArray, List.set_cons_zero, List.set_cons_succ]
    refine wpAnyH_ready (rs := [13]) (by kernel_rfl) (by simp) ?_
    refine AllReadyH.cons (i := 13) rfl (fun K hK => ?_) AllReadyH.nil
    have hc5 : Chg (fun k => k = T ∨ some k = va.ownBlock) w9 w5 := (Chg.of_below hbwB).trans ((Chg.of_grown hg5).mono (fun i _ e => Or.inr e))
    have ht5 : Txs w5 T J vb vm va false := (hg5.block T (Nat.lt_of_lt_of_le hTl hbwB.size) hnT).trans ((hbwB.block T hTl).trans HH.out.tx)
    have g5 := (show Blk w5 T #[.pointer (some ⟨J, 0, none⟩), vb, vm, va, .bool false] 73 from ht5).frozen 3
    have s5 : w5.cell? ⟨T, 3, none⟩ = some va := ht5.cell.2.2.2.1
    have ht6 : Txs (w5.setCell ⟨T, 3, none⟩ (.slice (some ⟨g5', 0, none⟩) (L.length + 1) cp5)) T J vb vm (.slice (some ⟨g5', 0, none⟩) (L.length + 1) cp5) false := heap_setCell_same _ T 3 _ _ (.slice (some ⟨g5', 0, none⟩) (L.length + 1) cp5) ht5
    have hc6 : Chg (fun k => k = T ∨ some k = va.ownBlock) w9 (w5.setCell ⟨T, 3, none⟩ (.slice (some ⟨g5', 0, none⟩) (L.length + 1) cp5)) := hc5.setCell T 3 _ (fun _ => Or.inl rfl)
    go_simp
    refine hK.out _ _ trivial (fun _ => ?_)
    clear hK K
    try simp only [Act.put, List.setIfInBounds_toArray, List.set_cons_zero, List.set_cons_succ]
    refine wpAnyH_done (by kernel_rfl) ?_ _
    generalize w5.setCell ⟨T, 3, none⟩ (.slice (some ⟨g5', 0, none⟩) (L.length + 1) cp5) = w6 at *
    have hm6 : ∀ r, vb = .map (some r) ∨ vm = .map (some r) → ¬ (r = T ∨ some r = va.ownBlock) := fun r hr e => by
      rcases e with e | e
      · have h1 : w9.heap[T]? = _ := HH.out.tx
        rcases hr with h | h
        · obtain ⟨_, es, cc, he⟩ := HH.out.ov.b.lt r h
          rw [e] at he; rw [he] at h1; cases h1
        · obtain ⟨_, es, cc, he⟩ := HH.out.ov.m.lt r h
          rw [e] at he; rw [he] at h1; cases h1
      · exact (HSep.out r e.symm).2.2.2 r hr rfl
    have hJ6 : ¬ (J = T ∨ some J = va.ownBlock) := fun e => by
      rcases e with e | e
      · exact HH.out.jt e
      · exact (HSep.out J e.symm).2.1 rfl
    have hq6 : Txq w6 T J F X f A k n vb vm (.slice (some ⟨g5', 0, none⟩) (L.length + 1) cp5) B M p q nu :=
      ⟨ht6, HH.out.ov.chg hc6 hm6, HH.out.mm, (hc6.block J HH.out.jr.lt hJ6).trans HH.out.jr, HH.out.fl.chg hc6 (fun i _ hX e => by
        rcases e with e | e
        · exact HH.out.xT (e ▸ hX)
        · exact (HSep.out i e.symm).2.2.1 hX), HH.out.xT, HH.out.xJ, HH.out.xM, HH.out.jt⟩
    have hl6 : Lies w6 a pl := HL.out.chg hc6 (fun x hx e => by
      have := HlT.out x hx
      rcases e with e | e
      · exact this.1 e
      · exact this.2.1 e)
    have HLy := hide (lay_by 1 (by omega) w6 T J vb vm _ false B M hq6.tx hq6.ov hq6.mm a cap m pl HHm.out hl6 hcap (fun _ x hx => ⟨(HlT.out x hx).1, (HlT.out x hx).2.2⟩) t htn)
    have HQ6 := hide hq6
    have HC6 := hide hc6
    have hs6 := hc6.size
    clear hr5 ho5 hg5 hw5 hc5 ht5 g5 s5 ht6 hc6 hm6 hJ6 hq6 hl6 hnB hbwB hbwA hoC hbA hsC hfC HCl
    apply_assumption
    go_wp2_with fail
    refine HLy.out.mono ?_
    rintro e9 w10 ⟨rfl, ⟨r1, r2, B', M', ht, ho, hr, hrr, hv⟩, hc⟩
    have HRr := hide hrr
    have HT := hide ht
    have HO := hide ho
    have HV := hide hv
    have HC := hide hc
    clear ht ho hv hc hrr HLy
    go_wp2_with fail
    go_ret
    have hnY : ∀ k, k < w6.heap.size → X k → ¬ (k = T ∨ vb = .map (some k) ∨ vm = .map (some k)) := fun k _ hk e => by
      rcases e with rfl | e | e
      · exact HH.out.xT hk
      · exact HH.out.xM k (Or.inl e) hk
      · exact HH.out.xM k (Or.inr e) hk
    have hJn : ¬ (J = T ∨ vb = .map (some J) ∨ vm = .map (some J)) := fun e => by
      have hj : w9.heap[J]? = _ := HH.out.jr
      rcases e with e | e | e
      · exact HH.out.jt e
      · obtain ⟨_, es, c, he⟩ := HH.out.ov.b.lt J e
        rw [he] at hj; cases hj
      · obtain ⟨_, es, c, he⟩ := HH.out.ov.m.lt J e
        rw [he] at hj; cases hj
    have hr12 : ∀ r, (r = r1 ∨ r = r2) → ¬ X r := by
      intro r hrr hx
      rcases HRr.out r hrr with h | h
      · exact HH.out.xM r h hx
      · have := HXl.out r hx
        omega
    refine ⟨rfl, ⟨.map (some r1), .map (some r2), _, B', M', ⟨HT.out, HO.out, Or.inr ⟨r1, r2, rfl, rfl, hr⟩, (HC.out.block J HQ6.out.jr.lt hJn).trans HQ6.out.jr, HQ6.out.fl.chg HC.out hnY, HH.out.xT, HH.out.xJ, fun r e => hr12 r (by simpa [eq_comm] using e), HH.out.jt⟩, HV.out, fun r e => (HRr.out r (by simpa [eq_comm] using e)).imp id (fun h => Nat.le_trans hs6 h)⟩, ?_⟩
    refine (HC6.out.mono (fun i _ e => e.imp id Or.inl)).trans (HC.out.mono (fun i _ e => ?_))
    rcases e with e | e
    · exact Or.inl e
    · exact Or.inr (Or.inr e)
  · go_simp
    have HCl := hide (clone_any w9.drew a cap pl (HL.out.below hd0) (by have := HHm.out; omega))
    rw [← HHm.out] at HCl
    refine HCl.out.mono ?_
    rintro e9 wA ⟨vC, rfl, hoC, hbA⟩
    have hbwA : Below w9.heap.size w9 wA := hd0.trans (hbA.mono hd0.size)
    obtain ⟨aC, cC, rfl, hsC, hfC⟩ := hoC.sl
    rw [← HHm.out]
    go_simp
    refine hK.out _ _ trivial (fun _ => ?_)
    clear hK K
    try simp only [Act.put, List.setIfInBounds_toArray, List.set_cons_zero, List.set_cons_succ]
    refine any_take 8 (some 33) (.agg #[.int .i64 (t : Int), .slice aC m cC]) rfl rfl (by kernel_rfl) (by kernel_rfl) (by kernel_rfl) (fun _ _ _ h => h) (by rfl) trivial ?_ ?_
    · intro u hSu
      go_simp
    simp only [Act.put, List.setIfInBounds_toArray, List.set_cons_zero, List.set_cons_succ]
    refine wpAnyH_ready (rs := [4, 9]) (by kernel_rfl) (by simp) ?_
    refine AllReadyH.cons (i := 4) rfl (fun K hK => ?_) (AllReadyH.cons (i := 9) rfl (fun K hK => ?_) AllReadyH.nil)
    · have cL := (hbwA.cell (p := ⟨T, 3, none⟩) hTl).trans hS0
      go_simp
      refine hK.out _ _ trivial (fun _ => ?_)
      clear hK K
      try simp only [Act.put, List.setIfInBounds_toArray, List.set_cons_zero, List.set_cons_succ]
      clear cL
      refine wpAnyH_ready (rs := [9]) (by kernel_rfl) (by simp) ?_
      refine AllReadyH.cons (i := 9) rfl (fun K hK => ?_) AllReadyH.nil
      go_simp
      have hbB : Below wA.heap.size wA (wA.alloc (.cells #[.int .i64 (t : Int), .slice aC m cC] 79)) := (Below.refl _ _).alloc (Nat.le_refl _) _
      have hbwB : Below w9.heap.size w9 (wA.alloc (.cells #[.int .i64 (t : Int), .slice aC m cC] 79)) := hbwA.trans (hbB.mono hbwA.size)
      have hnB := new2J wA 79 (.int .i64 (t : Int)) (.slice aC m cC)
      refine hK.out _ _ trivial (fun _ => ?_)
      clear hK K
      try simp only [Act.put, List.setIfInBounds_toArray, List.set_cons_zero, List.set_cons_succ]
      generalize hWB : wA.alloc (.cells #[.int .i64 (t : Int), .slice aC m cC] 79) = wB at *
      obtain ⟨v5, w5, hr5, ho5, hg5, _, hw5⟩ := run_append_own_at (P := Try.prog) wB Ba 71 71 79 i1 (.agg #[.int .i64 0, .slice none 0 0]) 2 32 Try.underlying71 hi hz0 hz1 hz2 rfl (by decide) va L.length (L.flatMap JR.cells) (HVa.out.below hbwB).row ⟨wA.heap.size, 0, none⟩ 1 1 [.int .i64 (t : Int), .slice aC m cC] rfl hnB (by simp [Value.oneCell']) (by unfold maxLen; omega) (by omega) (Nat.le_trans hBa hbwB.size)
      obtain ⟨g5', cp5, hv5⟩ : ∃ g cp, v5 = .slice (some ⟨g, 0, none⟩) (L.length + 1) cp := by
        rcases ho5.2 with ⟨_, h0⟩ | ⟨g, cp, cur, h0, _⟩
        · omega
        · exact ⟨g, cp, h0⟩
      subst hv5
      have hnT : some T ≠ va.ownBlock := fun e => (HSep.out T e.symm).1 rfl
      refine ready_val 10 (some 35) (.slice (some ⟨g5', 0, none⟩) (L.length + 1) cp5) w5 (by kernel_rfl) rfl rfl rfl (exec_append rfl rfl rfl hr5) trivial ?_
      try simp only [Act.put, List.setIfInBounds_toArray, List.set_cons_zero, List.set_cons_succ]
      refine any_take 11 (some 36) (.pointer (some ⟨T, 0, none⟩)) rfl rfl (by kernel_rfl) (by kernel_rfl) (by kernel_rfl) (fun _ _ _ h => h) (by rfl) trivial ?_ ?_
      · intro u hSu
        go_simp
      simp only [Act.put, List.setIfInBounds_toArray, List.set_cons_zero, List.set_cons_succ]
      refine any_take 12 (some 37) (.pointer (some ⟨T, 3, none⟩)) rfl rfl (by kernel_rfl) (by kernel_rfl) (by kernel_rfl) (fun _ _ _ h => h) (by rfl) trivial ?_ ?_
      · intro u hSu
        go_simp
      simp only [Act.put, List.setIfInBounds_toArray, List.set_cons_zero, List.set_cons_succ]
      refine wpAnyH_ready (rs := [13]) (by kernel_rfl) (by simp) ?_
      refine AllReadyH.cons (i := 13) rfl (fun K hK => ?_) AllReadyH.nil
      have hc5 : Chg (fun k => k = T ∨ some k = va.ownBlock) w9 w5 := (Chg.of_below hbwB).trans ((Chg.of_grown hg5).mono (fun i _ e => Or.inr e))
      have ht5 : Txs w5 T J vb vm va false := (hg5.block T (Nat.lt_of_lt_of_le hTl hbwB.size) hnT).trans ((hbwB.block T hTl).trans HH.out.tx)
      have g5 := (show Blk w5 T #[.pointer (some ⟨J, 0, none⟩), vb, vm, va, .bool false] 73 from ht5).frozen 3
      have s5 : w5.cell? ⟨T, 3, none⟩ = some va := ht5.cell.2.2.2.1
      have ht6 : Txs (w5.setCell ⟨T, 3, none⟩ (.slice (some ⟨g5', 0, none⟩) (L.length + 1) cp5)) T J vb vm (.slice (some ⟨g5', 0, none⟩) (L.length + 1) cp5) false := heap_setCell_same _ T 3 _ _ (.slice (some ⟨g5', 0, none⟩) (L.length + 1) cp5) ht5
      have hc6 : Chg (fun k => k = T ∨ some k = va.ownBlock) w9 (w5.setCell ⟨T, 3, none⟩ (.slice (some ⟨g5', 0, none⟩) (L.length + 1) cp5)) := hc5.setCell T 3 _ (fun _ => Or.inl rfl)
      go_simp
      refine hK.out _ _ trivial (fun _ => ?_)
      clear hK K
      try simp only [Act.put, List.setIfInBounds_toArray, List.set_cons_zero, List.set_cons_succ]
      refine wpAnyH_done (by kernel_rfl) ?_ _
      generalize w5.setCell ⟨T, 3, none⟩ (.slice (some ⟨g5', 0, none⟩) (L.length + 1) cp5) = w6 at *
      have hm6 : ∀ r, vb = .map (some r) ∨ vm = .map (some r) → ¬ (r = T ∨ some r = va.ownBlock) := fun r hr e => by
        rcases e with e | e
        · have h1 : w9.heap[T]? = _ := HH.out.tx
          rcases hr with h | h
          · obtain ⟨_, es, cc, he⟩ := HH.out.ov.b.lt r h
            rw [e] at he; rw [he] at h1; cases h1
          · obtain ⟨_, es, cc, he⟩ := HH.out.ov.m.lt r h
            rw [e] at he; rw [he] at h1; cases h1
        · exact (HSep.out r e.symm).2.2.2 r hr rfl
      have hJ6 : ¬ (J = T ∨ some J = va.ownBlock) := fun e => by
        rcases e with e | e
        · exact HH.out.jt e
        · exact (HSep.out J e.symm).2.1 rfl
      have hq6 : Txq w6 T J F X f A k n vb vm (.slice (some ⟨g5', 0, none⟩) (L.length + 1) cp5) B M p q nu :=
        ⟨ht6, HH.out.ov.chg hc6 hm6, HH.out.mm, (hc6.block J HH.out.jr.lt hJ6).trans HH.out.jr, HH.out.fl.chg hc6 (fun i _ hX e => by
          rcases e with e | e
          · exact HH.out.xT (e ▸ hX)
          · exact (HSep.out i e.symm).2.2.1 hX), HH.out.xT, HH.out.xJ, HH.out.xM, HH.out.jt⟩
      have hl6 : Lies w6 a pl := HL.out.chg hc6 (fun x hx e => by
        have := HlT.out x hx
        rcases e with e | e
        · exact this.1 e
        · exact this.2.1 e)
      have HLy := hide (lay_by 1 (by omega) w6 T J vb vm _ false B M hq6.tx hq6.ov hq6.mm a cap m pl HHm.out hl6 hcap (fun _ x hx => ⟨(HlT.out x hx).1, (HlT.out x hx).2.2⟩) t htn)
      have HQ6 := hide hq6
      have HC6 := hide hc6
      have hs6 := hc6.size
      clear hr5 ho5 hg5 hw5 hc5 ht5 g5 s5 ht6 hc6 hm6 hJ6 hq6 hl6 hnB hbwB hbwA hoC hbA hsC hfC HCl
      apply_assumption
      go_wp2_with fail
      refine HLy.out.mono ?_
      rintro e9 w10 ⟨rfl, ⟨r1, r2, B', M', ht, ho, hr, hrr, hv⟩, hc⟩
      have HRr := hide hrr
      have HT := hide ht
      have HO := hide ho
      have HV := hide hv
      have HC := hide hc
      clear ht ho hv hc hrr HLy
      go_wp2_with fail
      go_ret
      have hnY : ∀ k, k < w6.heap.size → X k → ¬ (k = T ∨ vb = .map (some k) ∨ vm = .map (some k)) := fun k _ hk e => by
        rcases e with rfl | e | e
        · exact HH.out.xT hk
        · exact HH.out.xM k (Or.inl e) hk
        · exact HH.out.xM k (Or.inr e) hk
      have hJn : ¬ (J = T ∨ vb = .map (some J) ∨ vm = .map (some J)) := fun e => by
        have hj : w9.heap[J]? = _ := HH.out.jr
        rcases e with e | e | e
        · exact HH.out.jt e
        · obtain ⟨_, es, c, he⟩ := HH.out.ov.b.lt J e
          rw [he] at hj; cases hj
        · obtain ⟨_, es, c, he⟩ := HH.out.ov.m.lt J e
          rw [he] at hj; cases hj
      have hr12 : ∀ r, (r = r1 ∨ r = r2) → ¬ X r := by
        intro r hrr hx
        rcases HRr.out r hrr with h | h
        · exact HH.out.xM r h hx
        · have := HXl.out r hx
          omega
      refine ⟨rfl, ⟨.map (some r1), .map (some r2), _, B', M', ⟨HT.out, HO.out, Or.inr ⟨r1, r2, rfl, rfl, hr⟩, (HC.out.block J HQ6.out.jr.lt hJn).trans HQ6.out.jr, HQ6.out.fl.chg HC.out hnY, HH.out.xT, HH.out.xJ, fun r e => hr12 r (by simpa [eq_comm] using e), HH.out.jt⟩, HV.out, fun r e => (HRr.out r (by simpa [eq_comm] using e)).imp id (fun h => Nat.le_trans hs6 h)⟩, ?_⟩
      refine (HC6.out.mono (fun i _ e => e.imp id Or.inl)).trans (HC.out.mono (fun i _ e => ?_))
      rcases e with e | e
      · exact Or.inl e
      · exact Or.inr (Or.inr e)
    · go_simp
      have hbB : Below wA.heap.size wA (wA.alloc (.cells #[.int .i64 (t : Int), .slice aC m cC] 79)) := (Below.refl _ _).alloc (Nat.le_refl _) _
      have hbwB : Below w9.heap.size w9 (wA.alloc (.cells #[.int .i64 (t : Int), .slice aC m cC] 79)) := hbwA.trans (hbB.mono hbwA.size)
      have hnB := new2J wA 79 (.int .i64 (t : Int)) (.slice aC m cC)
      refine hK.out _ _ trivial (fun _ => ?_)
      clear hK K
      try simp only [Act.put, List.setIfInBounds_toArray, List.set_cons_zero, List.set_cons_succ]
      generalize hWB : wA.alloc (.cells #[.int .i64 (t : Int), .slice aC m cC] 79) = wB at *
      refine wpAnyH_ready (rs := [4]) (by kernel_rfl) (by simp) ?_
      refine AllReadyH.cons (i := 4) rfl (fun K hK => ?_) AllReadyH.nil
      have cL := (hbwB.cell (p := ⟨T, 3, none⟩) hTl).trans hS0
      go_simp
      refine hK.out _ _ trivial (fun _ => ?_)
      clear hK K
      try simp only [Act.put, List.setIfInBounds_toArray, List.set_cons_zero, List.set_cons_succ]
      clear cL
      obtain ⟨v5, w5, hr5, ho5, hg5, _, hw5⟩ := run_append_own_at (P := Try.prog) wB Ba 71 71 79 i1 (.agg #[.int .i64 0, .slice none 0 0]) 2 32 Try.underlying71 hi hz0 hz1 hz2 rfl (by decide) va L.length (L.flatMap JR.cells) (HVa.out.below hbwB).row ⟨wA.heap.size, 0, none⟩ 1 1 [.int .i64 (t : Int), .slice aC m cC] rfl hnB (by simp [Value.oneCell']) (by unfold maxLen; omega) (by omega) (Nat.le_trans hBa hbwB.size)
      obtain ⟨g5', cp5, hv5⟩ : ∃ g cp, v5 = .slice (some ⟨g, 0, none⟩) (L.length + 1) cp := by
        rcases ho5.2 with ⟨_, h0⟩ | ⟨g, cp, cur, h0, _⟩
        · omega
        · exact ⟨g, cp, h0⟩
      subst hv5
      have hnT : some T ≠ va.ownBlock := fun e => (HSep.out T e.symm).1 rfl
      refine ready_val 10 (some 35) (.slice (some ⟨g5', 0, none⟩) (L.length + 1) cp5) w5 (by kernel_rfl) rfl rfl rfl (exec_append rfl rfl rfl hr5) trivial ?_
      try simp only [Act.put, List.setIfInBounds_toArray, List.set_cons_zero, List.set_cons_succ]
      refine any_take 11 (some 36) (.pointer (some ⟨T, 0, none⟩)) rfl rfl (by kernel_rfl) (by kernel_rfl) (by kernel_rfl) (fun _ _ _ h => h) (by rfl) trivial ?_ ?_
      · intro u hSu
        go_simp
      simp only [Act.put, List.setIfInBounds_toArray, List.set_cons_zero, List.set_cons_succ]
      refine any_take 12 (some 37) (.pointer (some ⟨T, 3, none⟩)) rfl rfl (by kernel_rfl) (by kernel_rfl) (by kernel_rfl) (fun _ _ _ h => h) (by rfl) trivial ?_ ?_
      · intro u hSu
        go_simp
      simp only [Act.put, List.setIfInBounds_toArray, List.set_cons_zero, List.set_cons_succ]
      refine wpAnyH_ready (rs := [13]) (by kernel_rfl) (by simp) ?_
      refine AllReadyH.cons (i := 13) rfl (fun K hK => ?_) AllReadyH.nil
      have hc5 : Chg (fun k => k = T ∨ some k = va.ownBlock) w9 w5 := (Chg.of_below hbwB).trans ((Chg.of_grown hg5).mono (fun i _ e => Or.inr e))
      have ht5 : Txs w5 T J vb vm va false := (hg5.block T (Nat.lt_of_lt_of_le hTl hbwB.size) hnT).trans ((hbwB.block T hTl).trans HH.out.tx)
      have g5 := (show Blk w5 T #[.pointer (some ⟨J, 0, none⟩), vb, vm, va, .bool false] 73 from ht5).frozen 3
      have s5 : w5.cell? ⟨T, 3, none⟩ = some va := ht5.cell.2.2.2.1
      have ht6 : Txs (w5.setCell ⟨T, 3, none⟩ (.slice (some ⟨g5', 0, none⟩) (L.length + 1) cp5)) T J vb vm (.slice (some ⟨g5', 0, none⟩) (L.length + 1) cp5) false := heap_setCell_same _ T 3 _ _ (.slice (some ⟨g5', 0, none⟩) (L.length + 1) cp5) ht5
      have hc6 : Chg (fun k => k = T ∨ some k = va.ownBlock) w9 (w5.setCell ⟨T, 3, none⟩ (.slice (some ⟨g5', 0, none⟩) (L.length + 1) cp5)) := hc5.setCell T 3 _ (fun _ => Or.inl rfl)
      go_simp
      refine hK.out _ _ trivial (fun _ => ?_)
      clear hK K
      try simp only [Act.put, List.setIfInBounds_toArray, List.set_cons_zero, List.set_cons_succ]
      refine wpAnyH_done (by kernel_rfl) ?_ _
      generalize w5.setCell ⟨T, 3, none⟩ (.slice (some ⟨g5', 0, none⟩) (L.length + 1) cp5) = w6 at *
      have hm6 : ∀ r, vb = .map (some r) ∨ vm = .map (some r) → ¬ (r = T ∨ some r = va.ownBlock) := fun r hr e => by
        rcases e with e | e
        · have h1 : w9.heap[T]? = _ := HH.out.tx
          rcases hr with h | h
          · obtain ⟨_, es, cc, he⟩ := HH.out.ov.b.lt r h
            rw [e] at he; rw [he] at h1; cases h1
          · obtain ⟨_, es, cc, he⟩ := HH.out.ov.m.lt r h
            rw [e] at he; rw [he] at h1; cases h1
        · exact (HSep.out r e.symm).2.2.2 r hr rfl
      have hJ6 : ¬ (J = T ∨ some J = va.ownBlock) := fun e => by
        rcases e with e | e
        · exact HH.out.jt e
        · exact (HSep.out J e.symm).2.1 rfl
      have hq6 : Txq w6 T J F X f A k n vb vm (.slice (some ⟨g5', 0, none⟩) (L.length + 1) cp5) B M p q nu :=
        ⟨ht6, HH.out.ov.chg hc6 hm6, HH.out.mm, (hc6.block J HH.out.jr.lt hJ6).trans HH.out.jr, HH.out.fl.chg hc6 (fun i _ hX e => by
          rcases e with e | e
          · exact HH.out.xT (e ▸ hX)
          · exact (HSep.out i e.symm).2.2.1 hX), HH.out.xT, HH.out.xJ, HH.out.xM, HH.out.jt⟩
      have hl6 : Lies w6 a pl := HL.out.chg hc6 (fun x hx e => by
        have := HlT.out x hx
        rcases e with e | e
        · exact this.1 e
        · exact this.2.1 e)
      have HLy := hide (lay_by 1 (by omega) w6 T J vb vm _ false B M hq6.tx hq6.ov hq6.mm a cap m pl HHm.out hl6 hcap (fun _ x hx => ⟨(HlT.out x hx).1, (HlT.out x hx).2.2⟩) t htn)
      have HQ6 := hide hq6
      have HC6 := hide hc6
      have hs6 := hc6.size
      clear hr5 ho5 hg5 hw5 hc5 ht5 g5 s5 ht6 hc6 hm6 hJ6 hq6 hl6 hnB hbwB hbwA hoC hbA hsC hfC HCl
      apply_assumption
      go_wp2_with fail
      refine HLy.out.mono ?_
      rintro e9 w10 ⟨rfl, ⟨r1, r2, B', M', ht, ho, hr, hrr, hv⟩, hc⟩
      have HRr := hide hrr
      have HT := hide ht
      have HO := hide ho
      have HV := hide hv
      have HC := hide hc
      clear ht ho hv hc hrr HLy
      go_wp2_with fail
      go_ret
      have hnY : ∀ k, k < w6.heap.size → X k → ¬ (k = T ∨ vb = .map (some k) ∨ vm = .map (some k)) := fun k _ hk e => by
        rcases e with rfl | e | e
        · exact HH.out.xT hk
        · exact HH.out.xM k (Or.inl e) hk
        · exact HH.out.xM k (Or.inr e) hk
      have hJn : ¬ (J = T ∨ vb = .map (some J) ∨ vm = .map (some J)) := fun e => by
        have hj : w9.heap[J]? = _ := HH.out.jr
        rcases e with e | e | e
        · exact HH.out.jt e
        · obtain ⟨_, es, c, he⟩ := HH.out.ov.b.lt J e
          rw [he] at hj; cases hj
        · obtain ⟨_, es, c, he⟩ := HH.out.ov.m.lt J e
          rw [he] at hj; cases hj
      have hr12 : ∀ r, (r = r1 ∨ r = r2) → ¬ X r := by
        intro r hrr hx
        rcases HRr.out r hrr with h | h
        · exact HH.out.xM r h hx
        · have := HXl.out r hx
          omega
      refine ⟨rfl, ⟨.map (some r1), .map (some r2), _, B', M', ⟨HT.out, HO.out, Or.inr ⟨r1, r2, rfl, rfl, hr⟩, (HC.out.block J HQ6.out.jr.lt hJn).trans HQ6.out.jr, HQ6.out.fl.chg HC.out hnY, HH.out.xT, HH.out.xJ, fun r e => hr12 r (by simpa [eq_comm] using e), HH.out.jt⟩, HV.out, fun r e => (HRr.out r (by simpa [eq_comm] using e)).imp id (fun h => Nat.le_trans hs6 h)⟩, ?_⟩
      refine (HC6.out.mono (fun i _ e => e.imp id Or.inl)).trans (HC.out.mono (fun i _ e => ?_))
      rcases e with e | e
      · exact Or.inl e
      · exact Or.inr (Or.inr e)
end Go.Proofs.Ytbpehfadmilhdaa.Oct
namespace Go.Proofs.Ytbpehfadmilhdaa.Oct
open Go.RowKit Go.Deep Go.Sort

set_option maxRecDepth 100000 in
theorem outside_yes (w : World) (t n : Int) (ht : t ≤ 9223372036854775807) (h : t < 0 ∨ n < 0 ∨ 4194304 - t < n) : Calls Try.prog 33 #[.int .i64 t, .int .i64 n] w fun e w' => e = .returned (.bool true) ∧ w' = w := by
  by_cases h1 : t < 0
  · go_enter Try.func33, Try.ntmps33
    go_wp2_with fail
    go_ret
    exact ⟨rfl, rfl⟩
  · by_cases h2 : n < 0
    · go_enter Try.func33, Try.ntmps33
      go_wp2_with fail
      go_ret
      exact ⟨rfl, rfl⟩
    · have h3 : 4194304 - t < n := by omega
      have h4 : decide (4194304 - t < n) = true := by simpa using h3
      go_enter Try.func33, Try.ntmps33
      go_wp2_with fail
      go_ret
      exact ⟨rfl, rfl⟩

set_option maxRecDepth 100000 in
theorem get_no (w : World) (T J : Nat) (vb vm va : Value) (d : Bool) (h : Txs w T J vb vm va d) (t n : Int) (ht : t ≤ 9223372036854775807) (ho : t < 0 ∨ n < 0 ∨ 4194304 - t < n) :
    Calls Try.prog 17 #[.pointer (some ⟨T, 0, none⟩), .int .i64 t, .int .i64 n] w fun e w' => e = .returned (.tuple #[.slice none 0 0, .int .i64 4]) ∧ w' = w := by
  have HNo := hide (none_tx w T J vb vm va d h)
  have HOu := hide (outside_yes w t n ht ho)
  clear h ho ht
  go_enter Try.func17, Try.ntmps17
  go_wp2_with fail
  refine HNo.out.mono ?_
  rintro e9 w9 ⟨rfl, h9⟩
  rw [h9]
  clear h9
  go_wp2_with fail
  refine HOu.out.mono ?_
  rintro e9 w9 ⟨rfl, h9⟩
  rw [h9]
  clear h9
  go_wp2_with fail
  go_ret2
  exact ⟨rfl, rfl⟩

set_option maxRecDepth 100000 in
theorem put_no (w : World) (T J : Nat) (vb vm va : Value) (h : Txs w T J vb vm va false) (t : Int) (ht : t ≤ 9223372036854775807) (a : Option Addr) (m cap : Nat) (ho : t < 0 ∨ (m : Int) < 0 ∨ 4194304 - t < m) :
    Calls Try.prog 13 #[.pointer (some ⟨T, 0, none⟩), .int .i64 t, .slice a m cap] w fun e w' => e = .returned (.int .i64 4) ∧ w' = w := by
  have HOp := hide (open_tx w T J vb vm va h)
  have HOu := hide (outside_yes w t m ht ho)
  clear h ho ht
  go_enter Try.func13, Try.ntmps13
  go_wp2_with fail
  refine HOp.out.mono ?_
  rintro e9 w9 ⟨rfl, h9⟩
  rw [h9]
  clear h9
  go_wp2_with fail
  refine HOu.out.mono ?_
  rintro e9 w9 ⟨rfl, h9⟩
  rw [h9]
  clear h9
  go_wp2_with fail
  go_ret
  exact ⟨rfl, rfl⟩

set_option maxRecDepth 100000 in
theorem fresh_no (w : World) (T J : Nat) (vb vm va : Value) (h : Txs w T J vb vm va false) (t : Int) (ht : t ≤ 9223372036854775807) (a : Option Addr) (m cap : Nat) (ho : t < 0 ∨ (m : Int) < 0 ∨ 4194304 - t < m) :
    Calls Try.prog 14 #[.pointer (some ⟨T, 0, none⟩), .int .i64 t, .slice a m cap] w fun e w' => e = .returned (.int .i64 4) ∧ w' = w := by
  have HOp := hide (open_tx w T J vb vm va h)
  have HOu := hide (outside_yes w t m ht ho)
  clear h ho ht
  go_enter Try.func14, Try.ntmps14
  go_wp2_with fail
  refine HOp.out.mono ?_
  rintro e9 w9 ⟨rfl, h9⟩
  rw [h9]
  clear h9
  go_wp2_with fail
  refine HOu.out.mono ?_
  rintro e9 w9 ⟨rfl, h9⟩
  rw [h9]
  clear h9
  go_wp2_with fail
  go_ret
  exact ⟨rfl, rfl⟩

set_option maxRecDepth 100000 in
theorem fresh_odd (w : World) (T J : Nat) (vb vm va : Value) (h : Txs w T J vb vm va false) (t : Nat) (a : Option Addr) (m cap : Nat) (ho : t + m ≤ 4194304) (h5 : ¬ t % 512 = 0) :
    Calls Try.prog 14 #[.pointer (some ⟨T, 0, none⟩), .int .i64 t, .slice a m cap] w fun e w' => e = .returned (.int .i64 4) ∧ w' = w := by
  have HOp := hide (open_tx w T J vb vm va h)
  have HOu := hide (outside_no w t m ho)
  obtain ⟨z, hz⟩ : ∃ z : Nat, z = t % 512 := ⟨_, rfl⟩
  have hd1 : ((t : Nat) : Int).tmod 512 = (z : Int) := by rw [Int.tmod_eq_emod_of_nonneg (by omega)]; omega
  have hd2 : ((t : Nat) : Int) % 512 = (z : Int) := by omega
  have hd3 : ¬ ((z : Int) = 0) := by omega
  have hd4 : ((z : Int) != 0) = true := by simp; omega
  clear h ho h5 hz
  go_enter Try.func14, Try.ntmps14
  go_wp2_with fail
  refine HOp.out.mono ?_
  rintro e9 w9 ⟨rfl, h9⟩
  rw [h9]
  clear h9
  go_wp2_with fail
  refine HOu.out.mono ?_
  rintro e9 w9 ⟨rfl, h9⟩
  rw [h9]
  clear h9
  go_wp2_with fail
  go_ret
  exact ⟨rfl, rfl⟩

set_option maxRecDepth 100000 in
theorem fresh_none (w : World) (T J : Nat) (vb vm va : Value) (h : Txs w T J vb vm va false) (t : Nat) (a : Option Addr) (cap : Nat) (ho : t ≤ 4194304) (h5 : t % 512 = 0) :
    Calls Try.prog 14 #[.pointer (some ⟨T, 0, none⟩), .int .i64 t, .slice a 0 cap] w fun e w' => e = .returned (.int .i64 0) ∧ w' = w := by
  have HOp := hide (open_tx w T J vb vm va h)
  have HOu := hide (outside_no w t 0 (by omega))
  have hd1 : ((t : Nat) : Int).tmod 512 = 0 := by rw [Int.tmod_eq_emod_of_nonneg (by omega)]; omega
  have hd2 : ((t : Nat) : Int) % 512 = 0 := by omega
  clear h ho h5
  go_enter Try.func14, Try.ntmps14
  go_wp2_with fail
  refine HOp.out.mono ?_
  rintro e9 w9 ⟨rfl, h9⟩
  rw [h9]
  clear h9
  go_wp2_with fail
  refine HOu.out.mono ?_
  rintro e9 w9 ⟨rfl, h9⟩
  rw [h9]
  clear h9
  go_wp2_with fail
  go_ret
  exact ⟨rfl, rfl⟩

theorem nilt_none (w : World) : Calls Try.prog 36 #[.pointer none] w fun e w' => e = .returned (.bool true) ∧ w' = w := by
  go_enter Try.func36, Try.ntmps36
  go_wp2_with fail
  go_ret
  exact ⟨rfl, rfl⟩

theorem nilt_open (w : World) : Calls Try.prog 32 #[.pointer none] w fun e w' => e = .returned (.int .i64 2) ∧ w' = w := by
  go_enter Try.func32, Try.ntmps32
  go_wp2_with fail
  refine (nilt_none _).mono ?_
  rintro e9 w1 ⟨rfl, rfl⟩
  go_wp2_with fail
  go_ret
  exact ⟨rfl, rfl⟩

theorem nilt_get (w : World) (a b : Value) : Calls Try.prog 17 #[.pointer none, a, b] w fun e w' => e = .returned (.tuple #[.slice none 0 0, .int .i64 2]) ∧ w' = w := by
  go_enter Try.func17, Try.ntmps17
  go_wp2_with fail
  refine (nilt_none _).mono ?_
  rintro e9 w1 ⟨rfl, rfl⟩
  go_wp2_with fail
  go_ret2
  exact ⟨rfl, rfl⟩

theorem nilt_put (w : World) (a b : Value) : Calls Try.prog 13 #[.pointer none, a, b] w fun e w' => e = .returned (.int .i64 2) ∧ w' = w := by
  go_enter Try.func13, Try.ntmps13
  go_wp2_with fail
  refine (nilt_open _).mono ?_
  rintro e9 w1 ⟨rfl, rfl⟩
  go_wp2_with fail
  go_ret
  exact ⟨rfl, rfl⟩

theorem nilt_fresh (w : World) (a b : Value) : Calls Try.prog 14 #[.pointer none, a, b] w fun e w' => e = .returned (.int .i64 2) ∧ w' = w := by
  go_enter Try.func14, Try.ntmps14
  go_wp2_with fail
  refine (nilt_open _).mono ?_
  rintro e9 w1 ⟨rfl, rfl⟩
  go_wp2_with fail
  go_ret
  exact ⟨rfl, rfl⟩

theorem nilt_commit (w : World) : Calls Try.prog 22 #[.pointer none] w fun e w' => e = .returned (.int .i64 2) ∧ w' = w := by
  go_enter Try.func22, Try.ntmps22
  go_wp2_with fail
  refine (nilt_open _).mono ?_
  rintro e9 w1 ⟨rfl, rfl⟩
  go_wp2_with fail
  go_ret
  exact ⟨rfl, rfl⟩

theorem nilt_size (w : World) : Calls Try.prog 20 #[.pointer none] w fun e w' => e = .returned (.int .i64 0) ∧ w' = w := by
  go_enter Try.func20, Try.ntmps20
  go_wp2_with fail
  refine (nilt_none _).mono ?_
  rintro e9 w1 ⟨rfl, rfl⟩
  go_wp2_with fail
  go_ret
  exact ⟨rfl, rfl⟩

theorem nilt_begin (w : World) : Calls Try.prog 11 #[.pointer none] w fun e w' => e = .returned (.tuple #[.pointer none, .int .i64 2]) ∧ w' = w := by
  go_enter Try.func11, Try.ntmps11
  go_wp2_with fail
  go_ret2
  exact ⟨rfl, rfl⟩
end Go.Proofs.Ytbpehfadmilhdaa.Oct
namespace Go.Proofs.Ytbpehfadmilhdaa.Oct
open Go.RowKit Go.Deep Go.ChangeShapes Go.WideShapes Go.ChangeAt

/-- An operation, with the place of its bytes. -/
structure GOp where
  kind : Int
  at_ : Int
  n : Int
  a : Option Addr
  cap : Nat
  b : List Int

def GOp.nil : GOp := ⟨0, 0, 0, none, 0, []⟩

def OpAt (w : World) (b off : Nat) (o : GOp) : Prop :=
  w.cell? ⟨b, off, none⟩ = some (.int .i64 o.kind) ∧ w.cell? ⟨b, off + 1, none⟩ = some (.int .i64 o.at_) ∧ w.cell? ⟨b, off + 2, none⟩ = some (.int .i64 o.n) ∧
  w.cell? ⟨b, off + 3, none⟩ = some (.slice o.a o.b.length o.cap) ∧ Sl w o.a o.cap o.b

def GOp.fit (o : GOp) : Prop :=
  (-9223372036854775808 ≤ o.kind ∧ o.kind ≤ 9223372036854775807) ∧ (-9223372036854775808 ≤ o.at_ ∧ o.at_ ≤ 9223372036854775807) ∧ (-9223372036854775808 ≤ o.n ∧ o.n ≤ 9223372036854775807) ∧ Byts o.b

/-- Operations, one behind the other, from the address on. -/
def Opr (w : World) (a : Option Addr) (L : List GOp) : Prop :=
  L = [] ∨ ∃ b off, a = some ⟨b, off, none⟩ ∧ b < w.heap.size ∧ ∀ r, r < L.length → OpAt w b (off + r * 4) (L.getD r GOp.nil)

def Fits (L : List GOp) : Prop := ∀ r, r < L.length → (L.getD r GOp.nil).fit

theorem OpAt.below {w w' : World} {b off : Nat} {o : GOp} (h : OpAt w b off o) (hlt : b < w.heap.size) (hb : Below w.heap.size w w') : OpAt w' b off o :=
  ⟨(hb.cell (p := ⟨b, off, none⟩) hlt).trans h.1, (hb.cell (p := ⟨b, off + 1, none⟩) hlt).trans h.2.1, (hb.cell (p := ⟨b, off + 2, none⟩) hlt).trans h.2.2.1, (hb.cell (p := ⟨b, off + 3, none⟩) hlt).trans h.2.2.2.1, h.2.2.2.2.below hb⟩

theorem Opr.below {w w' : World} {a : Option Addr} {L : List GOp} (h : Opr w a L) (hb : Below w.heap.size w w') : Opr w' a L := by
  rcases h with rfl | ⟨b, off, rfl, hlt, hc⟩
  · exact Or.inl rfl
  · exact Or.inr ⟨b, off, rfl, Nat.lt_of_lt_of_le hlt hb.size, fun r hr => (hc r hr).below hlt hb⟩

theorem cells3 : Try.prog.cellsOf 3 = 1 := by kernel_rfl
theorem cells2 : Try.prog.cellsOf 2 = 1 := by kernel_rfl
theorem cells4 : Try.prog.cellsOf 4 = 1 := by kernel_rfl
theorem cellsB : Try.prog.cellsOf 25 = 1 := by kernel_rfl
theorem cellsO : Try.prog.cellsOf 37 = 4 := by kernel_rfl

theorem spot_of {W : World} {a : Addr} {cs : List Value} (h1 : W.cells? 0 (a.add 0) 4 = some cs) : a.spot = none := by
  obtain ⟨_, hlen, hcell⟩ := World.cells?_some h1
  match cs, hlen with
  | [v0, v1, v2, v3], _ =>
    have q0 := hcell 0 (by omega)
    obtain ⟨b, off, spot⟩ := a
    simpa [Addr.add] using World.cell?_spot q0

set_option maxRecDepth 100000 in
theorem op_of {H : Type} {enc : TypeId × Value → H} {W : World} {n : Nat} {b off : Nat} {i : Nat} {cs : List Value} {x : DataW H × List MemPlace}
    (h1 : W.cells? 0 ((⟨b, off, none⟩ : Addr).add (i * 4)) 4 = some cs) (h2 : DataW.trod enc Try.prog W 0 (fun _ => true) true n 37 cs = some x) :
    ∃ o : GOp, OpAt W b (off + i * 4) o ∧ o.fit := by
  obtain ⟨_, hlen, hcell⟩ := World.cells?_some h1
  obtain ⟨y0, y1, y2, y3, k, _, _, g0, g1, g2, g3⟩ := Go.Joins.trod_struct4 Try.underlying37 h2
  match cs, hlen with
  | [v0, v1, v2, v3], _ =>
    simp only [cells3, cellsB] at g0 g1 g2 g3
    obtain ⟨k0, e0, w0⟩ := open_int_trod Try.underlying3 g0
    obtain ⟨k1, e1, w1⟩ := open_int_trod Try.underlying3 g1
    obtain ⟨k2, e2, w2⟩ := open_int_trod Try.underlying3 g2
    obtain ⟨a3, c3, l3, e3, _, hb3, _, hs3⟩ := open_bytes_trod g3
    have q0 := hcell 0 (by omega)
    have q1 := hcell 1 (by omega)
    have q2 := hcell 2 (by omega)
    have q3 := hcell 3 (by omega)
    subst e0 e1 e2 e3
    rw [add_plain, add_plain] at q0 q1 q2 q3
    exact ⟨⟨k0, k1, k2, a3, c3, l3⟩, ⟨q0, q1, q2, q3, hs3⟩, wf_i64 w0, wf_i64 w1, wf_i64 w2, hb3⟩

set_option maxRecDepth 100000 in
theorem open_ops_trod {H : Type} {enc : TypeId × Value → H} {W : World} {fuel : Nat} {v : Value} {x : DataW H × List MemPlace}
    (hf : DataW.trod enc Try.prog W 0 (fun _ => true) true fuel 22 [v] = some x) :
    ∃ a cap L, v = .slice a L.length cap ∧ L.length ≤ maxLen ∧ Fits L ∧ Opr W a L := by
  rcases open_slice Try.underlying22 hf with ⟨hcs, _⟩ | ⟨a, len, cap, m, n, D, Pl, hcs, _, hl, hm, hmm, _, hx⟩
  · simp at hcs
    subst hcs
    exact ⟨none, 0, [], rfl, by simp, fun r hr => by simp at hr, Or.inl rfl⟩
  · simp at hcs
    subst hcs
    simp only [if_true] at hmm
    rw [cellsO] at hx
    by_cases h0 : len = 0
    · subst h0
      exact ⟨some a, cap, [], rfl, by simp, fun r hr => by simp at hr, Or.inl rfl⟩
    haveI : Inhabited GOp := ⟨GOp.nil⟩
    have hs : a.spot = none := by
      obtain ⟨cs', h1, _⟩ := hx 0 (by omega)
      exact spot_of (by simpa using h1)
    obtain ⟨b, off, spot⟩ := a
    simp only at hs
    subst hs
    obtain ⟨q, hq⟩ := choose_lt (α := GOp) (p := fun i o => OpAt W b (off + i * 4) o ∧ o.fit) (fun i (hi : i < m) => by
      obtain ⟨cs', h1, h2⟩ := hx i hi
      exact op_of h1 h2)
    obtain ⟨L, hL⟩ : ∃ L, L = (List.range len).map q := ⟨_, rfl⟩
    have hlen : L.length = len := by rw [hL]; simp
    have hget : ∀ r, r < len → L.getD r GOp.nil = q r := fun r hr => by rw [hL]; simp [hr]
    refine ⟨some ⟨b, off, none⟩, cap, L, by rw [hlen], by omega, fun r hr => ?_, Or.inr ⟨b, off, rfl, lt_of_cell (hq 0 (by omega)).1.1, fun r hr => ?_⟩⟩
    · rw [hget r (by omega)]; exact (hq r (by omega)).2
    · rw [hget r (by omega)]; exact (hq r (by omega)).1

set_option maxRecDepth 100000 in
theorem open_ops {H : Type} {enc : TypeId × Value → H} {W : World} {base : Nat} {v : Value} {d : DataW H} {ps : List MemPlace}
    (hok : Value.okWide Try.prog W .any base 22 v) (h : DataW.Trod enc Try.prog W 0 (fun _ => true) true 22 v d ps) :
    ∃ a cap L, v = .slice a L.length cap ∧ L.length ≤ maxLen ∧ Fits L ∧ Opr W a L := by
  obtain ⟨a0, len, cap, rfl⟩ := okWide_slice Try.underlying22 hok
  obtain ⟨fuel, hf⟩ := h
  exact open_ops_trod (by simpa [Value.cells] using hf)

set_option maxRecDepth 100000 in
theorem open_bools_trod {H : Type} {enc : TypeId × Value → H} {W : World} {fuel : Nat} {v : Value} {x : DataW H × List MemPlace}
    (hf : DataW.trod enc Try.prog W 0 (fun _ => true) true fuel 52 [v] = some x) :
    ∃ a cap L, v = .slice a (List.length L) cap ∧ L.length ≤ maxLen ∧ LiesB W a L := by
  rcases open_slice1 Try.underlying52 cells4 hf with ⟨hcs, _⟩ | ⟨a, len, cap, m, n, V, D, Pl, hcs, _, hl, hm, hmm, _, hx⟩
  · simp at hcs
    subst hcs
    exact ⟨none, 0, [], rfl, by simp, Or.inl rfl⟩
  · simp at hcs
    subst hcs
    simp only [if_true] at hmm
    by_cases h0 : len = 0
    · subst h0
      exact ⟨some a, cap, [], rfl, by simp, Or.inl rfl⟩
    obtain ⟨b, off, spot⟩ := a
    have hs : spot = none := by simpa [Addr.add] using World.cell?_spot (hx 0 (by omega)).1
    subst hs
    obtain ⟨q, hq⟩ := choose_lt (α := Bool) (p := fun i x => W.cell? ⟨b, off + i, none⟩ = some (.bool x)) (fun i (hi : i < m) => by
      obtain ⟨h1, h2⟩ := hx i hi
      obtain ⟨x, hb, _⟩ := DataW.trod_bool Try.underlying4 h2
      simp at hb
      rw [hb, add_plain] at h1
      exact ⟨x, h1⟩)
    obtain ⟨L, hL⟩ : ∃ L, L = (List.range len).map q := ⟨_, rfl⟩
    have hlen : L.length = len := by rw [hL]; simp
    have hget : ∀ r, r < len → L.getD r false = q r := fun r hr => by rw [hL]; simp [hr]
    refine ⟨some ⟨b, off, none⟩, cap, L, by rw [hlen], by omega, Or.inr ⟨b, off, rfl, lt_of_cell (hq 0 (by omega)), fun r hr => ?_⟩⟩
    rw [hget r (by omega)]
    exact hq r (by omega)

set_option maxRecDepth 100000 in
theorem open_bools {H : Type} {enc : TypeId × Value → H} {W : World} {base : Nat} {v : Value} {d : DataW H} {ps : List MemPlace}
    (hok : Value.okWide Try.prog W .any base 52 v) (h : DataW.Trod enc Try.prog W 0 (fun _ => true) true 52 v d ps) :
    ∃ a cap L, v = .slice a (List.length L) cap ∧ L.length ≤ maxLen ∧ LiesB W a L := by
  obtain ⟨a0, len, cap, rfl⟩ := okWide_slice Try.underlying52 hok
  obtain ⟨fuel, hf⟩ := h
  exact open_bools_trod (by simpa [Value.cells] using hf)

end Go.Proofs.Ytbpehfadmilhdaa.Oct
namespace Go.Proofs.Ytbpehfadmilhdaa.Oct
open Go.RowKit Go.Deep Go.Sort

theorem mod6 (x : Int) : ∃ n : Nat, n < 6000 ∧ (IntKind.u64.wrap x).tmod 6000 = (n : Int) := by
  have h0 : 0 ≤ IntKind.u64.wrap x := by rw [IntKind.wrap_u64]; omega
  have e : (IntKind.u64.wrap x).tmod 6000 = (IntKind.u64.wrap x) % 6000 := Int.tmod_eq_emod_of_nonneg h0
  rw [e]
  generalize IntKind.u64.wrap x = y at *
  exact ⟨(y % 6000).toNat, by omega, by omega⟩

set_option maxRecDepth 100000 in
set_option maxHeartbeats 2000000 in
theorem place6 (w : World) (k t n : Int) (b : Value) : Calls Try.prog 12 #[.agg #[.int .i64 k, .int .i64 t, .int .i64 n, b]] w fun e w' => ∃ p : Nat, e = .returned (.int .i64 (p : Int)) ∧ 10752 ≤ p ∧ p < 16752 ∧ (k = 2 → p % 512 = 0) ∧ Below w.heap.size w w' := by
  have HX := hide (Blk.new w #[.int .i64 k, .int .i64 t, .int .i64 n, b] 37)
  have HB := hide ((Below.refl w.heap.size w).alloc (Nat.le_refl _) (.cells #[.int .i64 k, .int .i64 t, .int .i64 n, b] 37))
  obtain ⟨m, hm, hx⟩ := mod6 t
  have c0 := HX.out.cell 0 _ rfl
  have c1 := HX.out.cell 1 _ rfl
  obtain ⟨d, hd1, hd2, hd3⟩ : ∃ d : Nat, ((10752 : Int) + (m : Int)).tdiv 512 = (d : Int) ∧ d = (10752 + m) / 512 ∧ ((10752 : Int) + (m : Int)) / 512 = (d : Int) := ⟨(10752 + m) / 512, by rw [Int.tdiv_eq_ediv_of_nonneg (by omega)]; omega, rfl, by omega⟩
  have hd4 : d ≤ 32 ∧ 21 ≤ d := by omega
  have HD := hide hd2
  clear hd2
  by_cases hk : k = 2
  · subst hk
    go_enter Try.func12, Try.ntmps12
    go_wp2_with fail
    go_ret
    exact ⟨d * 512, by congr 2 <;> omega, by omega, by omega, fun _ => by omega, HB.out⟩
  · go_enter Try.func12, Try.ntmps12
    go_wp2_with fail
    go_ret
    exact ⟨10752 + m, by congr 2 <;> omega, by omega, by omega, fun e => absurd e hk, HB.out⟩

set_option maxRecDepth 100000 in
set_option maxHeartbeats 2000000 in
theorem light6 (w : World) (a : Option Addr) (cap : Nat) (R : List GOp) (h : Opr w a R) (hR : R.length ≤ maxLen) : Calls Try.prog 8 #[.slice a R.length cap] w fun e w' => Below w.heap.size w w' ∧ (e = .returned (.bool false) ∨ (e = .returned (.bool true) ∧ R.length ≤ 25 ∧ ∀ j, j < R.length → (R.getD j GOp.nil).b.length ≤ 1500)) := by
  have HO := hide h
  have HB0 := hide (Below.refl w.heap.size w)
  unfold maxLen at hR
  clear h
  by_cases hbig : 25 < R.length
  · go_enter Try.func8, Try.ntmps8
    go_wp2_with fail
    go_ret
    exact ⟨HB0.out, Or.inl rfl⟩
  go_enter Try.func8, Try.ntmps8
  go_wp2_with fail
  go_loopw [3] (fun i wr => ∃ k : Nat, k ≤ R.length ∧ i = .int .i64 (k : Int) ∧ (∀ j, j < k → (R.getD j GOp.nil).b.length ≤ 1500) ∧ Below w.heap.size w wr) (fun i _ => R.length - (intOf i).toNat)
  case atStart => exact ⟨0, by omega, rfl, fun j hj => by omega, HB0.out⟩
  case round =>
    obtain ⟨k, hk, rfl, hall, hb⟩ := hrel
    have HA := hide hall
    have HB := hide hb
    clear hall
    by_cases hlt : k < R.length
    · rcases HO.out with h0 | ⟨b, off, rfl, hblt, hc⟩
      · rw [h0] at hlt; simp at hlt
      have q := (hb.cell (p := ⟨b, off + k * 4 + 3, none⟩) hblt).trans (hc k hlt).2.2.2.1
      have hq := (hc k hlt).2.2.2.2.le
      have hq2 := (hc k hlt).2.2.2.2.max
      unfold maxLen at hq2
      have HSt : Hid ((R.getD k GOp.nil).b.length ≤ 1500 → ∀ j, j < k + 1 → (R.getD j GOp.nil).b.length ≤ 1500) := hide (fun h j hj => by
        by_cases e : j = k
        · subst e; exact h
        · exact HA.out j (by omega))
      generalize R.getD k GOp.nil = o at *
      clear hc hb
      by_cases hl : 1500 < o.b.length
      · go_wp2_with fail
        go_ret
        exact ⟨HB.out, Or.inl rfl⟩
      · go_wp2_with fail
        exact ⟨⟨k + 1, by omega, by go_num, HSt.out (by omega), HB.out⟩, by simp [intOf]; omega⟩
    · obtain rfl : k = R.length := by omega
      clear hb
      go_wp2_with fail
      go_ret
      exact ⟨HB.out, Or.inr ⟨rfl, by omega, HA.out⟩⟩

set_option maxRecDepth 100000 in
set_option maxHeartbeats 2000000 in
theorem Part6 (a : Option Addr) (cap : Nat) (l : List Int) (w : World) (hlen : l.length ≤ 1000000) (hs : Sl w a cap l) (hn : 0 < l.length) :
    Calls Try.prog 28 #[.slice a l.length cap, .int .i64 0, .int .i64 (l.length : Int)] w fun e w' => ∃ v, e = .returned v ∧ Own w' w.heap.size v l ∧ Below w.heap.size w w' := by
  rcases hs.lies with h0 | ⟨b, off, rfl, hb, hc⟩
  · rw [h0] at hn; simp at hn
  have hcap := hs.le
  have hmax := hs.max
  have HL := hide (Lies.mk hc)
  have hcc : ¬ cap = 0 := by omega
  unfold maxLen at hmax
  clear hs hc
  go_enter Try.func28, Try.ntmps28
  go_wp2_with (at_builtin; refine wpList_append_bytes rfl _ _ 25 rfl Try.underlying25 info5 w.heap.size _ [] rfl (by exact Own.nil _ _) _ _ _ l rfl rfl (by exact HL.out) (by simp; omega) (by exact Nat.le_refl _) ?_; intro v4 w4 ho4 hg4)
  go_ret
  exact ⟨_, rfl, by simpa using ho4, Own.behind (Own.nil _ _) (Below.refl _ _) hg4 (Nat.le_refl _)⟩

set_option maxRecDepth 100000 in
set_option maxHeartbeats 4000000 in
theorem longer6 (a : Option Addr) (cap : Nat) (l : List Int) (n : Nat) (w : World) (hlen : l.length ≤ 100000) (hn : n ≤ 100000) (hs : Sl w a cap l) (h0 : 0 < l.length) :
    Calls Try.prog 16 #[.slice a l.length cap, .int .i64 n] w fun e w' => ∃ a' c' l', e = .returned (.slice a' (List.length l') c') ∧ Sl w' a' c' l' ∧ l'.length = max l.length n ∧ (∀ i, l'.getD i 0 = l.getD i 0) ∧ Below w.heap.size w w' := by
  have HS := hide hs
  have HB0 := hide (Below.refl w.heap.size w)
  have hcap := hs.le
  have hmax := hs.max
  unfold maxLen at hmax
  by_cases hle : n ≤ l.length
  · clear hs
    have hle2 : (n : Int) ≤ (l.length : Int) := by omega
    go_enter Try.func16, Try.ntmps16
    go_wp2_with fail
    go_ret
    exact ⟨a, cap, l, rfl, HS.out, by omega, fun _ => rfl, HB0.out⟩
  · have HPa := hide (Part6 a cap l w (by omega) hs h0)
    obtain ⟨k, hk⟩ : ∃ k : Nat, n = l.length + k := ⟨n - l.length, by omega⟩
    subst hk
    have e1 : ((l.length + k : Nat) : Int) - (l.length : Int) = (k : Int) := by omega
    have e2 : (l.length : Int) + (k : Int) - (l.length : Int) = (k : Int) := by omega
    have hle2 : ¬ (((l.length + k : Nat) : Int) ≤ (l.length : Int)) := by omega
    have hle3 : ¬ ((l.length : Int) + (k : Int) ≤ (l.length : Int)) := by omega
    have HK := hide (show 0 < k by omega)
    clear hs
    go_enter Try.func16, Try.ntmps16
    go_wp2_with fail
    refine HPa.out.mono ?_
    rintro e9 w1 ⟨v1, rfl, ho1, hb1⟩
    have HO1 := hide ho1
    have HB1 := hide hb1
    have HZ := hide (Zeros_any k w1 (by omega))
    clear ho1 hb1 HPa
    go_wp2_with fail
    try rw [e2]
    refine HZ.out.mono ?_
    rintro e9 w2 ⟨v2, rfl, ho2, hb2⟩
    obtain ⟨a2, c2, rfl, hl2, _⟩ := ho2.form
    have HL2 := hide hl2
    have HO2 := hide (HO1.out.below hb2)
    have HB2 := hide (HB1.out.trans (hb2.mono HB1.out.size))
    clear ho2 hb2 hl2 HZ
    go_wp2_with (at_builtin; refine wpList_append_bytes rfl _ _ 25 rfl Try.underlying25 info5 w.heap.size _ l rfl (by exact HO2.out) _ _ _ (List.replicate k 0) rfl (by first | rfl | simp) (by exact HL2.out) (by rw [List.length_replicate]; omega) (by exact HB2.out.size) ?_; intro v4 w4 ho4 hg4; have HO4 := hide ho4; have HB4 := hide (Own.behind HO2.out HB2.out hg4 HB2.out.size); clear ho4 hg4)
    go_ret
    obtain ⟨a4, c4, rfl, hs4, _⟩ := HO4.out.sl
    refine ⟨a4, c4, _, rfl, hs4, by rw [List.length_append, List.length_replicate]; omega, fun i => ?_, HB4.out⟩
    rw [List.getD_eq_getElem?_getD, List.getD_eq_getElem?_getD, List.getElem?_append]
    split
    · rfl
    · rename_i hi
      rw [List.getElem?_replicate, List.getElem?_eq_none (by omega)]
      split <;> rfl
end Go.Proofs.Ytbpehfadmilhdaa.Oct
namespace Go.Proofs.Ytbpehfadmilhdaa.Oct
open Go.RowKit Go.Deep Go.Sort

set_option maxRecDepth 100000 in
set_option maxHeartbeats 8000000 in
theorem fresh_r (w : World) (T J F : Nat) (X : Nat → Prop) (f : Fs) (A : A3) (k n : Nat) (vb vm va : Value) (B M : Int → List Int) (p q : Nat) (nu : Int) (h : Txq w T J F X f A k n vb vm va B M p q nu) (Ba nL : Nat) (xs : List Value) (hva : w.ownsRow Ba 79 2 va nL xs) (hBa : Ba ≤ w.heap.size) (hLl : nL ≤ 1000) (hsep : ∀ g, va.ownBlock = some g → g ≠ T ∧ g ≠ J ∧ ¬ X g ∧ ∀ r, vb = .map (some r) ∨ vm = .map (some r) → g ≠ r)
    (a : Option Addr) (cap m : Nat) (pl : List Int) (hm : m = pl.length) (hm0 : 0 < m) (hl : Lies w a pl) (hcap : m ≤ cap ∧ cap ≤ 9223372036854775807)
    (hlT : ∀ x, a = some x → x.block ≠ T ∧ some x.block ≠ va.ownBlock ∧ ∀ r, vb = .map (some r) ∨ vm = .map (some r) → x.block ≠ r) (t : Nat) (htn : t + m ≤ 4194304) (h512 : t % 512 = 0) :
    Calls Try.prog 14 #[.pointer (some ⟨T, 0, none⟩), .int .i64 t, .slice a m cap] w fun e w' => e = .returned (.int .i64 0) ∧ (∃ vb' vm' va' B' M', Txq w' T J F X f A k n vb' vm' va' B' M' p q nu ∧ Laid B M B' M' t m pl 1 ∧ (∀ r, vb' = .map (some r) ∨ vm' = .map (some r) → (vb = .map (some r) ∨ vm = .map (some r)) ∨ w.heap.size ≤ r) ∧ (∃ xs', w'.ownsRow Ba 79 2 va' (nL + 1) xs') ∧ (∀ g, va'.ownBlock = some g → (g ≠ T ∧ g ≠ J ∧ ¬ X g ∧ ∀ r, vb' = .map (some r) ∨ vm' = .map (some r) → g ≠ r) ∧ (va.ownBlock = some g ∨ w.heap.size ≤ g))) ∧ Chg (fun k => k = T ∨ some k = va.ownBlock ∨ vb = .map (some k) ∨ vm = .map (some k)) w w' := by
  have HH := hide h
  have HOp := hide (open_tx w T J vb vm _ h.tx)
  have HOu := hide (outside_no w t m htn)
  have HXl := hide h.fl.x
  have HVa := hide hva
  have HSep := hide hsep
  have HlT := hide hlT
  have HL := hide hl
  have HHm := hide hm
  have hd1 : ((t : Nat) : Int).tmod 512 = 0 := by rw [Int.tmod_eq_emod_of_nonneg (by omega)]; omega
  have hd2 : ((t : Nat) : Int) % 512 = 0 := by omega
  have hTl := h.tx.lt
  have hS0 : w.drew.cell? ⟨T, 3, none⟩ = some va := h.tx.cell.2.2.2.1
  have hd0 : Below w.heap.size w w.drew := (Below.refl _ _).drew
  obtain ⟨i1, hi, hz0, hz1, hz2⟩ := info_parts info_rec
  clear h hva hsep hlT hl hm
  go_enter Try.func14, Try.ntmps14
  go_wp2_with fail
  refine HOp.out.mono ?_
  rintro e9 w9 ⟨rfl, h9⟩
  subst h9
  go_wp2_with fail
  refine HOu.out.mono ?_
  rintro e9 w9 ⟨rfl, h9⟩
  subst h9
  go_wp2_with fail
  refine wp_region_held_drew (S := (fun _ : World => True)) (by kernel_rfl) trivial (fun _ => ?_)
  refine any_take 0 (some 25) (.pointer (some ⟨T, 0, none⟩)) rfl rfl (by kernel_rfl) (by kernel_rfl) (by kernel_rfl) (fun _ _ _ h => h) (by rfl) trivial ?_ ?_
  · intro u hSu
    go_simp
  simp only [Act.put, List.setIfInBounds_toArray, List.set_cons_zero, List.set_cons_succ]
  refine any_take 1 (some 26) (.pointer (some ⟨T, 0, none⟩)) rfl rfl (by kernel_rfl) (by kernel_rfl) (by kernel_rfl) (fun _ _ _ h => h) (by rfl) trivial ?_ ?_
  · intro u hSu
    go_simp
  simp only [Act.put, List.setIfInBounds_toArray, List.set_cons_zero, List.set_cons_succ]
  refine any_take 2 (some 27) (.pointer (some ⟨T, 0, none⟩)) rfl rfl (by kernel_rfl) (by kernel_rfl) (by kernel_rfl) (fun _ _ _ h => h) (by rfl) trivial ?_ ?_
  · intro u hSu
    go_simp
  simp only [Act.put, List.setIfInBounds_toArray, List.set_cons_zero, List.set_cons_succ]
  refine any_take 3 (some 28) (.pointer (some ⟨T, 3, none⟩)) rfl rfl (by kernel_rfl) (by kernel_rfl) (by kernel_rfl) (fun _ _ _ h => h) (by rfl) trivial ?_ ?_
  · intro u hSu
    go_simp
  simp only [Act.put, List.setIfInBounds_toArray, List.set_cons_zero, List.set_cons_succ]
  refine any_take 5 (some 30) (.int .i64 (t : Int)) rfl rfl (by kernel_rfl) (by kernel_rfl) (by kernel_rfl) (fun _ _ _ h => h) (by rfl) trivial ?_ ?_
  · intro u hSu
    go_simp
  simp only [Act.put, List.setIfInBounds_toArray, List.set_cons_zero, List.set_cons_succ]
  refine any_take 6 (some 31) (.slice a m cap) rfl rfl (by kernel_rfl) (by kernel_rfl) (by kernel_rfl) (fun _ _ _ h => h) (by rfl) trivial ?_ ?_
  · intro u hSu
    go_simp
  simp only [Act.put, List.setIfInBounds_toArray, List.set_cons_zero, List.set_cons_succ]
  refine wpAnyH_ready (rs := [4, 7]) (by kernel_rfl) (by simp) ?_
  refine AllReadyH.cons (i := 4) rfl (fun K hK => ?_) (AllReadyH.cons (i := 7) rfl (fun K hK => ?_) AllReadyH.nil)
  · have cL := hS0
    go_simp
    refine hK.out _ _ trivial (fun _ => ?_)
    clear hK K
    try simp only [Act.put, List.setIfInBounds_toArray, List.set_cons_zero, List.set_cons_succ]
    clear cL
    refine wpAnyH_ready (rs := [7]) (by kernel_rfl) (by simp) ?_
    refine AllReadyH.cons (i := 7) rfl (fun K hK => ?_) AllReadyH.nil
    go_simp
    have HCl := hide (clone_any w9.drew a cap pl (HL.out.below hd0) (by have := HHm.out; omega))
    rw [← HHm.out] at HCl
    refine HCl.out.mono ?_
    rintro e9 wA ⟨vC, rfl, hoC, hbA⟩
    have hbwA : Below w9.heap.size w9 wA := hd0.trans (hbA.mono hd0.size)
    obtain ⟨aC, cC, rfl, hsC, hfC⟩ := hoC.sl
    rw [← HHm.out]
    go_simp
    refine hK.out _ _ trivial (fun _ => ?_)
    clear hK K
    try simp only [Act.put, List.setIfInBounds_toArray, List.set_cons_zero, List.set_cons_succ]
    refine any_take 8 (some 33) (.agg #[.int .i64 (t : Int), .slice aC m cC]) rfl rfl (by kernel_rfl) (by kernel_rfl) (by kernel_rfl) (fun _ _ _ h => h) (by rfl) trivial ?_ ?_
    · intro u hSu
      go_simp
    simp only [Act.put, List.setIfInBounds_toArray, List.set_cons_zero, List.set_cons_succ]
    refine wpAnyH_ready (rs := [9]) (by kernel_rfl) (by simp) ?_
    refine AllReadyH.cons (i := 9) rfl (fun K hK => ?_) AllReadyH.nil
    go_simp
    have hbB : Below wA.heap.size wA (wA.alloc (.cells #[.int .i64 (t : Int), .slice aC m cC] 79)) := (Below.refl _ _).alloc (Nat.le_refl _) _
    have hbwB : Below w9.heap.size w9 (wA.alloc (.cells #[.int .i64 (t : Int), .slice aC m cC] 79)) := hbwA.trans (hbB.mono hbwA.size)
    have hnB := new2J wA 79 (.int .i64 (t : Int)) (.slice aC m cC)
    refine hK.out _ _ trivial (fun _ => ?_)
    clear hK K
    try simp only [Act.put, List.setIfInBounds_toArray, List.set_cons_zero, List.set_cons_succ]
    generalize hWB : wA.alloc (.cells #[.int .i64 (t : Int), .slice aC m cC] 79) = wB at *
    obtain ⟨v5, w5, hr5, ho5, hg5, _, hw5⟩ := run_append_own_at (P := Try.prog) wB Ba 71 71 79 i1 (.agg #[.int .i64 0, .slice none 0 0]) 2 32 Try.underlying71 hi hz0 hz1 hz2 rfl (by decide) va nL xs (World.ownsRow.kept (row := none) HVa.out ⟨hbwB.os, hbwB.tape, hbwB.output, hbwB.size, fun k hk _ => hbwB.block k hk⟩ (by cases va.ownBlock <;> simp)) ⟨wA.heap.size, 0, none⟩ 1 1 [.int .i64 (t : Int), .slice aC m cC] rfl hnB (by simp [Value.oneCell']) (by unfold maxLen; omega) (by omega) (Nat.le_trans hBa hbwB.size)
    obtain ⟨g5', cp5, hv5⟩ : ∃ g cp, v5 = .slice (some ⟨g, 0, none⟩) (nL + 1) cp := by
      rcases ho5.2 with ⟨_, h0⟩ | ⟨g, cp, cur, h0, _⟩
      · omega
      · exact ⟨g, cp, h0⟩
    subst hv5
    have hnT : some T ≠ va.ownBlock := fun e => (HSep.out T e.symm).1 rfl
    refine ready_val 10 (some 35) (.slice (some ⟨g5', 0, none⟩) (nL + 1) cp5) w5 (by kernel_rfl) rfl rfl rfl (exec_append rfl rfl rfl hr5) trivial ?_
    try simp only [Act.put, List.setIfInBounds_toArray, List.set_cons_zero, List.set_cons_succ]
    refine any_take 11 (some 36) (.pointer (some ⟨T, 0, none⟩)) rfl rfl (by kernel_rfl) (by kernel_rfl) (by kernel_rfl) (fun _ _ _ h => h) (by rfl) trivial ?_ ?_
    · intro u hSu
      go_simp
    simp only [Act.put, List.setIfInBounds_toArray, List.set_cons_zero, List.set_cons_succ]
    refine any_take 12 (some 37) (.pointer (some ⟨T, 3, none⟩)) rfl rfl (by kernel_rfl) (by kernel_rfl) (by kernel_rfl) (fun _ _ _ h => h) (by rfl) trivial ?_ ?_
    · intro u hSu
      go_simp
    simp only [Act.put, List.setIfInBounds_toArray, List.set_cons_zero, List.set_cons_succ]
    refine wpAnyH_ready (rs := [13]) (by kernel_rfl) (by simp) ?_
    refine AllReadyH.cons (i := 13) rfl (fun K hK => ?_) AllReadyH.nil
    have hgB : ∀ g, (Value.slice (some ⟨g5', 0, none⟩) (nL + 1) cp5).ownBlock = some g → (va.ownBlock = some g ∨ (w9.heap.size ≤ g ∧ g < w5.heap.size)) := fun g hg => by
      rcases hw5 with e | e
      · exact Or.inl (e ▸ hg)
      · rw [e] at hg
        have e3 : wB.heap.size = g := by simpa using hg
        have e4 := (World.ownsRow.lt ho5 g (by rw [e]; exact hg)).2
        exact Or.inr ⟨by have := hbwB.size; omega, e4⟩
    have hc5 : Chg (fun k => k = T ∨ some k = va.ownBlock) w9 w5 := (Chg.of_below hbwB).trans ((Chg.of_grown hg5).mono (fun i _ e => Or.inr e))
    have ht5 : Txs w5 T J vb vm va false := (hg5.block T (Nat.lt_of_lt_of_le hTl hbwB.size) hnT).trans ((hbwB.block T hTl).trans HH.out.tx)
    have g5 := (show Blk w5 T #[.pointer (some ⟨J, 0, none⟩), vb, vm, va, .bool false] 73 from ht5).frozen 3
    have s5 : w5.cell? ⟨T, 3, none⟩ = some va := ht5.cell.2.2.2.1
    have ht6 : Txs (w5.setCell ⟨T, 3, none⟩ (.slice (some ⟨g5', 0, none⟩) (nL + 1) cp5)) T J vb vm (.slice (some ⟨g5', 0, none⟩) (nL + 1) cp5) false := heap_setCell_same _ T 3 _ _ (.slice (some ⟨g5', 0, none⟩) (nL + 1) cp5) ht5
    have hc6 : Chg (fun k => k = T ∨ some k = va.ownBlock) w9 (w5.setCell ⟨T, 3, none⟩ (.slice (some ⟨g5', 0, none⟩) (nL + 1) cp5)) := hc5.setCell T 3 _ (fun _ => Or.inl rfl)
    go_simp
    refine hK.out _ _ trivial (fun _ => ?_)
    clear hK K
    try simp only [Act.put, List.setIfInBounds_toArray, List.set_cons_zero, List.set_cons_succ]
    refine wpAnyH_done (by kernel_rfl) ?_ _
    have hcT : Chg (fun k => k = T) w5 (w5.setCell ⟨T, 3, none⟩ (.slice (some ⟨g5', 0, none⟩) (nL + 1) cp5)) := (Chg.refl (fun k => k = T) w5).setCell T 3 _ (fun _ => rfl)
    generalize w5.setCell ⟨T, 3, none⟩ (.slice (some ⟨g5', 0, none⟩) (nL + 1) cp5) = w6 at *
    have hm6 : ∀ r, vb = .map (some r) ∨ vm = .map (some r) → ¬ (r = T ∨ some r = va.ownBlock) := fun r hr e => by
      rcases e with e | e
      · have h1 : w9.heap[T]? = _ := HH.out.tx
        rcases hr with h | h
        · obtain ⟨_, es, cc, he⟩ := HH.out.ov.b.lt r h
          rw [e] at he; rw [he] at h1; cases h1
        · obtain ⟨_, es, cc, he⟩ := HH.out.ov.m.lt r h
          rw [e] at he; rw [he] at h1; cases h1
      · exact (HSep.out r e.symm).2.2.2 r hr rfl
    have hJ6 : ¬ (J = T ∨ some J = va.ownBlock) := fun e => by
      rcases e with e | e
      · exact HH.out.jt e
      · exact (HSep.out J e.symm).2.1 rfl
    have hq6 : Txq w6 T J F X f A k n vb vm (.slice (some ⟨g5', 0, none⟩) (nL + 1) cp5) B M p q nu :=
      ⟨ht6, HH.out.ov.chg hc6 hm6, HH.out.mm, (hc6.block J HH.out.jr.lt hJ6).trans HH.out.jr, HH.out.fl.chg hc6 (fun i _ hX e => by
        rcases e with e | e
        · exact HH.out.xT (e ▸ hX)
        · exact (HSep.out i e.symm).2.2.1 hX), HH.out.xT, HH.out.xJ, HH.out.xM, HH.out.jt⟩
    have hl6 : Lies w6 a pl := HL.out.chg hc6 (fun x hx e => by
      have := HlT.out x hx
      rcases e with e | e
      · exact this.1 e
      · exact this.2.1 e)
    have HLy := hide (lay_by 1 (by omega) w6 T J vb vm _ false B M hq6.tx hq6.ov hq6.mm a cap m pl HHm.out hl6 hcap (fun _ x hx => ⟨(HlT.out x hx).1, (HlT.out x hx).2.2⟩) t htn)
    have HQ6 := hide hq6
    have HC6 := hide hc6
    have hs6 := hc6.size
    have HoR := hide ho5
    have HgB := hide hgB
    have HcT := hide (show Chg (fun k => k = T) w5 w6 from hcT)
    have hw56 := HcT.out.size
    clear hcT hgB hr5 ho5 hg5 hw5 hc5 ht5 g5 s5 ht6 hc6 hm6 hJ6 hq6 hl6 hnB hbwB hbwA hoC hbA hsC hfC HCl
    apply_assumption
    go_wp2_with fail
    refine HLy.out.mono ?_
    rintro e9 w10 ⟨rfl, ⟨r1, r2, B', M', ht, ho, hr, hrr, hv⟩, hc⟩
    have HRr := hide hrr
    have HT := hide ht
    have HO := hide ho
    have HV := hide hv
    have HC := hide hc
    clear ht ho hv hc hrr HLy
    go_wp2_with fail
    go_ret
    have hnY : ∀ k, k < w6.heap.size → X k → ¬ (k = T ∨ vb = .map (some k) ∨ vm = .map (some k)) := fun k _ hk e => by
      rcases e with rfl | e | e
      · exact HH.out.xT hk
      · exact HH.out.xM k (Or.inl e) hk
      · exact HH.out.xM k (Or.inr e) hk
    have hJn : ¬ (J = T ∨ vb = .map (some J) ∨ vm = .map (some J)) := fun e => by
      have hj : w9.heap[J]? = _ := HH.out.jr
      rcases e with e | e | e
      · exact HH.out.jt e
      · obtain ⟨_, es, c, he⟩ := HH.out.ov.b.lt J e
        rw [he] at hj; cases hj
      · obtain ⟨_, es, c, he⟩ := HH.out.ov.m.lt J e
        rw [he] at hj; cases hj
    have hr12 : ∀ r, (r = r1 ∨ r = r2) → ¬ X r := by
      intro r hrr hx
      rcases HRr.out r hrr with h | h
      · exact HH.out.xM r h hx
      · have := HXl.out r hx
        omega
    have hgN : ∀ g, (Value.slice (some ⟨g5', 0, none⟩) (nL + 1) cp5).ownBlock = some g → (g ≠ T ∧ g ≠ J ∧ ¬ X g ∧ ∀ r, vb = .map (some r) ∨ vm = .map (some r) → g ≠ r) := fun g hg => by
      rcases HgB.out g hg with h | ⟨h1, h2⟩
      · exact HSep.out g h
      · refine ⟨by omega, by have := HH.out.jr.lt; omega, fun e => by have := HXl.out g e; omega, fun r hr e => ?_⟩
        have : r < w9.heap.size := hr.elim (fun e => (HH.out.ov.b.lt r e).1) (fun e => (HH.out.ov.m.lt r e).1)
        omega
    have hgL : ∀ g, (Value.slice (some ⟨g5', 0, none⟩) (nL + 1) cp5).ownBlock = some g → g < w6.heap.size := fun g hg => by have := (World.ownsRow.lt HoR.out g hg).2; omega
    have hoN : w10.ownsRow Ba 79 2 (.slice (some ⟨g5', 0, none⟩) (nL + 1) cp5) (nL + 1) _ := ownsRow_chg (ownsRow_chg HoR.out HcT.out (fun g hg => (hgN g hg).1)) HC.out (fun g hg e => by
      rcases e with e | e | e
      · exact (hgN g hg).1 e
      · exact (hgN g hg).2.2.2 g (Or.inl e) rfl
      · exact (hgN g hg).2.2.2 g (Or.inr e) rfl)
    refine ⟨rfl, ⟨.map (some r1), .map (some r2), _, B', M', ⟨HT.out, HO.out, Or.inr ⟨r1, r2, rfl, rfl, hr⟩, (HC.out.block J HQ6.out.jr.lt hJn).trans HQ6.out.jr, HQ6.out.fl.chg HC.out hnY, HH.out.xT, HH.out.xJ, fun r e => hr12 r (by simpa [eq_comm] using e), HH.out.jt⟩, HV.out, fun r e => (HRr.out r (by simpa [eq_comm] using e)).imp id (fun h => Nat.le_trans hs6 h), ⟨_, hoN⟩, fun g hg => ⟨⟨(hgN g hg).1, (hgN g hg).2.1, (hgN g hg).2.2.1, fun r e => by
      rcases HRr.out r (by simpa [eq_comm] using e) with h | h
      · exact (hgN g hg).2.2.2 r h
      · have := hgL g hg; omega⟩, (HgB.out g hg).imp id (fun h => h.1)⟩⟩, ?_⟩
    refine (HC6.out.mono (fun i _ e => e.imp id Or.inl)).trans (HC.out.mono (fun i _ e => ?_))
    rcases e with e | e
    · exact Or.inl e
    · exact Or.inr (Or.inr e)
  · go_simp
    have HCl := hide (clone_any w9.drew a cap pl (HL.out.below hd0) (by have := HHm.out; omega))
    rw [← HHm.out] at HCl
    refine HCl.out.mono ?_
    rintro e9 wA ⟨vC, rfl, hoC, hbA⟩
    have hbwA : Below w9.heap.size w9 wA := hd0.trans (hbA.mono hd0.size)
    obtain ⟨aC, cC, rfl, hsC, hfC⟩ := hoC.sl
    rw [← HHm.out]
    go_simp
    refine hK.out _ _ trivial (fun _ => ?_)
    clear hK K
    try simp only [Act.put, List.setIfInBounds_toArray, List.set_cons_zero, List.set_cons_succ]
    refine any_take 8 (some 33) (.agg #[.int .i64 (t : Int), .slice aC m cC]) rfl rfl (by kernel_rfl) (by kernel_rfl) (by kernel_rfl) (fun _ _ _ h => h) (by rfl) trivial ?_ ?_
    · intro u hSu
      go_simp
    simp only [Act.put, List.setIfInBounds_toArray, List.set_cons_zero, List.set_cons_succ]
    refine wpAnyH_ready (rs := [4, 9]) (by kernel_rfl) (by simp) ?_
    refine AllReadyH.cons (i := 4) rfl (fun K hK => ?_) (AllReadyH.cons (i := 9) rfl (fun K hK => ?_) AllReadyH.nil)
    · have cL := (hbwA.cell (p := ⟨T, 3, none⟩) hTl).trans hS0
      go_simp
      refine hK.out _ _ trivial (fun _ => ?_)
      clear hK K
      try simp only [Act.put, List.setIfInBounds_toArray, List.set_cons_zero, List.set_cons_succ]
      clear cL
      refine wpAnyH_ready (rs := [9]) (by kernel_rfl) (by simp) ?_
      refine AllReadyH.cons (i := 9) rfl (fun K hK => ?_) AllReadyH.nil
      go_simp
      have hbB : Below wA.heap.size wA (wA.alloc (.cells #[.int .i64 (t : Int), .slice aC m cC] 79)) := (Below.refl _ _).alloc (Nat.le_refl _) _
      have hbwB : Below w9.heap.size w9 (wA.alloc (.cells #[.int .i64 (t : Int), .slice aC m cC] 79)) := hbwA.trans (hbB.mono hbwA.size)
      have hnB := new2J wA 79 (.int .i64 (t : Int)) (.slice aC m cC)
      refine hK.out _ _ trivial (fun _ => ?_)
      clear hK K
      try simp only [Act.put, List.setIfInBounds_toArray, List.set_cons_zero, List.set_cons_succ]
      generalize hWB : wA.alloc (.cells #[.int .i64 (t : Int), .slice aC m cC] 79) = wB at *
      obtain ⟨v5, w5, hr5, ho5, hg5, _, hw5⟩ := run_append_own_at (P := Try.prog) wB Ba 71 71 79 i1 (.agg #[.int .i64 0, .slice none 0 0]) 2 32 Try.underlying71 hi hz0 hz1 hz2 rfl (by decide) va nL xs (World.ownsRow.kept (row := none) HVa.out ⟨hbwB.os, hbwB.tape, hbwB.output, hbwB.size, fun k hk _ => hbwB.block k hk⟩ (by cases va.ownBlock <;> simp)) ⟨wA.heap.size, 0, none⟩ 1 1 [.int .i64 (t : Int), .slice aC m cC] rfl hnB (by simp [Value.oneCell']) (by unfold maxLen; omega) (by omega) (Nat.le_trans hBa hbwB.size)
      obtain ⟨g5', cp5, hv5⟩ : ∃ g cp, v5 = .slice (some ⟨g, 0, none⟩) (nL + 1) cp := by
        rcases ho5.2 with ⟨_, h0⟩ | ⟨g, cp, cur, h0, _⟩
        · omega
        · exact ⟨g, cp, h0⟩
      subst hv5
      have hnT : some T ≠ va.ownBlock := fun e => (HSep.out T e.symm).1 rfl
      refine ready_val 10 (some 35) (.slice (some ⟨g5', 0, none⟩) (nL + 1) cp5) w5 (by kernel_rfl) rfl rfl rfl (exec_append rfl rfl rfl hr5) trivial ?_
      try simp only [Act.put, List.setIfInBounds_toArray, List.set_cons_zero, List.set_cons_succ]
      refine any_take 11 (some 36) (.pointer (some ⟨T, 0, none⟩)) rfl rfl (by kernel_rfl) (by kernel_rfl) (by kernel_rfl) (fun _ _ _ h => h) (by rfl) trivial ?_ ?_
      · intro u hSu
        go_simp
      simp only [Act.put, List.setIfInBounds_toArray, List.set_cons_zero, List.set_cons_succ]
      refine any_take 12 (some 37) (.pointer (some ⟨T, 3, none⟩)) rfl rfl (by kernel_rfl) (by kernel_rfl) (by kernel_rfl) (fun _ _ _ h => h) (by rfl) trivial ?_ ?_
      · intro u hSu
        go_simp
      simp only [Act.put, List.setIfInBounds_toArray, List.set_cons_zero, List.set_cons_succ]
      refine wpAnyH_ready (rs := [13]) (by kernel_rfl) (by simp) ?_
      refine AllReadyH.cons (i := 13) rfl (fun K hK => ?_) AllReadyH.nil
      have hgB : ∀ g, (Value.slice (some ⟨g5', 0, none⟩) (nL + 1) cp5).ownBlock = some g → (va.ownBlock = some g ∨ (w9.heap.size ≤ g ∧ g < w5.heap.size)) := fun g hg => by
        rcases hw5 with e | e
        · exact Or.inl (e ▸ hg)
        · rw [e] at hg
          have e3 : wB.heap.size = g := by simpa using hg
          have e4 := (World.ownsRow.lt ho5 g (by rw [e]; exact hg)).2
          exact Or.inr ⟨by have := hbwB.size; omega, e4⟩
      have hc5 : Chg (fun k => k = T ∨ some k = va.ownBlock) w9 w5 := (Chg.of_below hbwB).trans ((Chg.of_grown hg5).mono (fun i _ e => Or.inr e))
      have ht5 : Txs w5 T J vb vm va false := (hg5.block T (Nat.lt_of_lt_of_le hTl hbwB.size) hnT).trans ((hbwB.block T hTl).trans HH.out.tx)
      have g5 := (show Blk w5 T #[.pointer (some ⟨J, 0, none⟩), vb, vm, va, .bool false] 73 from ht5).frozen 3
      have s5 : w5.cell? ⟨T, 3, none⟩ = some va := ht5.cell.2.2.2.1
      have ht6 : Txs (w5.setCell ⟨T, 3, none⟩ (.slice (some ⟨g5', 0, none⟩) (nL + 1) cp5)) T J vb vm (.slice (some ⟨g5', 0, none⟩) (nL + 1) cp5) false := heap_setCell_same _ T 3 _ _ (.slice (some ⟨g5', 0, none⟩) (nL + 1) cp5) ht5
      have hc6 : Chg (fun k => k = T ∨ some k = va.ownBlock) w9 (w5.setCell ⟨T, 3, none⟩ (.slice (some ⟨g5', 0, none⟩) (nL + 1) cp5)) := hc5.setCell T 3 _ (fun _ => Or.inl rfl)
      go_simp
      refine hK.out _ _ trivial (fun _ => ?_)
      clear hK K
      try simp only [Act.put, List.setIfInBounds_toArray, List.set_cons_zero, List.set_cons_succ]
      refine wpAnyH_done (by kernel_rfl) ?_ _
      have hcT : Chg (fun k => k = T) w5 (w5.setCell ⟨T, 3, none⟩ (.slice (some ⟨g5', 0, none⟩) (nL + 1) cp5)) := (Chg.refl (fun k => k = T) w5).setCell T 3 _ (fun _ => rfl)
      generalize w5.setCell ⟨T, 3, none⟩ (.slice (some ⟨g5', 0, none⟩) (nL + 1) cp5) = w6 at *
      have hm6 : ∀ r, vb = .map (some r) ∨ vm = .map (some r) → ¬ (r = T ∨ some r = va.ownBlock) := fun r hr e => by
        rcases e with e | e
        · have h1 : w9.heap[T]? = _ := HH.out.tx
          rcases hr with h | h
          · obtain ⟨_, es, cc, he⟩ := HH.out.ov.b.lt r h
            rw [e] at he; rw [he] at h1; cases h1
          · obtain ⟨_, es, cc, he⟩ := HH.out.ov.m.lt r h
            rw [e] at he; rw [he] at h1; cases h1
        · exact (HSep.out r e.symm).2.2.2 r hr rfl
      have hJ6 : ¬ (J = T ∨ some J = va.ownBlock) := fun e => by
        rcases e with e | e
        · exact HH.out.jt e
        · exact (HSep.out J e.symm).2.1 rfl
      have hq6 : Txq w6 T J F X f A k n vb vm (.slice (some ⟨g5', 0, none⟩) (nL + 1) cp5) B M p q nu :=
        ⟨ht6, HH.out.ov.chg hc6 hm6, HH.out.mm, (hc6.block J HH.out.jr.lt hJ6).trans HH.out.jr, HH.out.fl.chg hc6 (fun i _ hX e => by
          rcases e with e | e
          · exact HH.out.xT (e ▸ hX)
          · exact (HSep.out i e.symm).2.2.1 hX), HH.out.xT, HH.out.xJ, HH.out.xM, HH.out.jt⟩
      have hl6 : Lies w6 a pl := HL.out.chg hc6 (fun x hx e => by
        have := HlT.out x hx
        rcases e with e | e
        · exact this.1 e
        · exact this.2.1 e)
      have HLy := hide (lay_by 1 (by omega) w6 T J vb vm _ false B M hq6.tx hq6.ov hq6.mm a cap m pl HHm.out hl6 hcap (fun _ x hx => ⟨(HlT.out x hx).1, (HlT.out x hx).2.2⟩) t htn)
      have HQ6 := hide hq6
      have HC6 := hide hc6
      have hs6 := hc6.size
      have HoR := hide ho5
      have HgB := hide hgB
      have HcT := hide (show Chg (fun k => k = T) w5 w6 from hcT)
      have hw56 := HcT.out.size
      clear hcT hgB hr5 ho5 hg5 hw5 hc5 ht5 g5 s5 ht6 hc6 hm6 hJ6 hq6 hl6 hnB hbwB hbwA hoC hbA hsC hfC HCl
      apply_assumption
      go_wp2_with fail
      refine HLy.out.mono ?_
      rintro e9 w10 ⟨rfl, ⟨r1, r2, B', M', ht, ho, hr, hrr, hv⟩, hc⟩
      have HRr := hide hrr
      have HT := hide ht
      have HO := hide ho
      have HV := hide hv
      have HC := hide hc
      clear ht ho hv hc hrr HLy
      go_wp2_with fail
      go_ret
      have hnY : ∀ k, k < w6.heap.size → X k → ¬ (k = T ∨ vb = .map (some k) ∨ vm = .map (some k)) := fun k _ hk e => by
        rcases e with rfl | e | e
        · exact HH.out.xT hk
        · exact HH.out.xM k (Or.inl e) hk
        · exact HH.out.xM k (Or.inr e) hk
      have hJn : ¬ (J = T ∨ vb = .map (some J) ∨ vm = .map (some J)) := fun e => by
        have hj : w9.heap[J]? = _ := HH.out.jr
        rcases e with e | e | e
        · exact HH.out.jt e
        · obtain ⟨_, es, c, he⟩ := HH.out.ov.b.lt J e
          rw [he] at hj; cases hj
        · obtain ⟨_, es, c, he⟩ := HH.out.ov.m.lt J e
          rw [he] at hj; cases hj
      have hr12 : ∀ r, (r = r1 ∨ r = r2) → ¬ X r := by
        intro r hrr hx
        rcases HRr.out r hrr with h | h
        · exact HH.out.xM r h hx
        · have := HXl.out r hx
          omega
      have hgN : ∀ g, (Value.slice (some ⟨g5', 0, none⟩) (nL + 1) cp5).ownBlock = some g → (g ≠ T ∧ g ≠ J ∧ ¬ X g ∧ ∀ r, vb = .map (some r) ∨ vm = .map (some r) → g ≠ r) := fun g hg => by
        rcases HgB.out g hg with h | ⟨h1, h2⟩
        · exact HSep.out g h
        · refine ⟨by omega, by have := HH.out.jr.lt; omega, fun e => by have := HXl.out g e; omega, fun r hr e => ?_⟩
          have : r < w9.heap.size := hr.elim (fun e => (HH.out.ov.b.lt r e).1) (fun e => (HH.out.ov.m.lt r e).1)
          omega
      have hgL : ∀ g, (Value.slice (some ⟨g5', 0, none⟩) (nL + 1) cp5).ownBlock = some g → g < w6.heap.size := fun g hg => by have := (World.ownsRow.lt HoR.out g hg).2; omega
      have hoN : w10.ownsRow Ba 79 2 (.slice (some ⟨g5', 0, none⟩) (nL + 1) cp5) (nL + 1) _ := ownsRow_chg (ownsRow_chg HoR.out HcT.out (fun g hg => (hgN g hg).1)) HC.out (fun g hg e => by
        rcases e with e | e | e
        · exact (hgN g hg).1 e
        · exact (hgN g hg).2.2.2 g (Or.inl e) rfl
        · exact (hgN g hg).2.2.2 g (Or.inr e) rfl)
      refine ⟨rfl, ⟨.map (some r1), .map (some r2), _, B', M', ⟨HT.out, HO.out, Or.inr ⟨r1, r2, rfl, rfl, hr⟩, (HC.out.block J HQ6.out.jr.lt hJn).trans HQ6.out.jr, HQ6.out.fl.chg HC.out hnY, HH.out.xT, HH.out.xJ, fun r e => hr12 r (by simpa [eq_comm] using e), HH.out.jt⟩, HV.out, fun r e => (HRr.out r (by simpa [eq_comm] using e)).imp id (fun h => Nat.le_trans hs6 h), ⟨_, hoN⟩, fun g hg => ⟨⟨(hgN g hg).1, (hgN g hg).2.1, (hgN g hg).2.2.1, fun r e => by
        rcases HRr.out r (by simpa [eq_comm] using e) with h | h
        · exact (hgN g hg).2.2.2 r h
        · have := hgL g hg; omega⟩, (HgB.out g hg).imp id (fun h => h.1)⟩⟩, ?_⟩
      refine (HC6.out.mono (fun i _ e => e.imp id Or.inl)).trans (HC.out.mono (fun i _ e => ?_))
      rcases e with e | e
      · exact Or.inl e
      · exact Or.inr (Or.inr e)
    · go_simp
      have hbB : Below wA.heap.size wA (wA.alloc (.cells #[.int .i64 (t : Int), .slice aC m cC] 79)) := (Below.refl _ _).alloc (Nat.le_refl _) _
      have hbwB : Below w9.heap.size w9 (wA.alloc (.cells #[.int .i64 (t : Int), .slice aC m cC] 79)) := hbwA.trans (hbB.mono hbwA.size)
      have hnB := new2J wA 79 (.int .i64 (t : Int)) (.slice aC m cC)
      refine hK.out _ _ trivial (fun _ => ?_)
      clear hK K
      try simp only [Act.put, List.setIfInBounds_toArray, List.set_cons_zero, List.set_cons_succ]
      generalize hWB : wA.alloc (.cells #[.int .i64 (t : Int), .slice aC m cC] 79) = wB at *
      refine wpAnyH_ready (rs := [4]) (by kernel_rfl) (by simp) ?_
      refine AllReadyH.cons (i := 4) rfl (fun K hK => ?_) AllReadyH.nil
      have cL := (hbwB.cell (p := ⟨T, 3, none⟩) hTl).trans hS0
      go_simp
      refine hK.out _ _ trivial (fun _ => ?_)
      clear hK K
      try simp only [Act.put, List.setIfInBounds_toArray, List.set_cons_zero, List.set_cons_succ]
      clear cL
      obtain ⟨v5, w5, hr5, ho5, hg5, _, hw5⟩ := run_append_own_at (P := Try.prog) wB Ba 71 71 79 i1 (.agg #[.int .i64 0, .slice none 0 0]) 2 32 Try.underlying71 hi hz0 hz1 hz2 rfl (by decide) va nL xs (World.ownsRow.kept (row := none) HVa.out ⟨hbwB.os, hbwB.tape, hbwB.output, hbwB.size, fun k hk _ => hbwB.block k hk⟩ (by cases va.ownBlock <;> simp)) ⟨wA.heap.size, 0, none⟩ 1 1 [.int .i64 (t : Int), .slice aC m cC] rfl hnB (by simp [Value.oneCell']) (by unfold maxLen; omega) (by omega) (Nat.le_trans hBa hbwB.size)
      obtain ⟨g5', cp5, hv5⟩ : ∃ g cp, v5 = .slice (some ⟨g, 0, none⟩) (nL + 1) cp := by
        rcases ho5.2 with ⟨_, h0⟩ | ⟨g, cp, cur, h0, _⟩
        · omega
        · exact ⟨g, cp, h0⟩
      subst hv5
      have hnT : some T ≠ va.ownBlock := fun e => (HSep.out T e.symm).1 rfl
      refine ready_val 10 (some 35) (.slice (some ⟨g5', 0, none⟩) (nL + 1) cp5) w5 (by kernel_rfl) rfl rfl rfl (exec_append rfl rfl rfl hr5) trivial ?_
      try simp only [Act.put, List.setIfInBounds_toArray, List.set_cons_zero, List.set_cons_succ]
      refine any_take 11 (some 36) (.pointer (some ⟨T, 0, none⟩)) rfl rfl (by kernel_rfl) (by kernel_rfl) (by kernel_rfl) (fun _ _ _ h => h) (by rfl) trivial ?_ ?_
      · intro u hSu
        go_simp
      simp only [Act.put, List.setIfInBounds_toArray, List.set_cons_zero, List.set_cons_succ]
      refine any_take 12 (some 37) (.pointer (some ⟨T, 3, none⟩)) rfl rfl (by kernel_rfl) (by kernel_rfl) (by kernel_rfl) (fun _ _ _ h => h) (by rfl) trivial ?_ ?_
      · intro u hSu
        go_simp
      simp only [Act.put, List.setIfInBounds_toArray, List.set_cons_zero, List.set_cons_succ]
      refine wpAnyH_ready (rs := [13]) (by kernel_rfl) (by simp) ?_
      refine AllReadyH.cons (i := 13) rfl (fun K hK => ?_) AllReadyH.nil
      have hgB : ∀ g, (Value.slice (some ⟨g5', 0, none⟩) (nL + 1) cp5).ownBlock = some g → (va.ownBlock = some g ∨ (w9.heap.size ≤ g ∧ g < w5.heap.size)) := fun g hg => by
        rcases hw5 with e | e
        · exact Or.inl (e ▸ hg)
        · rw [e] at hg
          have e3 : wB.heap.size = g := by simpa using hg
          have e4 := (World.ownsRow.lt ho5 g (by rw [e]; exact hg)).2
          exact Or.inr ⟨by have := hbwB.size; omega, e4⟩
      have hc5 : Chg (fun k => k = T ∨ some k = va.ownBlock) w9 w5 := (Chg.of_below hbwB).trans ((Chg.of_grown hg5).mono (fun i _ e => Or.inr e))
      have ht5 : Txs w5 T J vb vm va false := (hg5.block T (Nat.lt_of_lt_of_le hTl hbwB.size) hnT).trans ((hbwB.block T hTl).trans HH.out.tx)
      have g5 := (show Blk w5 T #[.pointer (some ⟨J, 0, none⟩), vb, vm, va, .bool false] 73 from ht5).frozen 3
      have s5 : w5.cell? ⟨T, 3, none⟩ = some va := ht5.cell.2.2.2.1
      have ht6 : Txs (w5.setCell ⟨T, 3, none⟩ (.slice (some ⟨g5', 0, none⟩) (nL + 1) cp5)) T J vb vm (.slice (some ⟨g5', 0, none⟩) (nL + 1) cp5) false := heap_setCell_same _ T 3 _ _ (.slice (some ⟨g5', 0, none⟩) (nL + 1) cp5) ht5
      have hc6 : Chg (fun k => k = T ∨ some k = va.ownBlock) w9 (w5.setCell ⟨T, 3, none⟩ (.slice (some ⟨g5', 0, none⟩) (nL + 1) cp5)) := hc5.setCell T 3 _ (fun _ => Or.inl rfl)
      go_simp
      refine hK.out _ _ trivial (fun _ => ?_)
      clear hK K
      try simp only [Act.put, List.setIfInBounds_toArray, List.set_cons_zero, List.set_cons_succ]
      refine wpAnyH_done (by kernel_rfl) ?_ _
      have hcT : Chg (fun k => k = T) w5 (w5.setCell ⟨T, 3, none⟩ (.slice (some ⟨g5', 0, none⟩) (nL + 1) cp5)) := (Chg.refl (fun k => k = T) w5).setCell T 3 _ (fun _ => rfl)
      generalize w5.setCell ⟨T, 3, none⟩ (.slice (some ⟨g5', 0, none⟩) (nL + 1) cp5) = w6 at *
      have hm6 : ∀ r, vb = .map (some r) ∨ vm = .map (some r) → ¬ (r = T ∨ some r = va.ownBlock) := fun r hr e => by
        rcases e with e | e
        · have h1 : w9.heap[T]? = _ := HH.out.tx
          rcases hr with h | h
          · obtain ⟨_, es, cc, he⟩ := HH.out.ov.b.lt r h
            rw [e] at he; rw [he] at h1; cases h1
          · obtain ⟨_, es, cc, he⟩ := HH.out.ov.m.lt r h
            rw [e] at he; rw [he] at h1; cases h1
        · exact (HSep.out r e.symm).2.2.2 r hr rfl
      have hJ6 : ¬ (J = T ∨ some J = va.ownBlock) := fun e => by
        rcases e with e | e
        · exact HH.out.jt e
        · exact (HSep.out J e.symm).2.1 rfl
      have hq6 : Txq w6 T J F X f A k n vb vm (.slice (some ⟨g5', 0, none⟩) (nL + 1) cp5) B M p q nu :=
        ⟨ht6, HH.out.ov.chg hc6 hm6, HH.out.mm, (hc6.block J HH.out.jr.lt hJ6).trans HH.out.jr, HH.out.fl.chg hc6 (fun i _ hX e => by
          rcases e with e | e
          · exact HH.out.xT (e ▸ hX)
          · exact (HSep.out i e.symm).2.2.1 hX), HH.out.xT, HH.out.xJ, HH.out.xM, HH.out.jt⟩
      have hl6 : Lies w6 a pl := HL.out.chg hc6 (fun x hx e => by
        have := HlT.out x hx
        rcases e with e | e
        · exact this.1 e
        · exact this.2.1 e)
      have HLy := hide (lay_by 1 (by omega) w6 T J vb vm _ false B M hq6.tx hq6.ov hq6.mm a cap m pl HHm.out hl6 hcap (fun _ x hx => ⟨(HlT.out x hx).1, (HlT.out x hx).2.2⟩) t htn)
      have HQ6 := hide hq6
      have HC6 := hide hc6
      have hs6 := hc6.size
      have HoR := hide ho5
      have HgB := hide hgB
      have HcT := hide (show Chg (fun k => k = T) w5 w6 from hcT)
      have hw56 := HcT.out.size
      clear hcT hgB hr5 ho5 hg5 hw5 hc5 ht5 g5 s5 ht6 hc6 hm6 hJ6 hq6 hl6 hnB hbwB hbwA hoC hbA hsC hfC HCl
      apply_assumption
      go_wp2_with fail
      refine HLy.out.mono ?_
      rintro e9 w10 ⟨rfl, ⟨r1, r2, B', M', ht, ho, hr, hrr, hv⟩, hc⟩
      have HRr := hide hrr
      have HT := hide ht
      have HO := hide ho
      have HV := hide hv
      have HC := hide hc
      clear ht ho hv hc hrr HLy
      go_wp2_with fail
      go_ret
      have hnY : ∀ k, k < w6.heap.size → X k → ¬ (k = T ∨ vb = .map (some k) ∨ vm = .map (some k)) := fun k _ hk e => by
        rcases e with rfl | e | e
        · exact HH.out.xT hk
        · exact HH.out.xM k (Or.inl e) hk
        · exact HH.out.xM k (Or.inr e) hk
      have hJn : ¬ (J = T ∨ vb = .map (some J) ∨ vm = .map (some J)) := fun e => by
        have hj : w9.heap[J]? = _ := HH.out.jr
        rcases e with e | e | e
        · exact HH.out.jt e
        · obtain ⟨_, es, c, he⟩ := HH.out.ov.b.lt J e
          rw [he] at hj; cases hj
        · obtain ⟨_, es, c, he⟩ := HH.out.ov.m.lt J e
          rw [he] at hj; cases hj
      have hr12 : ∀ r, (r = r1 ∨ r = r2) → ¬ X r := by
        intro r hrr hx
        rcases HRr.out r hrr with h | h
        · exact HH.out.xM r h hx
        · have := HXl.out r hx
          omega
      have hgN : ∀ g, (Value.slice (some ⟨g5', 0, none⟩) (nL + 1) cp5).ownBlock = some g → (g ≠ T ∧ g ≠ J ∧ ¬ X g ∧ ∀ r, vb = .map (some r) ∨ vm = .map (some r) → g ≠ r) := fun g hg => by
        rcases HgB.out g hg with h | ⟨h1, h2⟩
        · exact HSep.out g h
        · refine ⟨by omega, by have := HH.out.jr.lt; omega, fun e => by have := HXl.out g e; omega, fun r hr e => ?_⟩
          have : r < w9.heap.size := hr.elim (fun e => (HH.out.ov.b.lt r e).1) (fun e => (HH.out.ov.m.lt r e).1)
          omega
      have hgL : ∀ g, (Value.slice (some ⟨g5', 0, none⟩) (nL + 1) cp5).ownBlock = some g → g < w6.heap.size := fun g hg => by have := (World.ownsRow.lt HoR.out g hg).2; omega
      have hoN : w10.ownsRow Ba 79 2 (.slice (some ⟨g5', 0, none⟩) (nL + 1) cp5) (nL + 1) _ := ownsRow_chg (ownsRow_chg HoR.out HcT.out (fun g hg => (hgN g hg).1)) HC.out (fun g hg e => by
        rcases e with e | e | e
        · exact (hgN g hg).1 e
        · exact (hgN g hg).2.2.2 g (Or.inl e) rfl
        · exact (hgN g hg).2.2.2 g (Or.inr e) rfl)
      refine ⟨rfl, ⟨.map (some r1), .map (some r2), _, B', M', ⟨HT.out, HO.out, Or.inr ⟨r1, r2, rfl, rfl, hr⟩, (HC.out.block J HQ6.out.jr.lt hJn).trans HQ6.out.jr, HQ6.out.fl.chg HC.out hnY, HH.out.xT, HH.out.xJ, fun r e => hr12 r (by simpa [eq_comm] using e), HH.out.jt⟩, HV.out, fun r e => (HRr.out r (by simpa [eq_comm] using e)).imp id (fun h => Nat.le_trans hs6 h), ⟨_, hoN⟩, fun g hg => ⟨⟨(hgN g hg).1, (hgN g hg).2.1, (hgN g hg).2.2.1, fun r e => by
        rcases HRr.out r (by simpa [eq_comm] using e) with h | h
        · exact (hgN g hg).2.2.2 r h
        · have := hgL g hg; omega⟩, (HgB.out g hg).imp id (fun h => h.1)⟩⟩, ?_⟩
      refine (HC6.out.mono (fun i _ e => e.imp id Or.inl)).trans (HC.out.mono (fun i _ e => ?_))
      rcases e with e | e
      · exact Or.inl e
      · exact Or.inr (Or.inr e)
end Go.Proofs.Ytbpehfadmilhdaa.Oct
namespace Go.Proofs.Ytbpehfadmilhdaa.Oct
open Go.RowKit Go.Deep Go.Sort

/-- Changes as they stand in TxPlays, and the bytes that they are held against. -/
structure Ply (w3 w : World) (T J F : Nat) (X : Nat → Prop) (S : List Int) (k : Nat) (v : Value) (Mm : List Int) (B M : Int → List Int) : Prop where
  m : ∃ am cm, v = .slice am Mm.length cm ∧ Sl w am cm Mm ∧ ∀ x, am = some x → x.block < w.heap.size ∧ (x.block < w3.heap.size ∨ (x.block ≠ T ∧ x.block ≠ J ∧ ¬ X x.block))
  by_ : Byts Mm
  lo : 10752 ≤ Mm.length
  hi : Mm.length ≤ 20000
  bel : Below w3.heap.size w3 w
  xlo : ∀ i, X i → w3.heap.size ≤ i
  tlo : w3.heap.size ≤ T
  st : ∃ f kk nn nL vb vm va xs, Txq w T J F X f ⟨S, S, []⟩ kk nn vb vm va B M 512 10752 0 ∧ 1000000 ≤ kk + k ∧ nn ≤ k ∧ nL ≤ k ∧ w.ownsRow w3.heap.size 79 2 va nL xs ∧
    (∀ g, va.ownBlock = some g → g ≠ T ∧ g ≠ J ∧ ¬ X g ∧ ∀ r, vb = .map (some r) ∨ vm = .map (some r) → g ≠ r) ∧ (∀ r, vb = .map (some r) ∨ vm = .map (some r) → w3.heap.size ≤ r) ∧
    (∀ am cm, v = .slice am Mm.length cm → ∀ x, am = some x → w3.heap.size ≤ x.block → some x.block ≠ va.ownBlock ∧ ∀ r, vb = .map (some r) ∨ vm = .map (some r) → x.block ≠ r)

theorem over_see {S Mm l' pl : List Int} {B M B' M' : Int → List Int} {t : Nat} {by_ : Int} (hsee : ∀ j, Mm.getD j 0 = seeT S B M j) (hl' : ∀ i, l'.getD i 0 = Mm.getD i 0) (hlen : t + pl.length ≤ l'.length) (hla : Laid B M B' M' t pl.length pl by_) :
    ∀ j, (over l' t pl).getD j 0 = seeT S B' M' j := fun j => by
  have h1 : (over l' t pl).getD j 0 = if t ≤ j ∧ j < t + pl.length then pl.getD (j - t) 0 else l'.getD j 0 := by
    unfold over
    rw [List.getD_eq_getElem?_getD, List.getElem?_append, List.length_take, Nat.min_eq_left (by omega)]
    by_cases hj : j < t
    · rw [if_pos hj, List.getElem?_take, if_pos hj, if_neg (by omega), List.getD_eq_getElem?_getD]
    · rw [if_neg hj, List.getElem?_append]
      by_cases hj2 : j - t < pl.length
      · rw [if_pos hj2, if_pos (by omega), List.getD_eq_getElem?_getD]
      · rw [if_neg hj2, if_neg (by omega), List.getElem?_drop, List.getD_eq_getElem?_getD]
        congr 2
        omega
  rw [h1]
  unfold seeT
  rw [hla.1]
  split
  · rfl
  · rw [hl', hsee]
    rfl

theorem Sl.chgP {X : Nat → Prop} {w w' : World} {a : Option Addr} {c : Nat} {l : List Int} (h : Sl w a c l) (hg : Chg X w w') (hne : ∀ x, a = some x → ¬ X x.block) : Sl w' a c l := ⟨h.le, h.max, h.none, h.lies.chg hg hne⟩

theorem Ply.below {w3 w w' : World} {T J F : Nat} {X : Nat → Prop} {S : List Int} {k : Nat} {v : Value} {Mm : List Int} {B M : Int → List Int} (h : Ply w3 w T J F X S k v Mm B M) (hb : Below w.heap.size w w') : Ply w3 w' T J F X S k v Mm B M := by
  obtain ⟨am, cm, e1, h1, h2⟩ := h.m
  obtain ⟨f, kk, nn, nL, vb, vm, va, xs, hq, a1, a2, a3, a4, a5, a6, a7⟩ := h.st
  exact ⟨⟨am, cm, e1, h1.below hb, fun x hx => ⟨Nat.lt_of_lt_of_le (h2 x hx).1 hb.size, (h2 x hx).2⟩⟩, h.by_, h.lo, h.hi, h.bel.trans (hb.mono h.bel.size), h.xlo, h.tlo, f, kk, nn, nL, vb, vm, va, xs, hq.below hb, a1, a2, a3, World.ownsRow.kept (row := none) a4 ⟨hb.os, hb.tape, hb.output, hb.size, fun k hk _ => hb.block k hk⟩ (by cases va.ownBlock <;> simp), a5, a6, a7⟩

theorem ply_put {w3 w : World} {T J F : Nat} {X : Nat → Prop} {S : List Int} {k : Nat} {v : Value} {Mm : List Int} {B M : Int → List Int} (h : Ply w3 w T J F X S k v Mm B M) (a : Option Addr) (cap : Nat) (pl : List Int) (hl : Lies w3 a pl) (hcap : pl.length ≤ cap ∧ cap ≤ 9223372036854775807) (t : Nat) (htn : t + pl.length ≤ 4194304) :
    Calls Try.prog 13 #[.pointer (some ⟨T, 0, none⟩), .int .i64 t, .slice a pl.length cap] w fun e w' => e = .returned (.int .i64 0) ∧ ∃ B' M', Ply w3 w' T J F X S (k + 1) v Mm B' M' ∧ Laid B M B' M' t pl.length pl 2 := by
  obtain ⟨am, cm, e1, h1, h2⟩ := h.m
  obtain ⟨f, kk, nn, nL, vb, vm, va, xs, hq, a1, a2, a3, a4, a5, a6, a7⟩ := h.st
  have hs3 := h.bel.size
  refine (put_q w T J F X f _ kk nn vb vm va B M 512 10752 0 hq a cap pl.length pl rfl (hl.below h.bel) hcap (fun h0 x hx => ?_) t htn).mono ?_
  · have hxb : x.block < w3.heap.size := by
      rcases hl with h9 | ⟨b, off, e, hb, _⟩
      · rw [h9] at h0; simp at h0
      · rw [hx] at e; cases e; exact hb
    exact ⟨by have := h.tlo; omega, fun r hr => by have := a6 r hr; omega⟩
  rintro e w' ⟨rfl, ⟨vb', vm', B', M', hq', hla, hmp⟩, hc⟩
  have hX : ∀ i, i < w3.heap.size → ¬ (i = T ∨ vb = .map (some i) ∨ vm = .map (some i)) := fun i hi e => by
    rcases e with e | e | e
    · have := h.tlo; omega
    · have := a6 i (Or.inl e); omega
    · have := a6 i (Or.inr e); omega
  have hmx : ∀ x, am = some x → ¬ (x.block = T ∨ vb = .map (some x.block) ∨ vm = .map (some x.block)) := fun x hx e => by
    rcases (h2 x hx).2 with h3 | h3
    · exact hX _ h3 e
    · by_cases hlt : x.block < w3.heap.size
      · exact hX _ hlt e
      · have h7 := a7 am cm e1 x hx (by omega)
        rcases e with e | e | e
        · exact h3.1 e
        · exact h7.2 _ (Or.inl e) rfl
        · exact h7.2 _ (Or.inr e) rfl
  have hva : ∀ g, va.ownBlock = some g → ¬ (g = T ∨ vb = .map (some g) ∨ vm = .map (some g)) := fun g hg e => by
    have h5 := a5 g hg
    rcases e with e | e | e
    · exact h5.1 e
    · exact h5.2.2.2 g (Or.inl e) rfl
    · exact h5.2.2.2 g (Or.inr e) rfl
  have hmp2 : ∀ r, vb' = .map (some r) ∨ vm' = .map (some r) → (vb = .map (some r) ∨ vm = .map (some r)) ∨ w.heap.size ≤ r := hmp
  refine ⟨rfl, B', M', ⟨⟨am, cm, e1, h1.chgP hc hmx, fun x hx => ⟨Nat.lt_of_lt_of_le (h2 x hx).1 hc.size, (h2 x hx).2⟩⟩, h.by_, h.lo, h.hi, h.bel.trans (hc.below _ hs3 hX), h.xlo, h.tlo, f, kk, nn, nL, vb', vm', va, xs, hq', by omega, by omega, by omega, ownsRow_chg a4 hc hva, fun g hg => ⟨(a5 g hg).1, (a5 g hg).2.1, (a5 g hg).2.2.1, fun r hr => ?_⟩, fun r hr => ?_, fun am' cm' e2 x hx hlo => ?_⟩, hla⟩
  · rcases hmp2 r hr with h9 | h9
    · exact (a5 g hg).2.2.2 r h9
    · have := (World.ownsRow.lt a4 g hg).2; omega
  · rcases hmp2 r hr with h9 | h9
    · exact a6 r h9
    · omega
  · have h7 := a7 am' cm' e2 x hx hlo
    refine ⟨h7.1, fun r hr => ?_⟩
    rcases hmp2 r hr with h9 | h9
    · exact h7.2 r h9
    · have e3 : am' = am := by rw [e1] at e2; simp only [Value.slice.injEq] at e2; exact e2.1.symm
      have := (h2 x (e3 ▸ hx)).1
      omega

theorem ply_get {w3 w : World} {T J F : Nat} {X : Nat → Prop} {S : List Int} {k : Nat} {v : Value} {Mm : List Int} {B M : Int → List Int} (h : Ply w3 w T J F X S k v Mm B M) (hk : k ≤ 100) (t m : Nat) (htn : t + m ≤ 4194304) :
    Calls Try.prog 17 #[.pointer (some ⟨T, 0, none⟩), .int .i64 t, .int .i64 m] w fun e w' => ∃ v' l, e = .returned (.tuple #[v', .int .i64 0]) ∧ Own w' w.heap.size v' l ∧ l.length = m ∧ (∀ i, i < m → l.getD i 0 = seeT S B M (t + i)) ∧ Ply w3 w' T J F X S (k + 1) v Mm B M := by
  obtain ⟨am, cm, e1, h1, h2⟩ := h.m
  obtain ⟨f, kk, nn, nL, vb, vm, va, xs, hq, a1, a2, a3, a4, a5, a6, a7⟩ := h.st
  have hs3 := h.bel.size
  refine (get_q w T J F X f _ kk nn vb vm va B M 512 10752 0 hq (by omega) t m htn).mono ?_
  have hrd : rdc S t m ≤ 1 := by unfold rdc; split <;> omega
  rintro e w' ⟨⟨f', hq'⟩, hc, ⟨_, v', l, rfl, ho, hl, hg⟩ | ⟨hno, _⟩⟩
  · have hX : ∀ i, i < w3.heap.size → ¬ X i := fun i hi e => by have := h.xlo i e; omega
    have hmx : ∀ x, am = some x → ¬ X x.block := fun x hx e => by
      rcases (h2 x hx).2 with h3 | h3
      · exact hX _ h3 e
      · exact h3.2.2 e
    have hq2 : Txq w' T J F X f' ⟨S, S, []⟩ (kk - rdc S t m) (nn + 1) vb vm va B M 512 10752 0 := hq'
    exact ⟨v', l, rfl, ho, hl, hg, ⟨⟨am, cm, e1, h1.chgP hc hmx, fun x hx => ⟨Nat.lt_of_lt_of_le (h2 x hx).1 hc.size, (h2 x hx).2⟩⟩, h.by_, h.lo, h.hi, h.bel.trans (hc.below _ hs3 hX), h.xlo, h.tlo, f', _, _, nL, vb, vm, va, xs, hq2, by omega, by omega, by omega, ownsRow_chg a4 hc (fun g hg => (a5 g hg).2.2.1), a5, a6, a7⟩⟩
  · exact absurd (show rdc S t m ≤ kk by omega) hno

/-- Other bytes to be held against. -/
theorem Ply.new {w3 w w' : World} {T J F : Nat} {X : Nat → Prop} {S : List Int} {k : Nat} {v : Value} {Mm : List Int} {B M : Int → List Int} (h : Ply w3 w T J F X S k v Mm B M) (hb : Below w.heap.size w w') {v' : Value} {l : List Int} (ho : Own w' w.heap.size v' l) (hby : Byts l) (h1 : 10752 ≤ l.length) (h2 : l.length ≤ 20000) : Ply w3 w' T J F X S k v' l B M := by
  have hp := h.below hb
  obtain ⟨f, kk, nn, nL, vb, vm, va, xs, hq, a1, a2, a3, a4, a5, a6, a7⟩ := h.st
  obtain ⟨a', c', e1, hs', hg'⟩ := ho.sl
  obtain ⟨g, rfl, hg1, hg2⟩ := hg' (fun e => by rw [e] at h1; simp at h1)
  have hXl := hq.fl.x
  refine ⟨⟨_, _, e1, hs', fun x hx => ?_⟩, hby, h1, h2, hp.bel, h.xlo, h.tlo, f, kk, nn, nL, vb, vm, va, xs, hq.below hb, a1, a2, a3, World.ownsRow.kept (row := none) a4 ⟨hb.os, hb.tape, hb.output, hb.size, fun k hk _ => hb.block k hk⟩ (by cases va.ownBlock <;> simp), a5, a6, fun am cm e2 x hx _ => ?_⟩
  · cases hx
    refine ⟨hg2, Or.inr ⟨?_, ?_, ?_⟩⟩
    · have := hq.tx.lt; simp; omega
    · have := hq.jr.lt; simp; omega
    · intro e; have := hXl _ e; simp at this; omega
  · rw [e1] at e2
    simp only [Value.slice.injEq] at e2
    have hx2 : x = ⟨g, 0, none⟩ := by have := e2.1; rw [hx] at this; simpa using this.symm
    subst hx2
    refine ⟨fun e => ?_, fun r hr => ?_⟩
    · have := (World.ownsRow.lt a4 g e.symm).2; omega
    · have : r < w.heap.size := hr.elim (fun e => (hq.ov.b.lt r e).1) (fun e => (hq.ov.m.lt r e).1)
      simp; omega

theorem Laid.none {B M : Int → List Int} (t : Nat) (by_ : Int) : Laid B M B M t ([] : List Int).length [] by_ := Laid.start B M t [] by_

theorem ply_fresh {w3 w : World} {T J F : Nat} {X : Nat → Prop} {S : List Int} {k : Nat} {v : Value} {Mm : List Int} {B M : Int → List Int} (h : Ply w3 w T J F X S k v Mm B M) (hk : k ≤ 100) (a : Option Addr) (cap : Nat) (pl : List Int) (hl : Lies w3 a pl) (hcap : pl.length ≤ cap ∧ cap ≤ 9223372036854775807) (t : Nat) (htn : t + pl.length ≤ 4194304) (h512 : t % 512 = 0) :
    Calls Try.prog 14 #[.pointer (some ⟨T, 0, none⟩), .int .i64 t, .slice a pl.length cap] w fun e w' => e = .returned (.int .i64 0) ∧ ∃ B' M', Ply w3 w' T J F X S (k + 1) v Mm B' M' ∧ Laid B M B' M' t pl.length pl 1 := by
  obtain ⟨am, cm, e1, h1, h2⟩ := h.m
  obtain ⟨f, kk, nn, nL, vb, vm, va, xs, hq, a1, a2, a3, a4, a5, a6, a7⟩ := h.st
  have hs3 := h.bel.size
  by_cases h0 : pl = []
  · subst h0
    refine (fresh_none w T J vb vm va hq.tx t a cap (by omega) h512).mono ?_
    rintro e w' ⟨rfl, rfl⟩
    exact ⟨rfl, B, M, ⟨h.m, h.by_, h.lo, h.hi, h.bel, h.xlo, h.tlo, f, kk, nn, nL, vb, vm, va, xs, hq, by omega, by omega, by omega, a4, a5, a6, a7⟩, Laid.none t 1⟩
  have h0' := List.length_pos_iff.2 h0
  have hxb : ∀ x, a = some x → x.block < w3.heap.size := fun x hx => by
    rcases hl with h9 | ⟨b, off, e, hb, _⟩
    · exact absurd h9 h0
    · rw [hx] at e; cases e; exact hb
  refine (fresh_r w T J F X f _ kk nn vb vm va B M 512 10752 0 hq w3.heap.size nL xs a4 hs3 (by omega) a5 a cap pl.length pl rfl h0' (hl.below h.bel) hcap (fun x hx => ⟨by have := hxb x hx; have := h.tlo; omega, fun e => by have := (World.ownsRow.lt a4 x.block e.symm).1; have := hxb x hx; omega, fun r hr => by have := a6 r hr; have := hxb x hx; omega⟩) t htn h512).mono ?_
  rintro e w' ⟨rfl, ⟨vb', vm', va', B', M', hq', hla, hmp, ⟨xs', ho'⟩, hsp⟩, hc⟩
  have hX : ∀ i, i < w3.heap.size → ¬ (i = T ∨ some i = va.ownBlock ∨ vb = .map (some i) ∨ vm = .map (some i)) := fun i hi e => by
    rcases e with e | e | e | e
    · have := h.tlo; omega
    · have := (World.ownsRow.lt a4 i e.symm).1; omega
    · have := a6 i (Or.inl e); omega
    · have := a6 i (Or.inr e); omega
  have hmx : ∀ x, am = some x → ¬ (x.block = T ∨ some x.block = va.ownBlock ∨ vb = .map (some x.block) ∨ vm = .map (some x.block)) := fun x hx e => by
    by_cases hlt : x.block < w3.heap.size
    · exact hX _ hlt e
    · have h7 := a7 am cm e1 x hx (by omega)
      rcases (h2 x hx).2 with h3 | h3
      · omega
      · rcases e with e | e | e | e
        · exact h3.1 e
        · exact h7.1 e
        · exact h7.2 _ (Or.inl e) rfl
        · exact h7.2 _ (Or.inr e) rfl
  refine ⟨rfl, B', M', ⟨⟨am, cm, e1, h1.chgP hc hmx, fun x hx => ⟨Nat.lt_of_lt_of_le (h2 x hx).1 hc.size, (h2 x hx).2⟩⟩, h.by_, h.lo, h.hi, h.bel.trans (hc.below _ hs3 hX), h.xlo, h.tlo, f, kk, nn, nL + 1, vb', vm', va', xs', hq', by omega, by omega, by omega, ho', fun g hg => (hsp g hg).1, fun r hr => ?_, fun am' cm' e2 x hx hlo => ?_⟩, hla⟩
  · rcases hmp r hr with h9 | h9
    · exact a6 r h9
    · omega
  · have h7 := a7 am' cm' e2 x hx hlo
    have e3 : am' = am := by rw [e1] at e2; simp only [Value.slice.injEq] at e2; exact e2.1.symm
    have hlt := (h2 x (e3 ▸ hx)).1
    refine ⟨fun e => ?_, fun r hr => ?_⟩
    · rcases (hsp x.block e.symm).2 with h9 | h9
      · exact h7.1 h9.symm
      · omega
    · rcases hmp r hr with h9 | h9
      · exact h7.2 r h9
      · omega
end Go.Proofs.Ytbpehfadmilhdaa.Oct
namespace Go.Proofs.Ytbpehfadmilhdaa.Oct
open Go.RowKit Go.Deep Go.WideShapes Go.ChangeShapes Go.ChangeAt Go.Sort

theorem over_byts6 {l' pl : List Int} {t : Nat} (hlen : t + pl.length ≤ l'.length) (h1 : Byts l') (h2 : Byts pl) : Byts (over l' t pl) := fun j => by
  unfold over
  rw [List.getD_eq_getElem?_getD, List.getElem?_append, List.length_take, Nat.min_eq_left (by omega)]
  by_cases hj : j < t
  · rw [if_pos hj, List.getElem?_take, if_pos hj, ← List.getD_eq_getElem?_getD]
    exact h1 j
  · rw [if_neg hj, List.getElem?_append]
    by_cases hj2 : j - t < pl.length
    · rw [if_pos hj2, ← List.getD_eq_getElem?_getD]
      exact h2 _
    · rw [if_neg hj2, List.getElem?_drop, ← List.getD_eq_getElem?_getD]
      exact h1 _

theorem mod15 (x : Int) : ∃ n : Nat, n < 1500 ∧ (IntKind.u64.wrap x).tmod 1500 = (n : Int) := by
  have h0 : 0 ≤ IntKind.u64.wrap x := by rw [IntKind.wrap_u64]; omega
  have e : (IntKind.u64.wrap x).tmod 1500 = (IntKind.u64.wrap x) % 1500 := Int.tmod_eq_emod_of_nonneg h0
  rw [e]
  generalize IntKind.u64.wrap x = y at *
  exact ⟨(y % 1500).toNat, by omega, by omega⟩

set_option maxRecDepth 100000 in
set_option maxHeartbeats 8000000 in
theorem txplays_walk (x c : Int) (hc : 0 ≤ c ∧ c < 256) (a : Option Addr) (cap : Nat) (R : List GOp) (w : World) (h : Opr w a R) (hf : Fits R) (hR : R.length ≤ maxLen) :
    Calls Try.prog 3 #[.int .i64 x, .int .u8 c, .slice a R.length cap] w fun e w' => e = .returned (.bool true) ∧ Below w.heap.size w w' := by
  have HO := hide h
  have HR := hide hR
  have HFt := hide hf
  clear h hR hf
  go_enter Try.func3, Try.ntmps3
  go_wp2_with fail
  refine (changed6 _).mono ?_
  rintro e9 w1 ⟨rfl, hb1⟩
  have HB1 := hide hb1
  have HLi := hide (light6 w1 a cap R (HO.out.below hb1) HR.out)
  clear hb1
  go_wp2_with fail
  refine HLi.out.mono ?_
  rintro e9 w2 ⟨hb2, rfl | ⟨rfl, hR25, hall⟩⟩
  · have HB2 := hide (HB1.out.trans (hb2.mono HB1.out.size))
    clear hb2 HLi
    go_wp2_with fail
    refine (changed6 _).mono ?_
    rintro e9 w5 ⟨rfl, hb5⟩
    have HB5 := hide (HB2.out.trans (hb5.mono HB2.out.size))
    clear hb5
    go_wp2_with fail
    go_ret
    exact ⟨rfl, HB5.out⟩
  · have HB2 := hide (HB1.out.trans (hb2.mono HB1.out.size))
    have HAll := hide hall
    have HBs := hide (base_any w2 x c)
    clear hb2 HLi hall
    go_wp2_with fail
    refine HBs.out.mono ?_
    rintro e9 w3 ⟨v3, S, m, rfl, ho3, hS, hm, hmm, hb3⟩
    obtain ⟨hSl, hSv⟩ := hS
    obtain ⟨a3, c3, rfl, hs3, hg3⟩ := ho3.sl
    have HB3 := hide (HB2.out.trans (hb3.mono HB2.out.size))
    have HSb : Hid (Byts S) := hide (fun i => by
      by_cases hi : i < S.length
      · rw [hSv i hi]
        split <;> omega
      · rw [List.getD_eq_getElem?_getD, List.getElem?_eq_none (by omega)]
        simp)
    have HO3 := hide (HO.out.below HB3.out)
    have HS3 := hide hs3
    have hSb : 10752 ≤ S.length ∧ S.length ≤ 17752 := by omega
    have HG3 := hide hg3
    have HOp := hide (open6 w3 a3 c3 S hs3.lies (by omega) (by omega))
    clear ho3 hs3 hb3 hSl hSv hmm hm HBs hg3
    go_wp2_with fail
    refine HOp.out.mono ?_
    rintro e9 w4 ⟨F, J, f, X, rfl, hf4, hj4, hx4, hlo4, hjl4, hb4⟩
    have HB4 := hide hb4
    have HF4 := hide hf4
    have HJ4 := hide hj4
    have HX4 := hide hx4
    have HLo := hide hlo4
    have HBg := hide (begin_ok w4 J)
    have HXl := hide hf4.x
    have hjl := hj4.lt
    have hw34 := hb4.size
    clear hf4 hj4 hx4 hlo4 hb4 HOp
    go_wp2_with fail
    refine HBg.out.mono ?_
    rintro e9 w5 ⟨T, rfl, hT5, htx5, hb5⟩
    have hb35 : Below w3.heap.size w3 w5 := HB4.out.trans (hb5.mono HB4.out.size)
    have HP0 : Hid (Ply w3 w5 T J F X S 0 (.slice a3 S.length c3) S nobM nobM) := hide
      ⟨⟨a3, c3, rfl, HS3.out.below hb35, fun x hx => by
          obtain ⟨g, e, _, h2⟩ := HG3.out (fun e => by have := hSb.1; rw [e] at this; simp at this)
          rw [hx] at e
          cases e
          exact ⟨Nat.lt_of_lt_of_le h2 hb35.size, Or.inl h2⟩⟩, HSb.out, hSb.1, by omega, hb35, HLo.out, by omega,
       f, 2000000, 0, 0, .map none, .map none, .slice none 0 0, [], ⟨htx5, ⟨Or.inl ⟨rfl, fun _ => rfl⟩, Or.inl ⟨rfl, fun _ => rfl⟩, fun _ => Z5_len, fun _ => Z5_len⟩, Or.inl ⟨rfl, rfl⟩, HJ4.out.below hb5, HF4.out.below hb5, fun e => by have := HXl.out T e; omega, HX4.out, fun r hr => (by rcases hr with h | h <;> cases h), (by omega)⟩, by omega, by omega, by omega, World.ownsRow_nil _ _ _ _, fun g hg => by simp [Value.ownBlock] at hg, fun r hr => (by rcases hr with h | h <;> cases h), fun am cm e x hx hlo => ⟨by simp [Value.ownBlock], fun r hr => (by rcases hr with h | h <;> cases h)⟩⟩
    have Hw3 := hide HB3.out
    clear htx5 hb5 hb35 HBg
    go_wp2_with fail
    go_loopw [12, 13, 14] (fun e v i wr => ∃ (k : Nat) (Mm : List Int) (B M : Int → List Int) (ev : Int), k ≤ R.length ∧ i = .int .i64 (k : Int) ∧ e = .int .i64 ev ∧ Ply w3 wr T J F X S k v Mm B M ∧ ∀ j, Mm.getD j 0 = seeT S B M j) (fun _ _ i _ => R.length - (intOf i).toNat)
    case atStart => exact ⟨0, S, nobM, nobM, 0, by omega, rfl, rfl, HP0.out, fun j => by unfold seeT; rw [nob_val]⟩
    case round =>
      obtain ⟨k, Mm, B, M, ev, hk, rfl, rfl, hply, hsee⟩ := hrel
      by_cases hlt : k < R.length
      · rcases HO3.out with h0 | ⟨b, off, rfl, hblt, hcc⟩
        · rw [h0] at hlt; simp at hlt
        obtain ⟨q0, q1, q2, q3, q4⟩ := hcc k hlt
        have hl15 := HAll.out k hlt
        have hfb : Byts (R.getD k GOp.nil).b := (HFt.out k hlt).2.2.2
        generalize R.getD k GOp.nil = o at *
        obtain ⟨ok, ot, on, oa, oc, ob⟩ := o
        dsimp only at *
        have HOb := hide q4
        have HObb : Hid (Byts ob) := hide hfb
        have r0 := (hply.bel.cell (p := ⟨b, off + k * 4, none⟩) hblt).trans q0
        have r1 := (hply.bel.cell (p := ⟨b, off + k * 4 + 1, none⟩) hblt).trans q1
        have r2 := (hply.bel.cell (p := ⟨b, off + k * 4 + 2, none⟩) hblt).trans q2
        have r3 := (hply.bel.cell (p := ⟨b, off + k * 4 + 3, none⟩) hblt).trans q3
        go_wp2_with fail
        refine (place6 _ _ _ _ _).mono ?_
        rintro e9 w4' ⟨p, rfl, hp0, hp1, hp2, hb4⟩
        have hbw : b < wr.heap.size := Nat.lt_of_lt_of_le hblt hply.bel.size
        have t0 := (hb4.cell (p := ⟨b, off + k * 4, none⟩) hbw).trans r0
        have t2 := (hb4.cell (p := ⟨b, off + k * 4 + 2, none⟩) hbw).trans r2
        have t3 := (hb4.cell (p := ⟨b, off + k * 4 + 3, none⟩) hbw).trans r3
        clear r0 r1 r2 r3
        by_cases hk1 : ok = 1
        · subst hk1
          have HPu := hide (ply_put (hply.below hb4) oa oc ob HOb.out.lies ⟨HOb.out.le, by have := HOb.out.max; unfold maxLen at this; omega⟩ p (by omega))
          go_wp2_with fail
          refine HPu.out.mono ?_
          rintro e9 w5 ⟨rfl, B', M', hply5, hla5⟩
          have s3 := (hply5.bel.cell (p := ⟨b, off + k * 4 + 3, none⟩) hblt).trans q3
          have hbw5 : b < w5.heap.size := Nat.lt_of_lt_of_le hblt hply5.bel.size
          obtain ⟨am, cm, rfl, hs5, hx5⟩ := hply5.m
          have hlo5 := hply5.lo
          have hhi5 := hply5.hi
          go_wp2_with fail
          have hS0 : (fun u : World => u.cell? ⟨b, off + k * 4 + 3, none⟩ = some (.slice oa ob.length oc)) w5.drew := s3
          refine wp_region_held_drew (S := (fun u : World => u.cell? ⟨b, off + k * 4 + 3, none⟩ = some (.slice oa ob.length oc))) (by kernel_rfl) hS0 (fun _ => ?_)
          refine any_take 0 (some 121) (.slice am Mm.length cm) rfl rfl (by kernel_rfl) (by kernel_rfl) (by kernel_rfl) (fun _ _ _ h => h) (by rfl) hS0 ?_ ?_
          · intro u hSu
            have hSu' : u.cell? ⟨b, off + k * 4 + 3, none⟩ = some (.slice oa ob.length oc) := hSu
            go_simp
          simp only [Act.put, List.setIfInBounds_toArray, List.set_cons_zero, List.set_cons_succ]
          refine any_take 1 (some 122) (.int .i64 (p : Int)) rfl rfl (by kernel_rfl) (by kernel_rfl) (by kernel_rfl) (fun _ _ _ h => h) (by rfl) hS0 ?_ ?_
          · intro u hSu
            have hSu' : u.cell? ⟨b, off + k * 4 + 3, none⟩ = some (.slice oa ob.length oc) := hSu
            go_simp
          simp only [Act.put, List.setIfInBounds_toArray, List.set_cons_zero, List.set_cons_succ]
          refine any_take 2 (some 123) (.slice (some ⟨b, off, none⟩) R.length cap) rfl rfl (by kernel_rfl) (by kernel_rfl) (by kernel_rfl) (fun _ _ _ h => h) (by rfl) hS0 ?_ ?_
          · intro u hSu
            have hSu' : u.cell? ⟨b, off + k * 4 + 3, none⟩ = some (.slice oa ob.length oc) := hSu
            go_simp
          simp only [Act.put, List.setIfInBounds_toArray, List.set_cons_zero, List.set_cons_succ]
          refine any_take 3 (some 124) (.int .i64 (k : Int)) rfl rfl (by kernel_rfl) (by kernel_rfl) (by kernel_rfl) (fun _ _ _ h => h) (by rfl) hS0 ?_ ?_
          · intro u hSu
            have hSu' : u.cell? ⟨b, off + k * 4 + 3, none⟩ = some (.slice oa ob.length oc) := hSu
            go_simp
          simp only [Act.put, List.setIfInBounds_toArray, List.set_cons_zero, List.set_cons_succ]
          refine any_take 4 (some 125) (.pointer (some ⟨b, off + k * 4, none⟩)) rfl rfl (by kernel_rfl) (by kernel_rfl) (by kernel_rfl) (fun _ _ _ h => h) (by rfl) hS0 ?_ ?_
          · intro u hSu
            have hSu' : u.cell? ⟨b, off + k * 4 + 3, none⟩ = some (.slice oa ob.length oc) := hSu
            go_simp
          simp only [Act.put, List.setIfInBounds_toArray, List.set_cons_zero, List.set_cons_succ]
          refine any_take 5 (some 126) (.pointer (some ⟨b, off + k * 4 + 3, none⟩)) rfl rfl (by kernel_rfl) (by kernel_rfl) (by kernel_rfl) (fun _ _ _ h => h) (by rfl) hS0 ?_ ?_
          · intro u hSu
            have hSu' : u.cell? ⟨b, off + k * 4 + 3, none⟩ = some (.slice oa ob.length oc) := hSu
            go_simp
          simp only [Act.put, List.setIfInBounds_toArray, List.set_cons_zero, List.set_cons_succ]
          refine any_take 6 (some 127) (.slice oa ob.length oc) rfl rfl (by kernel_rfl) (by kernel_rfl) (by kernel_rfl) (fun _ _ _ h => h) (by rfl) hS0 ?_ ?_
          · intro u hSu
            have hSu' : u.cell? ⟨b, off + k * 4 + 3, none⟩ = some (.slice oa ob.length oc) := hSu
            go_simp
          simp only [Act.put, List.setIfInBounds_toArray, List.set_cons_zero, List.set_cons_succ]
          refine any_take 7 (some 128) (.int .i64 (ob.length : Int)) rfl rfl (by kernel_rfl) (by kernel_rfl) (by kernel_rfl) (fun _ _ _ h => h) (by rfl) hS0 ?_ ?_
          · intro u hSu
            have hSu' : u.cell? ⟨b, off + k * 4 + 3, none⟩ = some (.slice oa ob.length oc) := hSu
            go_simp
          simp only [Act.put, List.setIfInBounds_toArray, List.set_cons_zero, List.set_cons_succ]
          refine any_take 8 (some 129) (.int .i64 ((p : Int) + (ob.length : Int))) rfl rfl (by kernel_rfl) (by kernel_rfl) (by kernel_rfl) (fun _ _ _ h => h) (by rfl) hS0 ?_ ?_
          · intro u hSu
            have hSu' : u.cell? ⟨b, off + k * 4 + 3, none⟩ = some (.slice oa ob.length oc) := hSu
            have hwp : IntKind.i64.wrap ((p : Int) + (ob.length : Int)) = (p : Int) + (ob.length : Int) := by rw [IntKind.wrap_i64]; omega
            go_simp
          simp only [Act.put, List.setIfInBounds_toArray, List.set_cons_zero, List.set_cons_succ]
          refine any_take 10 (some 131) (.int .i64 (p : Int)) rfl rfl (by kernel_rfl) (by kernel_rfl) (by kernel_rfl) (fun _ _ _ h => h) (by rfl) hS0 ?_ ?_
          · intro u hSu
            have hSu' : u.cell? ⟨b, off + k * 4 + 3, none⟩ = some (.slice oa ob.length oc) := hSu
            go_simp
          simp only [Act.put, List.setIfInBounds_toArray, List.set_cons_zero, List.set_cons_succ]
          refine any_take 11 (some 132) (.slice (some ⟨b, off, none⟩) R.length cap) rfl rfl (by kernel_rfl) (by kernel_rfl) (by kernel_rfl) (fun _ _ _ h => h) (by rfl) hS0 ?_ ?_
          · intro u hSu
            have hSu' : u.cell? ⟨b, off + k * 4 + 3, none⟩ = some (.slice oa ob.length oc) := hSu
            go_simp
          simp only [Act.put, List.setIfInBounds_toArray, List.set_cons_zero, List.set_cons_succ]
          refine any_take 12 (some 133) (.int .i64 (k : Int)) rfl rfl (by kernel_rfl) (by kernel_rfl) (by kernel_rfl) (fun _ _ _ h => h) (by rfl) hS0 ?_ ?_
          · intro u hSu
            have hSu' : u.cell? ⟨b, off + k * 4 + 3, none⟩ = some (.slice oa ob.length oc) := hSu
            go_simp
          simp only [Act.put, List.setIfInBounds_toArray, List.set_cons_zero, List.set_cons_succ]
          refine any_take 13 (some 134) (.pointer (some ⟨b, off + k * 4, none⟩)) rfl rfl (by kernel_rfl) (by kernel_rfl) (by kernel_rfl) (fun _ _ _ h => h) (by rfl) hS0 ?_ ?_
          · intro u hSu
            have hSu' : u.cell? ⟨b, off + k * 4 + 3, none⟩ = some (.slice oa ob.length oc) := hSu
            go_simp
          simp only [Act.put, List.setIfInBounds_toArray, List.set_cons_zero, List.set_cons_succ]
          refine any_take 14 (some 135) (.pointer (some ⟨b, off + k * 4 + 3, none⟩)) rfl rfl (by kernel_rfl) (by kernel_rfl) (by kernel_rfl) (fun _ _ _ h => h) (by rfl) hS0 ?_ ?_
          · intro u hSu
            have hSu' : u.cell? ⟨b, off + k * 4 + 3, none⟩ = some (.slice oa ob.length oc) := hSu
            go_simp
          simp only [Act.put, List.setIfInBounds_toArray, List.set_cons_zero, List.set_cons_succ]
          refine any_take 15 (some 136) (.slice oa ob.length oc) rfl rfl (by kernel_rfl) (by kernel_rfl) (by kernel_rfl) (fun _ _ _ h => h) (by rfl) hS0 ?_ ?_
          · intro u hSu
            have hSu' : u.cell? ⟨b, off + k * 4 + 3, none⟩ = some (.slice oa ob.length oc) := hSu
            go_simp
          simp only [Act.put, List.setIfInBounds_toArray, List.set_cons_zero, List.set_cons_succ]
          refine wpAnyH_ready (rs := [9]) (by kernel_rfl) (by simp) ?_
          refine AllReadyH.cons (i := 9) rfl (fun K hK => ?_) AllReadyH.nil
          go_simp
          have HLo := hide (longer6 am cm Mm (p + ob.length) w5.drew (by omega) (by omega) (hs5.below (Below.refl _ _).drew) (by omega))
          rw [show ((p + ob.length : Nat) : Int) = (p : Int) + (ob.length : Int) by omega] at HLo
          refine HLo.out.mono ?_
          rintro e9 w6 ⟨a6, c6, l6, rfl, hs6, hl6, hg6, hb6⟩
          obtain ⟨hl6a, hl6b, hl6c⟩ : l6.length ≤ 20000 ∧ p + ob.length ≤ l6.length ∧ 10752 ≤ l6.length := by omega
          clear hl6
          go_simp
          refine hK.out _ _ (show (fun u : World => u.cell? ⟨b, off + k * 4 + 3, none⟩ = some (.slice oa ob.length oc)) w6 from (hb6.cell (p := ⟨b, off + k * 4 + 3, none⟩) (by show b < w5.heap.size; omega)).trans s3) (fun _ => ?_)
          clear hK K
          try simp only [Act.put, List.setIfInBounds_toArray, List.set_cons_zero, List.set_cons_succ]
          refine wpAnyH_ready (rs := [16]) (by kernel_rfl) (by simp) ?_
          refine AllReadyH.cons (i := 16) rfl (fun K hK => ?_) AllReadyH.nil
          go_simp
          have HWi := hide (With_any a6 c6 l6 oa oc ob p w6 (by omega) (by omega) (by omega) hs6 (HOb.out.below (hply5.bel.trans ((Below.trans (Below.refl _ _).drew (hb6.mono (Nat.le_refl _))).mono hply5.bel.size))))
          refine HWi.out.mono ?_
          rintro e9 w7 ⟨v7, rfl, ho7, hb7⟩
          go_simp
          refine hK.out _ _ (show (fun u : World => u.cell? ⟨b, off + k * 4 + 3, none⟩ = some (.slice oa ob.length oc)) w7 from (hb7.cell (p := ⟨b, off + k * 4 + 3, none⟩) (by show b < w6.heap.size; exact Nat.lt_of_lt_of_le hbw5 hb6.size)).trans ((hb6.cell (p := ⟨b, off + k * 4 + 3, none⟩) hbw5).trans s3)) (fun _ => ?_)
          clear hK K
          try simp only [Act.put, List.setIfInBounds_toArray, List.set_cons_zero, List.set_cons_succ]
          refine any_take 17 (some 13) v7 rfl rfl (by kernel_rfl) (by kernel_rfl) (by kernel_rfl) (fun _ _ _ h => h) (by rfl) (show (fun u : World => u.cell? ⟨b, off + k * 4 + 3, none⟩ = some (.slice oa ob.length oc)) w7 from (hb7.cell (p := ⟨b, off + k * 4 + 3, none⟩) (by show b < w6.heap.size; exact Nat.lt_of_lt_of_le hbw5 hb6.size)).trans ((hb6.cell (p := ⟨b, off + k * 4 + 3, none⟩) hbw5).trans s3)) ?_ ?_
          · intro u hSu
            go_simp
          simp only [Act.put, List.setIfInBounds_toArray, List.set_cons_zero, List.set_cons_succ]
          refine wpAnyH_done (by kernel_rfl) ?_ _
          have hb56 : Below w5.heap.size w5 w6 := Below.trans (Below.refl _ _).drew hb6
          have HPn : Hid (Ply w3 w7 T J F X S (k + 1) v7 (over l6 p ob) B' M') := hide ((hply5.below hb56).new hb7 ho7 (over_byts6 hl6b (fun i => by rw [hg6]; exact hply5.by_ i) HObb.out) (by rw [over_length hl6b]; omega) (by rw [over_length hl6b]; omega))
          have HSe : Hid (∀ j, (over l6 p ob).getD j 0 = seeT S B' M' j) := hide (over_see hsee hg6 hl6b hla5)
          clear hply5 hla5 s3 hs5 hx5 hb56 hb6 hb7 ho7 hs6 hg6 HWi HLo HPu hS0 hply hsee hb4 t0 t2 t3
          apply_assumption
          go_wp2_with fail
          exact ⟨⟨k + 1, _, B', M', 0, by omega, by go_num, rfl, HPn.out, HSe.out⟩, by simp [intOf]; omega⟩
        · by_cases hk2 : ok = 2
          · subst hk2
            have HPu := hide (ply_fresh (hply.below hb4) (by omega) oa oc ob HOb.out.lies ⟨HOb.out.le, by have := HOb.out.max; unfold maxLen at this; omega⟩ p (by omega) (hp2 rfl))
            go_wp2_with fail
            refine HPu.out.mono ?_
            rintro e9 w5 ⟨rfl, B', M', hply5, hla5⟩
            have s3 := (hply5.bel.cell (p := ⟨b, off + k * 4 + 3, none⟩) hblt).trans q3
            have hbw5 : b < w5.heap.size := Nat.lt_of_lt_of_le hblt hply5.bel.size
            obtain ⟨am, cm, rfl, hs5, hx5⟩ := hply5.m
            have hlo5 := hply5.lo
            have hhi5 := hply5.hi
            go_wp2_with fail
            have hS0 : (fun u : World => u.cell? ⟨b, off + k * 4 + 3, none⟩ = some (.slice oa ob.length oc)) w5.drew := s3
            refine wp_region_held_drew (S := (fun u : World => u.cell? ⟨b, off + k * 4 + 3, none⟩ = some (.slice oa ob.length oc))) (by kernel_rfl) hS0 (fun _ => ?_)
            refine any_take 0 (some 121) (.slice am Mm.length cm) rfl rfl (by kernel_rfl) (by kernel_rfl) (by kernel_rfl) (fun _ _ _ h => h) (by rfl) hS0 ?_ ?_
            · intro u hSu
              have hSu' : u.cell? ⟨b, off + k * 4 + 3, none⟩ = some (.slice oa ob.length oc) := hSu
              go_simp
            simp only [Act.put, List.setIfInBounds_toArray, List.set_cons_zero, List.set_cons_succ]
            refine any_take 1 (some 122) (.int .i64 (p : Int)) rfl rfl (by kernel_rfl) (by kernel_rfl) (by kernel_rfl) (fun _ _ _ h => h) (by rfl) hS0 ?_ ?_
            · intro u hSu
              have hSu' : u.cell? ⟨b, off + k * 4 + 3, none⟩ = some (.slice oa ob.length oc) := hSu
              go_simp
            simp only [Act.put, List.setIfInBounds_toArray, List.set_cons_zero, List.set_cons_succ]
            refine any_take 2 (some 123) (.slice (some ⟨b, off, none⟩) R.length cap) rfl rfl (by kernel_rfl) (by kernel_rfl) (by kernel_rfl) (fun _ _ _ h => h) (by rfl) hS0 ?_ ?_
            · intro u hSu
              have hSu' : u.cell? ⟨b, off + k * 4 + 3, none⟩ = some (.slice oa ob.length oc) := hSu
              go_simp
            simp only [Act.put, List.setIfInBounds_toArray, List.set_cons_zero, List.set_cons_succ]
            refine any_take 3 (some 124) (.int .i64 (k : Int)) rfl rfl (by kernel_rfl) (by kernel_rfl) (by kernel_rfl) (fun _ _ _ h => h) (by rfl) hS0 ?_ ?_
            · intro u hSu
              have hSu' : u.cell? ⟨b, off + k * 4 + 3, none⟩ = some (.slice oa ob.length oc) := hSu
              go_simp
            simp only [Act.put, List.setIfInBounds_toArray, List.set_cons_zero, List.set_cons_succ]
            refine any_take 4 (some 125) (.pointer (some ⟨b, off + k * 4, none⟩)) rfl rfl (by kernel_rfl) (by kernel_rfl) (by kernel_rfl) (fun _ _ _ h => h) (by rfl) hS0 ?_ ?_
            · intro u hSu
              have hSu' : u.cell? ⟨b, off + k * 4 + 3, none⟩ = some (.slice oa ob.length oc) := hSu
              go_simp
            simp only [Act.put, List.setIfInBounds_toArray, List.set_cons_zero, List.set_cons_succ]
            refine any_take 5 (some 126) (.pointer (some ⟨b, off + k * 4 + 3, none⟩)) rfl rfl (by kernel_rfl) (by kernel_rfl) (by kernel_rfl) (fun _ _ _ h => h) (by rfl) hS0 ?_ ?_
            · intro u hSu
              have hSu' : u.cell? ⟨b, off + k * 4 + 3, none⟩ = some (.slice oa ob.length oc) := hSu
              go_simp
            simp only [Act.put, List.setIfInBounds_toArray, List.set_cons_zero, List.set_cons_succ]
            refine any_take 6 (some 127) (.slice oa ob.length oc) rfl rfl (by kernel_rfl) (by kernel_rfl) (by kernel_rfl) (fun _ _ _ h => h) (by rfl) hS0 ?_ ?_
            · intro u hSu
              have hSu' : u.cell? ⟨b, off + k * 4 + 3, none⟩ = some (.slice oa ob.length oc) := hSu
              go_simp
            simp only [Act.put, List.setIfInBounds_toArray, List.set_cons_zero, List.set_cons_succ]
            refine any_take 7 (some 128) (.int .i64 (ob.length : Int)) rfl rfl (by kernel_rfl) (by kernel_rfl) (by kernel_rfl) (fun _ _ _ h => h) (by rfl) hS0 ?_ ?_
            · intro u hSu
              have hSu' : u.cell? ⟨b, off + k * 4 + 3, none⟩ = some (.slice oa ob.length oc) := hSu
              go_simp
            simp only [Act.put, List.setIfInBounds_toArray, List.set_cons_zero, List.set_cons_succ]
            refine any_take 8 (some 129) (.int .i64 ((p : Int) + (ob.length : Int))) rfl rfl (by kernel_rfl) (by kernel_rfl) (by kernel_rfl) (fun _ _ _ h => h) (by rfl) hS0 ?_ ?_
            · intro u hSu
              have hSu' : u.cell? ⟨b, off + k * 4 + 3, none⟩ = some (.slice oa ob.length oc) := hSu
              have hwp : IntKind.i64.wrap ((p : Int) + (ob.length : Int)) = (p : Int) + (ob.length : Int) := by rw [IntKind.wrap_i64]; omega
              go_simp
            simp only [Act.put, List.setIfInBounds_toArray, List.set_cons_zero, List.set_cons_succ]
            refine any_take 10 (some 131) (.int .i64 (p : Int)) rfl rfl (by kernel_rfl) (by kernel_rfl) (by kernel_rfl) (fun _ _ _ h => h) (by rfl) hS0 ?_ ?_
            · intro u hSu
              have hSu' : u.cell? ⟨b, off + k * 4 + 3, none⟩ = some (.slice oa ob.length oc) := hSu
              go_simp
            simp only [Act.put, List.setIfInBounds_toArray, List.set_cons_zero, List.set_cons_succ]
            refine any_take 11 (some 132) (.slice (some ⟨b, off, none⟩) R.length cap) rfl rfl (by kernel_rfl) (by kernel_rfl) (by kernel_rfl) (fun _ _ _ h => h) (by rfl) hS0 ?_ ?_
            · intro u hSu
              have hSu' : u.cell? ⟨b, off + k * 4 + 3, none⟩ = some (.slice oa ob.length oc) := hSu
              go_simp
            simp only [Act.put, List.setIfInBounds_toArray, List.set_cons_zero, List.set_cons_succ]
            refine any_take 12 (some 133) (.int .i64 (k : Int)) rfl rfl (by kernel_rfl) (by kernel_rfl) (by kernel_rfl) (fun _ _ _ h => h) (by rfl) hS0 ?_ ?_
            · intro u hSu
              have hSu' : u.cell? ⟨b, off + k * 4 + 3, none⟩ = some (.slice oa ob.length oc) := hSu
              go_simp
            simp only [Act.put, List.setIfInBounds_toArray, List.set_cons_zero, List.set_cons_succ]
            refine any_take 13 (some 134) (.pointer (some ⟨b, off + k * 4, none⟩)) rfl rfl (by kernel_rfl) (by kernel_rfl) (by kernel_rfl) (fun _ _ _ h => h) (by rfl) hS0 ?_ ?_
            · intro u hSu
              have hSu' : u.cell? ⟨b, off + k * 4 + 3, none⟩ = some (.slice oa ob.length oc) := hSu
              go_simp
            simp only [Act.put, List.setIfInBounds_toArray, List.set_cons_zero, List.set_cons_succ]
            refine any_take 14 (some 135) (.pointer (some ⟨b, off + k * 4 + 3, none⟩)) rfl rfl (by kernel_rfl) (by kernel_rfl) (by kernel_rfl) (fun _ _ _ h => h) (by rfl) hS0 ?_ ?_
            · intro u hSu
              have hSu' : u.cell? ⟨b, off + k * 4 + 3, none⟩ = some (.slice oa ob.length oc) := hSu
              go_simp
            simp only [Act.put, List.setIfInBounds_toArray, List.set_cons_zero, List.set_cons_succ]
            refine any_take 15 (some 136) (.slice oa ob.length oc) rfl rfl (by kernel_rfl) (by kernel_rfl) (by kernel_rfl) (fun _ _ _ h => h) (by rfl) hS0 ?_ ?_
            · intro u hSu
              have hSu' : u.cell? ⟨b, off + k * 4 + 3, none⟩ = some (.slice oa ob.length oc) := hSu
              go_simp
            simp only [Act.put, List.setIfInBounds_toArray, List.set_cons_zero, List.set_cons_succ]
            refine wpAnyH_ready (rs := [9]) (by kernel_rfl) (by simp) ?_
            refine AllReadyH.cons (i := 9) rfl (fun K hK => ?_) AllReadyH.nil
            go_simp
            have HLo := hide (longer6 am cm Mm (p + ob.length) w5.drew (by omega) (by omega) (hs5.below (Below.refl _ _).drew) (by omega))
            rw [show ((p + ob.length : Nat) : Int) = (p : Int) + (ob.length : Int) by omega] at HLo
            refine HLo.out.mono ?_
            rintro e9 w6 ⟨a6, c6, l6, rfl, hs6, hl6, hg6, hb6⟩
            obtain ⟨hl6a, hl6b, hl6c⟩ : l6.length ≤ 20000 ∧ p + ob.length ≤ l6.length ∧ 10752 ≤ l6.length := by omega
            clear hl6
            go_simp
            refine hK.out _ _ (show (fun u : World => u.cell? ⟨b, off + k * 4 + 3, none⟩ = some (.slice oa ob.length oc)) w6 from (hb6.cell (p := ⟨b, off + k * 4 + 3, none⟩) (by show b < w5.heap.size; omega)).trans s3) (fun _ => ?_)
            clear hK K
            try simp only [Act.put, List.setIfInBounds_toArray, List.set_cons_zero, List.set_cons_succ]
            refine wpAnyH_ready (rs := [16]) (by kernel_rfl) (by simp) ?_
            refine AllReadyH.cons (i := 16) rfl (fun K hK => ?_) AllReadyH.nil
            go_simp
            have HWi := hide (With_any a6 c6 l6 oa oc ob p w6 (by omega) (by omega) (by omega) hs6 (HOb.out.below (hply5.bel.trans ((Below.trans (Below.refl _ _).drew (hb6.mono (Nat.le_refl _))).mono hply5.bel.size))))
            refine HWi.out.mono ?_
            rintro e9 w7 ⟨v7, rfl, ho7, hb7⟩
            go_simp
            refine hK.out _ _ (show (fun u : World => u.cell? ⟨b, off + k * 4 + 3, none⟩ = some (.slice oa ob.length oc)) w7 from (hb7.cell (p := ⟨b, off + k * 4 + 3, none⟩) (by show b < w6.heap.size; exact Nat.lt_of_lt_of_le hbw5 hb6.size)).trans ((hb6.cell (p := ⟨b, off + k * 4 + 3, none⟩) hbw5).trans s3)) (fun _ => ?_)
            clear hK K
            try simp only [Act.put, List.setIfInBounds_toArray, List.set_cons_zero, List.set_cons_succ]
            refine any_take 17 (some 13) v7 rfl rfl (by kernel_rfl) (by kernel_rfl) (by kernel_rfl) (fun _ _ _ h => h) (by rfl) (show (fun u : World => u.cell? ⟨b, off + k * 4 + 3, none⟩ = some (.slice oa ob.length oc)) w7 from (hb7.cell (p := ⟨b, off + k * 4 + 3, none⟩) (by show b < w6.heap.size; exact Nat.lt_of_lt_of_le hbw5 hb6.size)).trans ((hb6.cell (p := ⟨b, off + k * 4 + 3, none⟩) hbw5).trans s3)) ?_ ?_
            · intro u hSu
              go_simp
            simp only [Act.put, List.setIfInBounds_toArray, List.set_cons_zero, List.set_cons_succ]
            refine wpAnyH_done (by kernel_rfl) ?_ _
            have hb56 : Below w5.heap.size w5 w6 := Below.trans (Below.refl _ _).drew hb6
            have HPn : Hid (Ply w3 w7 T J F X S (k + 1) v7 (over l6 p ob) B' M') := hide ((hply5.below hb56).new hb7 ho7 (over_byts6 hl6b (fun i => by rw [hg6]; exact hply5.by_ i) HObb.out) (by rw [over_length hl6b]; omega) (by rw [over_length hl6b]; omega))
            have HSe : Hid (∀ j, (over l6 p ob).getD j 0 = seeT S B' M' j) := hide (over_see hsee hg6 hl6b hla5)
            clear hply5 hla5 s3 hs5 hx5 hb56 hb6 hb7 ho7 hs6 hg6 HWi HLo HPu hS0 hply hsee hb4 t0 t2 t3
            apply_assumption
            go_wp2_with fail
            exact ⟨⟨k + 1, _, B', M', 0, by omega, by go_num, rfl, HPn.out, HSe.out⟩, by simp [intOf]; omega⟩
          · obtain ⟨kn, hkn, hke⟩ := mod15 on
            have HGe := hide (ply_get (hply.below hb4) (by omega) p kn (by omega))
            go_wp2_with fail
            refine HGe.out.mono ?_
            rintro e9 w5 ⟨v5, l5, rfl, ho5, hl5, hg5, hply5⟩
            obtain ⟨am, cm, rfl, hs5, hx5⟩ := hply5.m
            have hlo5 := hply5.lo
            have hhi5 := hply5.hi
            have HLo := hide (longer6 am cm Mm (p + kn) w5 (by omega) (by omega) hs5 (by omega))
            rw [show ((p + kn : Nat) : Int) = (p : Int) + (kn : Int) by omega] at HLo
            obtain ⟨a5, c5, rfl, hsl5, _⟩ := ho5.form
            have HL5 := hide hsl5
            have HPl := hide hply5
            have HG5 := hide hg5
            have Hl5 := hide hl5
            have HSee := hide hsee
            rw [hl5]
            clear ho5 hsl5 hply5 hg5 hl5 hs5 hx5 HGe hply hsee hb4 t0 t2 t3
            go_wp2_with fail
            refine HLo.out.mono ?_
            rintro e9 w6 ⟨a6, c6, l6, rfl, hs6, hl6, hg6, hb6⟩
            obtain ⟨hl6a, hl6b, hl6c⟩ : l6.length ≤ 20000 ∧ p + kn ≤ l6.length ∧ 10752 ≤ l6.length := by omega
            clear hl6
            rcases hs6.lies with h0 | ⟨b6, o6, rfl, hb6l, hc6⟩
            · rw [h0] at hl6c; simp at hl6c
            have HT6 := hide (Lies.of_part (Lies.mk hc6) p kn)
            have hpl : ((l6.drop p).take kn).length = kn := by simp; omega
            have hcap6 := hs6.le
            have hcmax := hs6.max
            unfold maxLen at hcmax
            have HEq : Hid (l5 = (l6.drop p).take kn) := hide (by
              refine ext_getD (by rw [hpl]; exact Hl5.out) (fun i hi => ?_)
              have hi2 : i < kn := by have := Hl5.out; omega
              rw [HG5.out i hi2, ← HSee.out, part_get, if_pos hi2, hg6])
            have HBy5 : Hid (Byts l5) := hide (by
              rw [HEq.out]
              intro i
              rw [part_get]
              split
              · rw [hg6]; exact HPl.out.by_ _
              · omega)
            have HPl6 := hide (HPl.out.below hb6)
            have HL6 := hide (HL5.out.below hb6)
            by_cases hcp : c6 = p
            · subst hcp
              obtain rfl : kn = 0 := by omega
              have hl0 : l5 = [] := List.length_eq_zero_iff.1 Hl5.out
              subst hl0
              have HSa := hide (Same_any a5 (some ⟨b6, o6, none⟩) c5 0 [] [] w6 (Lies.nil _ _) (Lies.nil _ _) HBy5.out HBy5.out)
              rw [decide_eq_true rfl] at HSa
              have HSee2 := hide HSee.out
              clear hs6 hc6 hg6 hb6 HL5 HPl HG5 HEq HBy5 HL6 HT6 hpl HLo
              go_wp2_with fail
              refine HSa.out.mono ?_
              rintro e9 w7 ⟨rfl, h7⟩
              rw [h7]
              clear h7
              go_wp2_with fail
              exact ⟨⟨k + 1, Mm, B, M, ev, by omega, by go_num, rfl, HPl6.out, HSee2.out⟩, by simp [intOf]; omega⟩
            · have HSa := hide (Same_any a5 (some ⟨b6, o6 + p, none⟩) c5 (c6 - p) l5 ((l6.drop p).take kn) w6 HL6.out HT6.out HBy5.out (by rw [← HEq.out]; exact HBy5.out))
              rw [Hl5.out, hpl, decide_eq_true HEq.out] at HSa
              clear hs6 hc6 hg6 hb6 HL5 HPl HG5 HEq HBy5 HL6 HT6 hpl HLo
              go_wp2_with fail
              refine HSa.out.mono ?_
              rintro e9 w7 ⟨rfl, h7⟩
              rw [h7]
              clear h7
              go_wp2_with fail
              exact ⟨⟨k + 1, Mm, B, M, ev, by omega, by go_num, rfl, HPl6.out, HSee.out⟩, by simp [intOf]; omega⟩
      · obtain rfl : k = R.length := by omega
        obtain ⟨f', kk, nn, nL, vb, vm, va, xs, hq, _⟩ := hply.st
        have HBy := hide (bytes_fl wr X F f' _ _ _ hq.fl)
        have HBl := hide hply.bel
        clear hq hply hsee
        go_wp2_with fail
        refine HBy.out.mono ?_
        rintro e9 w6 ⟨v6, rfl, ho6, hb6⟩
        have ho6' : Own w6 wr.heap.size v6 S := ho6
        obtain ⟨a6, c6, rfl, hl6, _⟩ := ho6'.form
        have HB6 : Hid (Below w3.heap.size w3 w6) := hide (HBl.out.trans (hb6.mono HBl.out.size))
        have HSa := hide (Same_any a6 a3 c6 c3 S S w6 hl6 (HS3.out.lies.below HB6.out) HSb.out HSb.out)
        rw [decide_eq_true rfl] at HSa
        clear ho6 ho6' hl6 hb6 HBy
        go_wp2_with fail
        refine HSa.out.mono ?_
        rintro e9 w7 ⟨rfl, h7⟩
        rw [h7]
        clear h7
        go_wp2_with fail
        go_ret
        exact ⟨rfl, HB3.out.trans (HB6.out.mono HB3.out.size)⟩

theorem wf_byte {n : Int} (h : (Lit.int .u8 n).wf = true) : 0 ≤ n ∧ n < 256 := by
  have : 0 ≤ n ∧ n ≤ 255 := by simpa [Lit.wf, IntKind.min, IntKind.max, IntKind.signed, IntKind.bits] using h
  omega

set_option maxRecDepth 100000 in
theorem txPlays_lifted (os : Os) (started : os.Started) (H : Type) (enc : TypeId × Value → H) :
    ReturnsInHanded {} Try.checked os 3 .any (Rows.txPlaysSpec.pre6 enc Try.prog Try.f3 Rows.txPlaysRow.domain false) (Rows.txPlaysSpec.post enc Try.prog Try.f3 false true false false) := by
  refine returnsInHanded_of_change (C := Try.checked) own started (by kernel_rfl) Try.func3
    (ChangeSpec.witness6 (enc := enc) (C := Try.checked) false ⟨#[], #[.int .i64 0, .int .u8 0, .slice none 0 0], []⟩ 8 (by kernel_rfl) (by kernel_rfl) (by kernel_rfl) (by kernel_rfl)) ?_
  intro W base args ds gs before hval0 hW _ _
  have hval : ∀ (j : Nat) t v, Try.f3.params[j]? = some t → args[j]? = some v → Value.okWide Try.prog W .any base t v := hval0
  have hW' := hW
  obtain ⟨p, q, hA0, hV, rfl, hfz, hnd⟩ := hW
  have hA : DataW.TrodAll enc Try.prog W 0 (fun _ => true) true Try.f3.params.toList args.toList ds p := hA0
  rw [Try.params3] at hA hval
  obtain ⟨v0, vs0, d0, ds0, p0, q0, hargs0, rfl, rfl, h0, r0⟩ := trodAll_cons hA
  obtain ⟨v1, vs1, d1, ds1, p1, q1, hargs1, rfl, rfl, h1, r1⟩ := trodAll_cons r0
  obtain ⟨v2, vs2, d2, ds2, p2, q2, hargs2, rfl, rfl, h2, r2⟩ := trodAll_cons r1
  obtain ⟨rfl, rfl, rfl⟩ := trodAll_nil r2
  subst hargs2
  subst hargs1
  obtain rfl : args = #[v0, v1, v2] := by cases args; simp_all
  obtain ⟨rfl, rfl⟩ := trodVars_none hV
  simp only [List.append_nil] at hW'
  have hlt2 : ∀ x ∈ p2, x.block < W.heap.size := fun x hx => by simpa using hW'.lt x (by simp [hx])
  obtain ⟨x0, rfl, rfl, rfl, w0⟩ := open_int Try.underlying3 (hval 0 3 v0 rfl rfl) h0
  obtain ⟨x1, rfl, rfl, rfl, w1⟩ := open_int Try.underlying5 (hval 1 5 v1 rfl rfl) h1
  obtain ⟨a2, cap2, l2, rfl, hn2, hf2, ho2⟩ := open_ops (hval 2 22 v2 rfl rfl) h2
  clear hA0
  refine (txplays_walk x0 x1 (wf_byte w1) a2 cap2 l2 W ho2 hf2 hn2).mono fun e W' ⟨he, hb⟩ => ?_
  subst he
  refine ⟨_, rfl, _, _, _, [], ([] ++ ([] ++ (p2 ++ []))), [], hW', ?_, ?_, rfl, hb.frame _, fun h => by cases h⟩
  · exact trodAll_cons_mk (shut_bool Try.underlying4 _) trodAll_mk0
  · exact trodAll_cons_mk (shut_int Try.underlying3 w0) (trodAll_cons_mk (shut_int Try.underlying5 w1) (trodAll_cons_mk (Below.trod laidOut (by kernel_rfl) (of_decide_eq_true (by kernel_rfl)) h2 hb hlt2) (trodAll_mk0)))

theorem txPlays_holds : Rows.TxPlaysSaid :=
  OpenClaim.holds_of_wide 3 Try.f3 rfl rfl rfl rfl rfl rfl rfl ⟨rfl, rfl, rfl, rfl, rfl⟩ rfl rfl rfl rfl rfl (by kernel_rfl) Try.func3 (by kernel_rfl)
    (of_decide_eq_true (by kernel_rfl)) (by unfold Func.isWrapper; first | (rw [if_pos (by decide +kernel)]; kernel_rfl) | (rw [if_neg (by decide +kernel)]; exact ⟨rfl, rfl⟩))
    (fun os started H enc _ => txPlays_lifted os started H enc)
end Go.Proofs.Ytbpehfadmilhdaa.Oct
