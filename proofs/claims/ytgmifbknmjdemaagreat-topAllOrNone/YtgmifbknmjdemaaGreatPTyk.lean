/- Put; a file's bytes, opened; changes of it. -/
import Derived.Test.YtgmifbknmjdemaaGreatPTyj
import Derived.Test.YtgmifbknmjdemaaGreatPJrp
namespace Go.Proofs.YtgmifbknmjdemaaGreat.Oct
open Go.RowKit Go.Deep Go.Sort

set_option maxRecDepth 100000 in
set_option maxHeartbeats 8000000 in
theorem put_q (w : World) (T J F : Nat) (X : Nat → Prop) (f : Fs) (A : A3) (k n : Nat) (vb vm va : Value) (B M : Int → List Int) (p q : Nat) (nu : Int) (h : Txq w T J F X f A k n vb vm va B M p q nu) (a : Option Addr) (cap m : Nat) (pl : List Int) (hm : m = pl.length) (hl : Lies w a pl) (hcap : m ≤ cap ∧ cap ≤ 9223372036854775807)
    (hlT : 0 < m → ∀ x, a = some x → x.block ≠ T ∧ ∀ r, vb = .map (some r) ∨ vm = .map (some r) → x.block ≠ r) (t : Nat) (htn : t + m ≤ 4194304) :
    Calls Tryz.prog 11 #[.pointer (some ⟨T, 0, none⟩), .int .i64 t, .slice a m cap] w fun e w' => e = .returned (.int .i64 0) ∧ (∃ vb' vm' B' M', Txq w' T J F X f A k n vb' vm' va B' M' p q nu ∧ Laid B M B' M' t m pl 2 ∧ ∀ r, vb' = .map (some r) ∨ vm' = .map (some r) → (vb = .map (some r) ∨ vm = .map (some r)) ∨ w.heap.size ≤ r) ∧ Chg (fun k => k = T ∨ vb = .map (some k) ∨ vm = .map (some k)) w w' := by
  have HH := hide h
  have HOp := hide (open_tx w T J vb vm _ h.tx)
  have HOu := hide (outside_no w t m htn)
  have HLy := hide (lay_by 2 (by omega) w T J vb vm _ false B M h.tx h.ov h.mm a cap m pl hm hl hcap hlT t htn)
  have HXl := hide h.fl.x
  clear h hl hlT hm
  go_enter Tryz.func11, Tryz.ntmps11
  go_wp2_with fail
  refine HOp.out.mono ?_
  rintro e9 w9 ⟨rfl, h9⟩
  subst h9
  go_wp2_with fail
  refine HOu.out.mono ?_
  rintro e9 w9 ⟨rfl, h9⟩
  subst h9
  go_wp2_with fail
  refine HLy.out.mono ?_
  rintro e9 w10 ⟨rfl, ⟨r1, r2, B', M', ht, ho, hr, hrr, hv⟩, hc⟩
  have HRr := hide hrr
  have HT := hide ht
  have HO := hide ho
  have HV := hide hv
  have HC := hide hc
  clear ht ho hv hc hrr
  go_wp2_with fail
  go_ret
  have hnY : ∀ k, k < w9.heap.size → X k → ¬ (k = T ∨ vb = .map (some k) ∨ vm = .map (some k)) := fun k _ hk e => by
    rcases e with rfl | e | e
    · exact HH.out.xT hk
    · exact HH.out.xM k (Or.inl e) hk
    · exact HH.out.xM k (Or.inr e) hk
  have hJn : ¬ (J = T ∨ vb = .map (some J) ∨ vm = .map (some J)) := fun e => by
    have hj : w9.heap[J]? = _ := HH.out.jr
    rcases e with e | e | e
    · exact HH.out.jt e
    · obtain ⟨_, es, c, he⟩ := HH.out.ov.b.lt J e
      rw [he] at hj; cases hj
    · obtain ⟨_, es, c, he⟩ := HH.out.ov.m.lt J e
      rw [he] at hj; cases hj
  have hr12 : ∀ r, (r = r1 ∨ r = r2) → ¬ X r := by
    intro r hrr hx
    rcases HRr.out r hrr with h | h
    · exact HH.out.xM r h hx
    · have := HXl.out r hx
      omega
  refine ⟨rfl, ⟨.map (some r1), .map (some r2), B', M', ⟨HT.out, HO.out, Or.inr ⟨r1, r2, rfl, rfl, hr⟩, (HC.out.block J HH.out.jr.lt hJn).trans HH.out.jr, HH.out.fl.chg HC.out hnY, HH.out.xT, HH.out.xJ, fun r e => hr12 r (by simpa [eq_comm] using e), HH.out.jt⟩, HV.out, fun r e => HRr.out r (by simpa [eq_comm] using e)⟩, HC.out⟩

set_option maxRecDepth 100000 in
theorem put_done (w : World) (T J : Nat) (vb vm va : Value) (ht : Txs w T J vb vm va true) (a b : Value) :
    Calls Tryz.prog 11 #[.pointer (some ⟨T, 0, none⟩), a, b] w fun e w' => e = .returned (.int .i64 6) ∧ w' = w := by
  have HNo := hide (none_tx w T J vb vm va true ht)
  have c4 := ht.cell.2.2.2.2
  have HOp : Hid (Calls Tryz.prog 21 #[.pointer (some ⟨T, 0, none⟩)] w fun e w' => e = .returned (.int .i64 6) ∧ w' = w) := hide (by
    go_enter Tryz.func21, Tryz.ntmps21
    go_wp2_with fail
    refine HNo.out.mono ?_
    rintro e9 w9 ⟨rfl, h9⟩
    rw [h9]
    clear h9
    go_wp2_with fail
    go_ret
    exact ⟨rfl, rfl⟩)
  clear ht c4 HNo
  go_enter Tryz.func11, Tryz.ntmps11
  go_wp2_with fail
  refine HOp.out.mono ?_
  rintro e9 w9 ⟨rfl, h9⟩
  rw [h9]
  clear h9
  go_wp2_with fail
  go_ret
  exact ⟨rfl, rfl⟩

theorem mod7 (x : Int) : ∃ n : Nat, n < 7000 ∧ (IntKind.u64.wrap x).tmod 7000 = (n : Int) := by
  have h0 : 0 ≤ IntKind.u64.wrap x := by rw [IntKind.wrap_u64]; omega
  have e : (IntKind.u64.wrap x).tmod 7000 = (IntKind.u64.wrap x) % 7000 := Int.tmod_eq_emod_of_nonneg h0
  rw [e]
  generalize IntKind.u64.wrap x = y at *
  exact ⟨(y % 7000).toNat, by omega, by omega⟩

/-- A file's bytes: noughts up to behind the journal, then one byte. -/
def BaseL (S : List Int) (m : Nat) (c : Int) : Prop := S.length = 10752 + m ∧ ∀ j, j < S.length → S.getD j 0 = if 10752 ≤ j then c else 0
end Go.Proofs.YtgmifbknmjdemaaGreat.Oct
