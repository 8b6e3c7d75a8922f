/- Tables of entries: what they hold, an entry that is read, all of them. -/
import Derived.Test.YtghdngmmlnffkaaTbg
namespace Go.Proofs.Ytghdngmmlnffkaa.Oct
open Go.RowKit Go.Deep

/-- A table in a cluster holds these entries. -/
structure Ents (S : List Int) (B M : Int → List Int) (c : Nat) (E : List E3) : Prop where
  len : E.length = 64
  ok : ∀ i, i < 64 → okN (E.getD i z3) = true
  by_ : ∀ i, i < 64 → ∀ b, b < 8 → seeT S B M (c * 512 + 8 * i + b) = enN (E.getD i z3) / 2 ^ (8 * b) % 256

theorem Ents.nums {S : List Int} {B M : Int → List Int} {c : Nat} {E : List E3} (h : Ents S B M c E) (i n : Nat) (hin : i + n ≤ 64) (l : List Int) (hl : ∀ j, j < 8 * n → l.getD j 0 = seeT S B M (c * 512 + 8 * i + j)) (j : Nat) (hj : j < n) : okV (num l (8 * j) 8) = true ∧ dec3 (num l (8 * j) 8) = E.getD (i + j) z3 := by
  have hn : num l (8 * j) 8 = enN (E.getD (i + j) z3) := by
    have := num_of l (8 * j) (enN (E.getD (i + j) z3)) 8 (fun b hb => by
      rw [hl (8 * j + b) (by omega), show c * 512 + 8 * i + (8 * j + b) = c * 512 + 8 * (i + j) + b by omega]
      exact h.by_ (i + j) (by omega) b hb)
    rw [this]
    have hb := encN_bd (E.getD (i + j) z3).1 (E.getD (i + j) z3).2.1 (E.getD (i + j) z3).2.2
    have e : (256 : Int) ^ 8 = 18446744073709551616 := by decide
    rw [e]
    exact Int.emod_eq_of_lt hb.1 hb.2
  rw [hn]
  obtain ⟨q1, q2, q3, q4⟩ := dec_enc _ _ _ (h.ok (i + j) (by omega))
  refine ⟨q1, ?_⟩
  show (decK _, decC _, decO _) = _
  unfold enN
  rw [q2, q3, q4]

set_option maxRecDepth 100000 in
set_option maxHeartbeats 4000000 in
theorem tab_get (w : World) (A T J F : Nat) (X : Nat → Prop) (f : Fs) (S : List Int) (vb vm : Value) (B M : Int → List Int) (p q : Int) (h : Tst w T J F X f S vb vm B M p q) (hS : S.length ≤ 4194304) (hops : f.ops < 1000000) (hXl : ∀ k, X k → k < w.heap.size) (hby : ∀ x, 0 ≤ seeT S B M x ∧ seeT S B M x < 256)
    (c : Nat) (hA : Tab w A T c) (hAX : ¬ X A) (hc : 1 ≤ c ∧ c < 60) (E : List E3) (hE : Ents S B M c E) (i : Nat) (hi : i < 64) (x y : Int) (z : Bool) (hx : E.getD i z3 = (x, y, z)) :
    Calls Try.prog 13 #[.pointer (some ⟨A, 0, none⟩), .int .i64 i] w fun e w' => ∃ f', e = .returned (.tuple #[.agg #[.int .i64 x, .int .i64 y, .bool z], .int .i64 0]) ∧ Tst w' T J F X f' S vb vm B M p q ∧ f'.ops ≤ f.ops + 1 ∧ Chg (fun k => k = F) w w' := by
  have hb0 : Below w.heap.size w (w.alloc (.cells #[.int .i64 0, .int .i64 0, .bool false] 43)) := (Below.refl _ _).alloc (Nat.le_refl _) _
  have HR := hide (StE.new w #[.int .i64 0, .int .i64 0, .bool false] 43)
  have HB0 := hide hb0
  have HH := hide (tab_has _ A T c (hA.below hb0) (i : Int))
  have e0 : hasN (i : Int) = 0 := if_pos (by omega)
  rw [e0] at HH
  have hFl := h.fil.at_.lt
  have hTl := h.tx.lt
  have hJl := h.jr.lt
  have HMl : Hid (∀ r, vb = .map (some r) ∨ vm = .map (some r) → r < w.heap.size) := hide (fun r hr => hr.elim (fun e => (h.ov.b.lt r e).1) (fun e => (h.ov.m.lt r e).1))
  have HXl := hide hXl
  have HL : ∀ u, Below w.heap.size w u → Hid (Calls Try.prog 27 #[.pointer (some ⟨A, 0, none⟩), .int .i64 i, .int .i64 1] u fun e w' => ∃ v f', e = .returned (.tuple #[v, .int .i64 0]) ∧ OwnN w' u.heap.size v [(x, y, z)] ∧ Tst w' T J F X f' S vb vm B M p q ∧ f'.ops ≤ f.ops + 1 ∧ Chg (fun k => k = F) u w') := fun u hu => hide (by
    refine (tab_list u A T J F X f S vb vm B M p q (h.below hu) hS hops (fun k hk => Nat.lt_of_lt_of_le (hXl k hk) hu.size) hby c (hA.below hu) hAX hc i 1 (by omega) hi).mono ?_
    rintro e9 w3 ⟨l, f', hl, hv, hli, ht, hf, hcg⟩
    have hj := hE.nums i 1 (by omega) l hv 0 (by omega)
    rcases hli with ⟨v, R, rfl, hoR, hRl, hRa⟩ | ⟨⟨j, hj2, hbad⟩, rfl⟩
    · refine ⟨v, f', rfl, ?_, ht, hf, hcg⟩
      have hR1 : R.length = 1 := by rw [hRl, hl]
      have hR0 := (hRa 0 (by rw [hl]; omega)).2
      rw [hj.2, Nat.add_zero, hx] at hR0
      match R, hR1 with
      | [r], _ =>
        simp at hR0
        rw [hR0] at hoR
        exact hoR
    · exfalso
      have : j = 0 := by rw [hl] at hj2; omega
      subst this
      rw [hj.1] at hbad
      cases hbad)
  clear h hA hby hE hb0 e0 hXl
  go_enter Try.func13, Try.ntmps13
  go_wp2_with fail
  refine HH.out.mono ?_
  rintro e9 w2 ⟨rfl, hb2⟩
  have HB2 := hide (HB0.out.trans (hb2.mono HB0.out.size))
  have HR2 := hide (HR.out.below hb2)
  clear hb2
  go_wp2_with fail
  refine ((HL _ HB2.out).out).mono ?_
  rintro e9 w3 ⟨v, f', rfl, ho3, ht3, hf3, hc3⟩
  have hRF : w.heap.size ≠ F := by omega
  have HR3 : Hid (StE w3 w.heap.size #[.int .i64 0, .int .i64 0, .bool false] 43) := hide ((hc3.block _ HR2.out.lt hRF).trans HR2.out)
  obtain ⟨a3, k3, hv3, hl3, _, _, hp3⟩ := ho3.form
  subst hv3
  rcases hl3 with h0 | ⟨b, off, rfl, hbl, hcc⟩
  · cases h0
  obtain ⟨d0, d1, d2⟩ := hcc 0 (by simp)
  simp only [List.getD_cons_zero, Nat.zero_mul, Nat.add_zero] at d0 d1 d2
  have hbR : b ≠ w.heap.size := by have := (hp3 _ rfl).1; have := HB2.out.size; have := HR2.out.lt; simp at *; omega
  have HT3 := hide (And.intro ht3 (And.intro hf3 hc3))
  obtain ⟨g0, g1, g2⟩ := HR3.out.box
  have z0 := HR3.out.frozen 0
  have z1 := HR3.out.frozen 1
  have z2 := HR3.out.frozen 2
  have hk1 : ([(x, y, z)] : List E3).length = 1 := rfl
  rw [hk1]
  clear ho3 ht3 hf3 hc3 hcc hp3 hk1
  go_wp2_with fail
  have hs3 := set3 HR3.out x y z
  refine bodyPost_ret (ret_E rfl _ _ w.heap.size _ _ _ _ rfl rfl hs3) rfl ⟨f', rfl, HT3.out.1.chg (((Chg.refl (fun k => k = w.heap.size) w3).setCell w.heap.size 0 _ (fun _ => rfl)).setCell w.heap.size 1 _ (fun _ => rfl) |>.setCell w.heap.size 2 _ (fun _ => rfl)) (by omega) (by omega) (fun r hr e => by have := HMl.out r hr; omega) (fun k _ hk e => by have := HXl.out k hk; omega), HT3.out.2.1, ((Chg.of_below HB2.out).trans HT3.out.2.2).andThen (((Chg.refl (fun k => k = w.heap.size) w3).setCell w.heap.size 0 _ (fun _ => rfl)).setCell w.heap.size 1 _ (fun _ => rfl) |>.setCell w.heap.size 2 _ (fun _ => rfl)) (fun i hi e => by omega)⟩
end Go.Proofs.Ytghdngmmlnffkaa.Oct
