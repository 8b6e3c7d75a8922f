/- Tables of entries: places that aren't there, all entries, an entry that is set. -/
import Derived.Test.YtibkhgmmjhlpmaaGreatPTblTbg
namespace Go.Proofs.YtibkhgmmjhlpmaaGreat.Oct
open Go.RowKit Go.Deep

/-- A table in a cluster holds these entries. -/
structure Ents (S : List Int) (B M : Int → List Int) (c : Nat) (E : List E3) : Prop where
  len : E.length = 64
  ok : ∀ i, i < 64 → okN (E.getD i z3) = true
  by_ : ∀ i, i < 64 → ∀ b, b < 8 → seeT S B M (c * 512 + 8 * i + b) = enN (E.getD i z3) / 2 ^ (8 * b) % 256

theorem Ents.nums {S : List Int} {B M : Int → List Int} {c : Nat} {E : List E3} (h : Ents S B M c E) (i n : Nat) (hin : i + n ≤ 64) (l : List Int) (hl : ∀ j, j < 8 * n → l.getD j 0 = seeT S B M (c * 512 + 8 * i + j)) (j : Nat) (hj : j < n) : okV (num l (8 * j) 8) = true ∧ dec3 (num l (8 * j) 8) = E.getD (i + j) z3 := by
  have hn : num l (8 * j) 8 = enN (E.getD (i + j) z3) := by
    have := num_of l (8 * j) (enN (E.getD (i + j) z3)) 8 (fun b hb => by
      rw [hl (8 * j + b) (by omega), show c * 512 + 8 * i + (8 * j + b) = c * 512 + 8 * (i + j) + b by omega]
      exact h.by_ (i + j) (by omega) b hb)
    rw [this]
    have hb := encN_bd (E.getD (i + j) z3).1 (E.getD (i + j) z3).2.1 (E.getD (i + j) z3).2.2
    have e : (256 : Int) ^ 8 = 18446744073709551616 := by decide
    rw [e]
    exact Int.emod_eq_of_lt hb.1 hb.2
  rw [hn]
  obtain ⟨q1, q2, q3, q4⟩ := dec_enc _ _ _ (h.ok (i + j) (by omega))
  refine ⟨q1, ?_⟩
  show (decK _, decC _, decOw _) = _
  unfold enN
  rw [q2, q3, q4]

set_option maxRecDepth 100000 in
set_option maxHeartbeats 4000000 in
theorem tab_get (w : World) (A T J F : Nat) (X : Nat → Prop) (f : Fs) (S : List Int) (vb vm : Value) (B M : Int → List Int) (p q : Int) (h : Tst w T J F X f S vb vm B M p q) (hS : S.length ≤ 4194304) (hops : f.ops < 1000000) (hXl : ∀ k, X k → k < w.heap.size) (hby : ∀ x, 0 ≤ seeT S B M x ∧ seeT S B M x < 256)
    (c : Nat) (hA : Tab w A T c) (hAX : ¬ X A) (hc : 1 ≤ c ∧ c < 120) (E : List E3) (hE : Ents S B M c E) (i : Nat) (hi : i < 64) (x y : Int) (z : Bool) (hx : E.getD i z3 = (x, y, z)) :
    Calls Tryz.prog 10 #[.pointer (some ⟨A, 0, none⟩), .int .i64 i] w fun e w' => ∃ f', e = .returned (.tuple #[.agg #[.int .i64 x, .int .i64 y, .bool z], .int .i64 0]) ∧ Tst w' T J F X f' S vb vm B M p q ∧ f'.ops ≤ f.ops + 1 ∧ Chg (fun k => k = F) w w' := by
  have hb0 : Below w.heap.size w (w.alloc (.cells #[.int .i64 0, .int .i64 0, .bool false] 43)) := (Below.refl _ _).alloc (Nat.le_refl _) _
  have HR := hide (StE.new w #[.int .i64 0, .int .i64 0, .bool false] 43)
  have HB0 := hide hb0
  have HH := hide (tab_has _ A T c (hA.below hb0) (i : Int))
  have e0 : hasN (i : Int) = 0 := if_pos (by omega)
  rw [e0] at HH
  have hFl := h.fil.at_.lt
  have hTl := h.tx.lt
  have hJl := h.jr.lt
  have HMl : Hid (∀ r, vb = .map (some r) ∨ vm = .map (some r) → r < w.heap.size) := hide (fun r hr => hr.elim (fun e => (h.ov.b.lt r e).1) (fun e => (h.ov.m.lt r e).1))
  have HXl := hide hXl
  have HL : ∀ u, Below w.heap.size w u → Hid (Calls Tryz.prog 32 #[.pointer (some ⟨A, 0, none⟩), .int .i64 i, .int .i64 1] u fun e w' => ∃ v f', e = .returned (.tuple #[v, .int .i64 0]) ∧ OwnN w' u.heap.size v [(x, y, z)] ∧ Tst w' T J F X f' S vb vm B M p q ∧ f'.ops ≤ f.ops + 1 ∧ Chg (fun k => k = F) u w') := fun u hu => hide (by
    refine (tab_list u A T J F X f S vb vm B M p q (h.below hu) hS hops (fun k hk => Nat.lt_of_lt_of_le (hXl k hk) hu.size) hby c (hA.below hu) hAX hc i 1 (by omega) hi).mono ?_
    rintro e9 w3 ⟨l, f', hl, hv, hli, ht, hf, hcg⟩
    have hj := hE.nums i 1 (by omega) l hv 0 (by omega)
    rcases hli with ⟨v, R, rfl, hoR, hRl, hRa⟩ | ⟨⟨j, hj2, hbad⟩, rfl⟩
    · refine ⟨v, f', rfl, ?_, ht, hf, hcg⟩
      have hR1 : R.length = 1 := by rw [hRl, hl]
      have hR0 := (hRa 0 (by rw [hl]; omega)).2
      rw [hj.2, Nat.add_zero, hx] at hR0
      match R, hR1 with
      | [r], _ =>
        simp at hR0
        rw [hR0] at hoR
        exact hoR
    · exfalso
      have : j = 0 := by rw [hl] at hj2; omega
      subst this
      rw [hj.1] at hbad
      cases hbad)
  clear h hA hby hE hb0 e0 hXl
  go_enter Tryz.func10, Tryz.ntmps10
  go_wp2_with fail
  refine HH.out.mono ?_
  rintro e9 w2 ⟨rfl, hb2⟩
  have HB2 := hide (HB0.out.trans (hb2.mono HB0.out.size))
  have HR2 := hide (HR.out.below hb2)
  clear hb2
  go_wp2_with fail
  refine ((HL _ HB2.out).out).mono ?_
  rintro e9 w3 ⟨v, f', rfl, ho3, ht3, hf3, hc3⟩
  have hRF : w.heap.size ≠ F := by omega
  have HR3 : Hid (StE w3 w.heap.size #[.int .i64 0, .int .i64 0, .bool false] 43) := hide ((hc3.block _ HR2.out.lt hRF).trans HR2.out)
  obtain ⟨a3, k3, hv3, hl3, _, _, hp3⟩ := ho3.form
  subst hv3
  rcases hl3 with h0 | ⟨b, off, rfl, hbl, hcc⟩
  · cases h0
  obtain ⟨d0, d1, d2⟩ := hcc 0 (by simp)
  simp only [List.getD_cons_zero, Nat.zero_mul, Nat.add_zero] at d0 d1 d2
  have hbR : b ≠ w.heap.size := by have := (hp3 _ rfl).1; have := HB2.out.size; have := HR2.out.lt; simp at *; omega
  have HT3 := hide (And.intro ht3 (And.intro hf3 hc3))
  obtain ⟨g0, g1, g2⟩ := HR3.out.box
  have z0 := HR3.out.frozen 0
  have z1 := HR3.out.frozen 1
  have z2 := HR3.out.frozen 2
  have hk1 : ([(x, y, z)] : List E3).length = 1 := rfl
  rw [hk1]
  clear ho3 ht3 hf3 hc3 hcc hp3 hk1
  go_wp2_with fail
  have hs3 := set3 HR3.out x y z
  refine bodyPost_ret (ret_E rfl _ _ w.heap.size _ _ _ _ rfl rfl hs3) rfl ⟨f', rfl, HT3.out.1.chg (((Chg.refl (fun k => k = w.heap.size) w3).setCell w.heap.size 0 _ (fun _ => rfl)).setCell w.heap.size 1 _ (fun _ => rfl) |>.setCell w.heap.size 2 _ (fun _ => rfl)) (by omega) (by omega) (fun r hr e => by have := HMl.out r hr; omega) (fun k _ hk e => by have := HXl.out k hk; omega), HT3.out.2.1, ((Chg.of_below HB2.out).trans HT3.out.2.2).andThen (((Chg.refl (fun k => k = w.heap.size) w3).setCell w.heap.size 0 _ (fun _ => rfl)).setCell w.heap.size 1 _ (fun _ => rfl) |>.setCell w.heap.size 2 _ (fun _ => rfl)) (fun i hi e => by omega)⟩
end Go.Proofs.YtibkhgmmjhlpmaaGreat.Oct

namespace Go.Proofs.YtibkhgmmjhlpmaaGreat.Oct
open Go.RowKit Go.Deep

theorem tab_get_no (w : World) (A T : Nat) (c : Int) (hA : Tab w A T c) (i : Int) (hi : ¬ (0 ≤ i ∧ i < 64)) : Calls Tryz.prog 10 #[.pointer (some ⟨A, 0, none⟩), .int .i64 i] w fun e w' => e = .returned (.tuple #[.agg #[.int .i64 0, .int .i64 0, .bool false], .int .i64 4]) ∧ Below w.heap.size w w' := by
  have hb0 : Below w.heap.size w (w.alloc (.cells #[.int .i64 0, .int .i64 0, .bool false] 43)) := (Below.refl _ _).alloc (Nat.le_refl _) _
  have HR := hide (StE.new w #[.int .i64 0, .int .i64 0, .bool false] 43)
  have HB0 := hide hb0
  have HH := hide (tab_has _ A T c (hA.below hb0) i)
  have e0 : hasN i = 4 := if_neg hi
  rw [e0] at HH
  clear hA hb0 e0
  go_enter Tryz.func10, Tryz.ntmps10
  go_wp2_with fail
  refine HH.out.mono ?_
  rintro e9 w2 ⟨rfl, hb2⟩
  have HB2 := hide (HB0.out.trans (hb2.mono HB0.out.size))
  have HR2 := hide (HR.out.below hb2)
  clear hb2
  obtain ⟨g0, g1, g2⟩ := HR2.out.box
  have z0 := HR2.out.frozen 0
  have z1 := HR2.out.frozen 1
  have z2 := HR2.out.frozen 2
  go_wp2_with fail
  exact bodyPost_ret (ret_E rfl _ _ w.heap.size _ _ _ _ rfl rfl (set3 HR2.out 0 0 false)) rfl ⟨rfl, below3 HB2.out (Nat.le_refl _) _ _ _⟩

set_option maxRecDepth 100000 in
set_option maxHeartbeats 4000000 in
theorem tab_all (w : World) (A T J F : Nat) (X : Nat → Prop) (f : Fs) (S : List Int) (vb vm : Value) (B M : Int → List Int) (p q : Int) (h : Tst w T J F X f S vb vm B M p q) (hS : S.length ≤ 4194304) (hops : f.ops < 1000000) (hXl : ∀ k, X k → k < w.heap.size) (hby : ∀ x, 0 ≤ seeT S B M x ∧ seeT S B M x < 256)
    (c : Nat) (hA : Tab w A T c) (hAX : ¬ X A) (hc : 1 ≤ c ∧ c < 120) (E : List E3) (hE : Ents S B M c E) :
    Calls Tryz.prog 17 #[.pointer (some ⟨A, 0, none⟩)] w fun e w' => ∃ v, e = .returned (.tuple #[v, .int .i64 0]) ∧ OwnN w' w.heap.size v E ∧ Chg (fun k => k = F) w w' := by
  have HN := hide (tab_none w A T c hA)
  have HEn : Hid (Calls Tryz.prog 19 #[.agg #[.int .i64 9, .int .i64 32768, .int .i64 120, .int .i64 29, .bool false]] w fun e w' => e = .returned (.int .i64 64) ∧ Below w.heap.size w w') := hide (entries_any 9 32768 120 29 false w)
  have HL : ∀ u, Below w.heap.size w u → Hid (Calls Tryz.prog 32 #[.pointer (some ⟨A, 0, none⟩), .int .i64 0, .int .i64 64] u fun e w' => ∃ v, e = .returned (.tuple #[v, .int .i64 0]) ∧ OwnN w' u.heap.size v E ∧ Chg (fun k => k = F) u w') := fun u hu => hide (by
    refine (tab_list u A T J F X f S vb vm B M p q (h.below hu) hS hops (fun k hk => Nat.lt_of_lt_of_le (hXl k hk) hu.size) hby c (hA.below hu) hAX hc 0 64 (by omega) (by omega)).mono ?_
    rintro e9 w3 ⟨l, f', hl, hv, hli, ht, hf, hcg⟩
    have hj := hE.nums 0 64 (by omega) l hv
    rcases hli with ⟨v, R, rfl, hoR, hRl, hRa⟩ | ⟨⟨j, hj2, hbad⟩, rfl⟩
    · refine ⟨v, rfl, ?_, hcg⟩
      have hR1 : R.length = 64 := by rw [hRl, hl]
      have hRE : R = E := by
        apply List.ext_getElem (by rw [hR1, hE.len])
        intro k h1 h2
        have e1 := (hRa k (by rw [hl]; omega)).2
        rw [(hj k (by omega)).2, Nat.zero_add, List.getD_eq_getElem?_getD, List.getD_eq_getElem?_getD, List.getElem?_eq_getElem h1, List.getElem?_eq_getElem h2] at e1
        simpa using e1
      rw [← hRE]
      exact hoR
    · exfalso
      rw [(hj j (by rw [hl] at hj2; omega)).1] at hbad
      cases hbad)
  obtain ⟨c0, c1, c2, c3, c4, c5, c6⟩ := hA.cell
  clear h hA hby hE
  go_enter Tryz.func17, Tryz.ntmps17
  go_wp2_with fail
  refine HN.out.mono ?_
  rintro e9 w2 ⟨rfl, h9⟩
  subst h9
  go_wp2_with fail
  refine HEn.out.mono ?_
  rintro e9 w3 ⟨rfl, hb3⟩
  have HB3 := hide hb3
  clear hb3
  go_wp2_with fail
  refine ((HL _ HB3.out).out).mono ?_
  rintro e9 w4 ⟨v, rfl, ho4, hc4⟩
  have HF := hide (And.intro ho4 hc4)
  clear ho4 hc4
  go_wp2_with fail
  go_ret2
  exact ⟨v, rfl, HF.out.1.mono HB3.out.size, (Chg.of_below HB3.out).trans HF.out.2⟩

set_option maxHeartbeats 2000000 in
theorem tab_set_no (w : World) (A T : Nat) (cl : Int) (hA : Tab w A T cl) (i : Int) (hi : ¬ (0 ≤ i ∧ i < 64)) (k c : Int) (o : Bool) : Calls Tryz.prog 12 #[.pointer (some ⟨A, 0, none⟩), .int .i64 i, .agg #[.int .i64 k, .int .i64 c, .bool o]] w fun e w' => e = .returned (.int .i64 4) ∧ Below w.heap.size w w' := by
  have hb0 : Below w.heap.size w (w.alloc (.cells #[.int .i64 k, .int .i64 c, .bool o] 43)) := (Below.refl _ _).alloc (Nat.le_refl _) _
  have HB0 := hide hb0
  have HH := hide (tab_has _ A T cl (hA.below hb0) i)
  have e0 : hasN i = 4 := if_neg hi
  rw [e0] at HH
  clear hA hb0 e0
  go_enter Tryz.func12, Tryz.ntmps12
  go_wp2_with fail
  refine HH.out.mono ?_
  rintro e9 w2 ⟨rfl, hb2⟩
  have HB2 := hide (HB0.out.trans (hb2.mono HB0.out.size))
  clear hb2
  go_wp2_with fail
  go_ret
  exact ⟨rfl, HB2.out⟩

theorem lies_one3 (w : World) (k c : Int) (o : Bool) : LiesN (w.alloc (.cells #[.int .i64 k, .int .i64 c, .bool o] 43)) (some ⟨w.heap.size, 0, none⟩) [(k, c, o)] := by
  refine Or.inr ⟨w.heap.size, 0, rfl, by simp, fun j hj => ?_⟩
  have : j = 0 := by simpa using hj
  subst this
  have h := (StE.new w #[.int .i64 k, .int .i64 c, .bool o] 43).box
  simp at h ⊢

set_option maxRecDepth 100000 in
set_option maxHeartbeats 4000000 in
theorem tab_set (w : World) (A T J F : Nat) (X : Nat → Prop) (f : Fs) (S : List Int) (vb vm : Value) (B M : Int → List Int) (p q : Int) (h : Tst w T J F X f S vb vm B M p q) (hXl : ∀ k, X k → k < w.heap.size)
    (cl : Nat) (hA : Tab w A T cl) (hAT : A ≠ T) (hcl : 1 ≤ cl ∧ cl < 120) (i : Nat) (hi : i < 64) (k c : Int) (o : Bool) :
    Calls Tryz.prog 12 #[.pointer (some ⟨A, 0, none⟩), .int .i64 i, .agg #[.int .i64 k, .int .i64 c, .bool o]] w fun e w' => (okE k c o = false ∧ e = .returned (.int .i64 11) ∧ Below w.heap.size w w') ∨ (okE k c o = true ∧ e = .returned (.int .i64 0) ∧ (∃ vb' vm' B' M', Tst w' T J F X f S vb' vm' B' M' p q ∧ (∀ x y, valT B' M' x y = if cl * 512 + 8 * i ≤ x ∧ x < cl * 512 + 8 * i + 8 then encN k c o / 2 ^ (8 * (x - (cl * 512 + 8 * i))) % 256 else valT B M x y) ∧ ∀ r, vb' = .map (some r) ∨ vm' = .map (some r) → (vb = .map (some r) ∨ vm = .map (some r)) ∨ w.heap.size ≤ r) ∧ Chg (fun k => k = T ∨ vb = .map (some k) ∨ vm = .map (some k)) w w') := by
  have hb0 : Below w.heap.size w (w.alloc (.cells #[.int .i64 k, .int .i64 c, .bool o] 43)) := (Below.refl _ _).alloc (Nat.le_refl _) _
  have HB0 := hide hb0
  have HX0 := hide (StE.new w #[.int .i64 k, .int .i64 c, .bool o] 43)
  have HH := hide (tab_has _ A T cl (hA.below hb0) (i : Int))
  have e0 : hasN (i : Int) = 0 := if_pos (by omega)
  rw [e0] at HH
  have HTs := hide h
  have HTb := hide hA
  have HXl := hide hXl
  clear h hA hXl hb0 e0
  go_enter Tryz.func12, Tryz.ntmps12
  go_wp2_with fail
  refine HH.out.mono ?_
  rintro e9 w2 ⟨rfl, hb2⟩
  have HB2 := hide (HB0.out.trans (hb2.mono HB0.out.size))
  obtain ⟨d0, d1, d2⟩ := (HX0.out.below hb2).box
  have hb3 : Below w2.heap.size w2 (w2.alloc (.cells #[.int .i64 k, .int .i64 c, .bool o] 43)) := (Below.refl _ _).alloc (Nat.le_refl _) _
  have HBt : Hid (Calls Tryz.prog 35 #[.slice (some ⟨w2.heap.size, 0, none⟩) 1 1] (w2.alloc (.cells #[.int .i64 k, .int .i64 c, .bool o] 43)) fun e w' => Byted (w2.alloc (.cells #[.int .i64 k, .int .i64 c, .bool o] 43)) [(k, c, o)] e w' ∧ Below (w2.alloc (.cells #[.int .i64 k, .int .i64 c, .bool o] 43)).heap.size (w2.alloc (.cells #[.int .i64 k, .int .i64 c, .bool o] 43)) w') := hide (bytes_any (some ⟨w2.heap.size, 0, none⟩) 1 [(k, c, o)] _ (by simp) (lies_one3 w2 k c o))
  have HB3 := hide (HB2.out.trans (hb3.mono HB2.out.size))
  clear hb2 hb3
  go_wp2_with fail
  refine HBt.out.mono ?_
  rintro e9 w4 ⟨hbt, hb4⟩
  have HB4 := hide (HB3.out.trans (hb4.mono HB3.out.size))
  have hsz4 := HB3.out.size
  rcases hbt with ⟨v, m, rfl, hom, hml, hmb, hma, hmd⟩ | ⟨⟨j, hj, hbad⟩, rfl⟩
  rotate_left
  · have hok : okE k c o = false := by
      have : j = 0 := by simpa using hj
      subst this
      exact hbad
    clear hj hbad hb4
    go_wp2_with fail
    go_ret
    exact Or.inl ⟨hok, rfl, HB4.out⟩
  · have hok : okE k c o = true := hma 0 (by simp)
    obtain ⟨a4, k4, rfl, hl4, _, hk4, hkm, hp4⟩ := hom.form
    have hml8 : m.length = 8 := by rw [hml]; rfl
    rw [hml8]
    have HMd : Hid (∀ b, b < 8 → m.getD b 0 = encN k c o / 2 ^ (8 * b) % 256) := hide (fun b hb => by
      have := hmd 0 (by simp) b hb
      simpa [enN] using this)
    have HAb : Hid (∀ x, a4 = some x → w.heap.size ≤ x.block) := hide (fun x hx => by
      obtain ⟨g, hg, h1, _⟩ := hp4 (by intro e; rw [e] at hml8; simp at hml8)
      rw [hg] at hx
      cases hx
      exact Nat.le_trans hsz4 h1)
    have HL4 := hide hl4
    have HOk := hide hok
    have hTl := HTs.out.tx.lt
    unfold maxLen at hkm
    have HAt := fun u (hu : Tab u A T cl) => hide (tab_at u A T cl hu (by omega) (i : Int) (by omega))
    have HPt : ∀ u, Below w.heap.size w u → Lies u a4 m → Hid (Calls Tryz.prog 36 #[.pointer (some ⟨T, 0, none⟩), .int .i64 ((cl : Int) * 512 + 8 * (i : Int)), .slice a4 8 k4] u fun e w' => e = .returned (.int .i64 0) ∧ (∃ vb' vm' B' M', Tst w' T J F X f S vb' vm' B' M' p q ∧ (∀ x y, valT B' M' x y = if cl * 512 + 8 * i ≤ x ∧ x < cl * 512 + 8 * i + 8 then encN k c o / 2 ^ (8 * (x - (cl * 512 + 8 * i))) % 256 else valT B M x y) ∧ ∀ r, vb' = .map (some r) ∨ vm' = .map (some r) → (vb = .map (some r) ∨ vm = .map (some r)) ∨ w.heap.size ≤ r) ∧ Chg (fun k => k = T ∨ vb = .map (some k) ∨ vm = .map (some k)) w w' ∧ Tab w' A T cl) := fun u h3 hl => hide (by
      have e4 : ((cl * 512 + 8 * i : Nat) : Int) = (cl : Int) * 512 + 8 * (i : Int) := by omega
      have hg := put_tx u T J F X f S vb vm B M p q (HTs.out.below h3) (fun k hk => Nat.lt_of_lt_of_le (HXl.out k hk) h3.size) a4 k4 8 m hml8.symm hl (by omega) (fun x hx => ⟨by have := HAb.out x hx; omega, fun r hr => by
        have h5 := HAb.out x hx
        have : r < w.heap.size := hr.elim (fun e => (HTs.out.ov.b.lt r e).1) (fun e => (HTs.out.ov.m.lt r e).1)
        omega⟩) (cl * 512 + 8 * i) (by omega)
      rw [e4] at hg
      refine hg.mono ?_
      rintro e9 w3 ⟨rfl, ⟨vb', vm', B', M', ht, hv, hrr⟩, hc3⟩
      have hAn : ¬ (A = T ∨ vb = .map (some A) ∨ vm = .map (some A)) := fun e => by
        have hj : w.heap[A]? = _ := HTb.out
        rcases e with e | e | e
        · exact hAT e
        · obtain ⟨_, es, c9, he⟩ := HTs.out.ov.b.lt A e
          rw [he] at hj; cases hj
        · obtain ⟨_, es, c9, he⟩ := HTs.out.ov.m.lt A e
          rw [he] at hj; cases hj
      refine ⟨rfl, ⟨vb', vm', B', M', ht, fun x y => ?_, fun r hr => (hrr r hr).elim Or.inl (fun h => Or.inr (Nat.le_trans h3.size h))⟩, (Chg.of_below h3).trans hc3, (hc3.block A (Nat.lt_of_lt_of_le HTb.out.lt h3.size) hAn).trans (HTb.out.below h3)⟩
      rw [hv x y]
      by_cases hx : cl * 512 + 8 * i ≤ x ∧ x < cl * 512 + 8 * i + 8
      · rw [if_pos hx, if_pos hx, HMd.out _ (by omega)]
      · rw [if_neg hx, if_neg hx])
    clear hom hma hmd hmb hml hl4 hp4 hb4 hok
    go_wp2_with fail
    have HA := hide (HTb.out.below HB4.out).drew
    have HB := hide HB4.out.drew
    have HLm := hide (HL4.out.below (Below.refl w4.heap.size w4).drew)
    obtain ⟨x0, x1, x2, x3, x4, x5, x6⟩ := HA.out.cell
    go_region_held3 (fun u => u.cell? ⟨A, 0, none⟩ = some (.int .i64 9) ∧ u.cell? ⟨A, 1, none⟩ = some (.int .i64 32768) ∧ u.cell? ⟨A, 2, none⟩ = some (.int .i64 120) ∧ u.cell? ⟨A, 3, none⟩ = some (.int .i64 29) ∧ u.cell? ⟨A, 4, none⟩ = some (.bool false) ∧ u.cell? ⟨A, 5, none⟩ = some (.pointer (some ⟨T, 0, none⟩)) ∧ u.cell? ⟨A, 6, none⟩ = some (.int .i64 (cl : Int))) (first | go_keep | exact HA.out.cell) (first
      | (go_at_call 37; refine ((HAt _ HA.out).out).mono ?_; rintro e9 w5 ⟨rfl, hb5⟩; have HA := hide (HA.out.below hb5); have HB := hide (HB.out.trans (hb5.mono HB.out.size)); have HLm := hide (HLm.out.below hb5); clear hb5)
      | (go_at_call 36; refine ((HPt _ HB.out HLm.out).out).mono ?_; rintro e9 w6 ⟨rfl, hex, hc6, hA6⟩; have HA := hide hA6; have HG := hide (And.intro hex hc6); clear hex hc6 hA6))
    all_goals
      go_wp2_with fail
      go_ret
      exact Or.inr ⟨HOk.out, rfl, HG.out.1, HG.out.2⟩
end Go.Proofs.YtibkhgmmjhlpmaaGreat.Oct
