/- States of a file's bytes, one behind the other, in a row of the call's own; what a crash leaves, byte by byte. -/
import Derived.Test.YtnhbncbiflnapaaCrs
import Derived.Laws.OwnMore
namespace Go.Proofs.Ytnhbncbiflnapaa.Oct
open Go.RowKit Go.Deep

/-- Lists of bytes in a row of the call's own; none of its blocks is one of X. -/
def Sts (w : World) (X : Nat → Prop) (B : Nat) (v : Value) (Ss : List (List Int)) : Prop :=
  ∃ xs : List Value, w.ownsRow B 22 1 v Ss.length xs ∧ (∀ g, v.ownBlock = some g → ¬ X g) ∧
    ∀ m, m < Ss.length → ∃ a c, xs[m]? = some (.slice a (Ss.getD m []).length c) ∧ Lies w a (Ss.getD m []) ∧ ∀ x, a = some x → x.block < w.heap.size ∧ ¬ X x.block ∧ v.ownBlock ≠ some x.block

theorem Sts.chg {w w' : World} {X Y Z : Nat → Prop} {B : Nat} {v : Value} {Ss : List (List Int)} (h : Sts w X B v Ss) (hc : Chg Y w w') (hy : ∀ k, k < w.heap.size → Y k → X k) (hz : ∀ k, k < w.heap.size → Z k → X k) : Sts w' Z B v Ss := by
  obtain ⟨xs, ho, hv, hm⟩ := h
  refine ⟨xs, ownsRow_chg ho hc (fun g hg hyg => hv g hg (hy g (ho.lt g hg).2 hyg)), fun g hg hz' => hv g hg (hz g (ho.lt g hg).2 hz'), fun m hlt => ?_⟩
  obtain ⟨a, c, h1, h2, h3⟩ := hm m hlt
  refine ⟨a, c, h1, h2.chg hc (fun x hx hyx => (h3 x hx).2.1 (hy _ (h3 x hx).1 hyx)), fun x hx => ?_⟩
  obtain ⟨q1, q2, q3⟩ := h3 x hx
  exact ⟨Nat.lt_of_lt_of_le q1 hc.size, fun hzx => q2 (hz _ q1 hzx), q3⟩

theorem own_place {w : World} {B : Nat} {v : Value} {l : List Int} (h : Own w B v l) : ∃ a c, v = .slice a l.length c ∧ Lies w a l ∧ ∀ x, a = some x → B ≤ x.block ∧ x.block < w.heap.size := by
  rcases h.v_form with ⟨rfl, rfl⟩ | ⟨g, cap, rfl, _, _, h1, h2⟩
  · exact ⟨none, 0, rfl, Lies.nil _ _, fun x hx => by cases hx⟩
  · exact ⟨_, cap, rfl, Lies.mk (Own.lies h), fun x hx => by cases hx; exact ⟨h1, h2⟩⟩

theorem Sts.push {w w' : World} {X : Nat → Prop} {B : Nat} {v v' : Value} {Ss : List (List Int)} {xs : List Value} {s : List Int} {a : Option Addr} {c : Nat}
    (ho : w.ownsRow B 22 1 v Ss.length xs) (hv : ∀ g, v.ownBlock = some g → ¬ X g)
    (hm : ∀ m, m < Ss.length → ∃ a c, xs[m]? = some (.slice a (Ss.getD m []).length c) ∧ Lies w a (Ss.getD m []) ∧ ∀ x, a = some x → x.block < w.heap.size ∧ ¬ X x.block ∧ v.ownBlock ≠ some x.block)
    (hX : ∀ k, X k → k < w.heap.size) (ho' : w'.ownsRow B 22 1 v' (Ss.length + 1) (xs ++ [.slice a s.length c])) (hg : w.grownBy w' v.ownBlock) (hb : v'.ownBlock = v.ownBlock ∨ v'.ownBlock = some w.heap.size)
    (hl : Lies w a s) (ha : ∀ x, a = some x → x.block < w.heap.size ∧ ¬ X x.block ∧ v.ownBlock ≠ some x.block) : Sts w' X B v' (Ss ++ [s]) := by
  have hlen : xs.length = Ss.length := by have := ho.1; omega
  have keep : ∀ (a : Option Addr) (l : List Int), Lies w a l → (∀ x, a = some x → x.block < w.heap.size ∧ ¬ X x.block ∧ v.ownBlock ≠ some x.block) →
      Lies w' a l ∧ ∀ x, a = some x → x.block < w'.heap.size ∧ ¬ X x.block ∧ v'.ownBlock ≠ some x.block := by
    intro a l h1 h2
    refine ⟨h1.chg (Chg.of_grown hg) (fun x hx e => (h2 x hx).2.2 e.symm), fun x hx => ?_⟩
    obtain ⟨q1, q2, q3⟩ := h2 x hx
    refine ⟨Nat.lt_of_lt_of_le q1 hg.size, q2, ?_⟩
    rcases hb with e | e
    · rw [e]; exact q3
    · rw [e]; intro e'; simp at e'; omega
  refine ⟨_, by simpa using ho', fun g hgb => ?_, fun m hlt => ?_⟩
  · rcases hb with e | e
    · exact hv g (by rw [← e]; exact hgb)
    · rw [e] at hgb
      simp at hgb
      intro hx
      have := hX _ hx
      omega
  · simp at hlt
    rcases Nat.lt_or_ge m Ss.length with h1 | h1
    · obtain ⟨a1, c1, e1, l1, p1⟩ := hm m h1
      obtain ⟨k1, k2⟩ := keep a1 _ l1 p1
      have hgt : (Ss ++ [s]).getD m [] = Ss.getD m [] := by simp [List.getElem?_append_left h1]
      refine ⟨a1, c1, ?_, ?_, k2⟩
      · rw [hgt, List.getElem?_append_left (by omega)]; exact e1
      · rw [hgt]; exact k1
    · obtain rfl : m = Ss.length := by omega
      obtain ⟨k1, k2⟩ := keep a s hl ha
      have hgt : (Ss ++ [s]).getD Ss.length [] = s := by simp
      refine ⟨a, c, ?_, ?_, k2⟩
      · rw [hgt, List.getElem?_append_right (by omega)]; simp [hlen]
      · rw [hgt]; exact k1

theorem over_getD (m : List Int) (o : Nat) (l : List Int) (h : o + l.length ≤ m.length) (i : Nat) : (over m o l).getD i 0 = if o ≤ i ∧ i < o + l.length then l.getD (i - o) 0 else m.getD i 0 := by
  have ht : (m.take o).length = o := by simp; omega
  unfold over
  simp only [List.getD_eq_getElem?_getD]
  split
  · rename_i hi
    rw [List.getElem?_append_right (by omega), List.getElem?_append_left (by omega), ht]
  · rename_i hi
    rcases Nat.lt_or_ge i o with h1 | h1
    · rw [List.getElem?_append_left (by omega), List.getElem?_take_of_lt h1]
    · rw [List.getElem?_append_right (by omega), List.getElem?_append_right (by omega), ht, List.getElem?_drop]
      congr 2
      omega

/-- Writes of bytes, all within so many. -/
def Flat (n : Nat) (R : List Wr) : Prop := ∀ r ∈ R, r.cut = false ∧ r.at_ + r.p.length ≤ n

theorem laid_flat (r : Wr) (m : List Int) (hc : r.cut = false) (hle : r.at_ + r.p.length ≤ m.length) : laid r m = over m r.at_ r.p := by
  unfold laid
  rw [if_neg (by simp [hc])]
  congr 1
  rw [show r.at_ + r.p.length - m.length = 0 by omega]
  simp

theorem laidAll_len (n : Nat) : ∀ (R : List Wr) (b : List Int), Flat n R → b.length = n → (laidAll b R).length = n
  | [], b, _, h => h
  | r :: R, b, hf, h => by
    have hr := hf r (by simp)
    have : laidAll b (r :: R) = laidAll (laid r b) R := by simp [laidAll]
    rw [this]
    refine laidAll_len n R _ (fun x hx => hf x (by simp [hx])) ?_
    rw [laid_flat r b hr.1 (by omega), over_length (by omega), h]

theorem Flat.take {n : Nat} {R : List Wr} (h : Flat n R) (k : Nat) : Flat n (R.take k) := fun r hr => h r (List.mem_of_mem_take hr)

theorem left_some (b : List Int) (R : List Wr) (kp : List Bool) (hf : Flat b.length R) : ∀ k, k ≤ R.length → (left b R kp k).length = b.length ∧ ∀ i, ∃ j, j ≤ k ∧ (left b R kp k).getD i 0 = (laidAll b (R.take j)).getD i 0
  | 0, _ => ⟨rfl, fun i => ⟨0, Nat.le_refl _, by simp [left, laidAll]⟩⟩
  | k + 1, hk => by
    obtain ⟨hl, ih⟩ := left_some b R kp hf k (by omega)
    unfold left
    have hg : R.getD k Wr.none = R[k] := by simp [show k < R.length by omega]
    have hr := hf R[k] (List.getElem_mem _)
    split
    · rw [hg, laid_flat _ _ hr.1 (by omega)]
      refine ⟨by rw [over_length (by omega), hl], fun i => ?_⟩
      rw [over_getD _ _ _ (by omega)]
      split
      · refine ⟨k + 1, Nat.le_refl _, ?_⟩
        rename_i hi
        have hll := laidAll_len b.length (R.take k) b (hf.take k) rfl
        rw [List.take_succ_eq_append_getElem (by omega), laidAll_snoc, laid_flat _ _ hr.1 (by omega), over_getD _ _ _ (by omega), if_pos hi]
      · obtain ⟨j, hj, e⟩ := ih i
        exact ⟨j, by omega, e⟩
    · refine ⟨hl, fun i => ?_⟩
      obtain ⟨j, hj, e⟩ := ih i
      exact ⟨j, by omega, e⟩

/-- Within one sector a write is one piece, or none. -/
theorem cuts_one (at_ : Nat) (p : List Int) (h : at_ / 512 = (at_ + p.length) / 512) : cuts at_ p = if p = [] then [] else [(at_, p, false)] := by
  split
  · rename_i e; rw [e, cuts_nil]
  · rename_i e
    rw [cuts_step at_ p p.length e (by omega)]
    simp [cuts_nil]

theorem one_dat {ps : List Wr} {t : Nat} {p : List Int} (h : ps.map Wr.dat = [(t, p, false)]) : ∃ r, ps = [r] ∧ r.cut = false ∧ r.at_ = t ∧ r.p = p := by
  cases ps with
  | nil => simp at h
  | cons r ps =>
    cases ps with
    | nil =>
      simp [Wr.dat] at h
      exact ⟨r, rfl, h.2.2, h.1, h.2.1⟩
    | cons _ _ => simp at h

theorem same_sector (t m n : Nat) (hm : t + m ≤ n) (hn : n ≤ 3000) (h : (wrap64 ((t : Int).tdiv 512) != wrap64 ((wrap64 ((t : Int) + (m : Int))).tdiv 512)) = false) : t / 512 = (t + m) / 512 := by
  have hw1 : wrap64 ((t : Int) + (m : Int)) = ((t + m : Nat) : Int) := by unfold wrap64; omega
  have hd : ∀ n : Nat, (n : Int).tdiv 512 = ((n / 512 : Nat) : Int) := fun n => rfl
  rw [hw1, hd, hd] at h
  have hw2 : ∀ n : Nat, n < 100000 → wrap64 (n : Int) = n := fun n hn => by unfold wrap64; omega
  rw [hw2 _ (by omega), hw2 _ (by omega)] at h
  have h := of_decide_eq_true (p := ((t / 512 : Nat) : Int) = (((t + m) / 512 : Nat) : Int)) (by simpa using h)
  omega

theorem new1 (w : World) (t : TypeId) (x : Value) : ∀ (j : Nat) (u : Value), [x][j]? = some u → (w.alloc (.cells #[x] t)).cell? ((⟨w.heap.size, 0, none⟩ : Addr).add j) = some u := by
  intro j u hj
  match j, hj with
  | 0, hj =>
    have h : (w.alloc (.cells #[x] t)).heap[w.heap.size]? = some (.cells #[x] t) := heap_alloc_new w _
    simp at hj
    subst hj
    rw [Go.WideShapes.add_plain]
    simp only [World.cell?, h]
    rfl

end Go.Proofs.Ytnhbncbiflnapaa.Oct
