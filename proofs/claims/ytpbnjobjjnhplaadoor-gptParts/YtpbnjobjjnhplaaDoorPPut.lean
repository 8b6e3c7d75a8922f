/- put: a number into numbers that rise, once. -/
import Derived.Test.YtpbnjobjjnhplaaDoorPNor
namespace Go.Proofs.YtpbnjobjjnhplaaDoor.Oct
open Go.RowKit

def encI (x : Int) : Value := .int .i64 x

/-- Numbers lie from the address on. -/
def LiesI (w : World) (a : Option Addr) (l : List Int) : Prop :=
  l = [] ∨ ∃ b off, a = some ⟨b, off, none⟩ ∧ b < w.heap.size ∧ ∀ k, k < l.length → w.cell? ⟨b, off + k, none⟩ = some (.int .i64 (l.getD k 0))

theorem LiesI.below {w w' : World} {a : Option Addr} {l : List Int} (h : LiesI w a l) (hb : RowKit.Below w.heap.size w w') : LiesI w' a l := by
  rcases h with rfl | ⟨b, off, rfl, hlt, hc⟩
  · exact Or.inl rfl
  · exact Or.inr ⟨b, off, rfl, Nat.lt_of_lt_of_le hlt hb.size, fun k hk => (hb.cell (p := ⟨b, off + k, none⟩) hlt).trans (hc k hk)⟩

/-- A row of numbers of the call's own. -/
def OwnI (w : World) (B : Nat) (v : Value) (l : List Int) : Prop := w.ownsRow B 2 1 v l.length (l.map encI)

theorem OwnI.nil (w : World) (B : Nat) : OwnI w B (.slice none 0 0) [] := World.ownsRow_nil _ _ _ _

theorem OwnI.form {w : World} {B : Nat} {v : Value} {l : List Int} (h : OwnI w B v l) : ∃ a c, v = .slice a l.length c ∧ LiesI w a l ∧ l.length ≤ c ∧ c ≤ maxLen := by
  have h0 := h
  rcases h.2 with ⟨rfl, hn⟩ | ⟨g, cap, cur, rfl, hb, hh, h1, h2, h3, h4⟩
  · have : l = [] := List.length_eq_zero_iff.1 hn
    subst this
    exact ⟨none, 0, rfl, Or.inl rfl, by simp, by simp⟩
  · have hlt := (Array.getElem?_eq_some_iff.1 hh).1
    refine ⟨_, cap, rfl, Or.inr ⟨g, 0, rfl, hlt, fun k hk => ?_⟩, h1, h2⟩
    rw [Nat.zero_add]
    have hc := World.ownsRow.cells (g := g) h0 rfl k (.int .i64 (l.getD k 0)) (by simp [hk, encI])
    rw [Go.WideShapes.add_plain, Nat.zero_add] at hc
    exact hc

theorem OwnI.mono {w : World} {B B' : Nat} {v : Value} {l : List Int} (h : OwnI w B v l) (hb : B' ≤ B) : OwnI w B' v l := by
  refine ⟨h.1, ?_⟩
  rcases h.2 with h1 | ⟨g, cap, cur, h1, hg, hr⟩
  · exact Or.inl h1
  · exact Or.inr ⟨g, cap, cur, h1, Nat.le_trans hb hg, hr⟩

theorem info_I : (Tryd.prog.info? 2).map (fun i => (i.zero, i.size, i.bytes)) = some (some (.int .i64 0), 1, 8) := by kernel_rfl

/-- A number into numbers that rise, once. -/
def insI (n : Int) : List Int → List Int
  | [] => [n]
  | x :: l => if n ≤ x then (if n < x then n :: x :: l else x :: l) else x :: insI n l

theorem insI_cons (n x : Int) (l : List Int) : insI n (x :: l) = if n ≤ x then (if n < x then n :: x :: l else x :: l) else x :: insI n l := rfl

theorem insI_mem (n : Int) : ∀ (l : List Int) (x : Int), x ∈ insI n l ↔ x = n ∨ x ∈ l
  | [], x => by simp [insI]
  | y :: l, x => by
    unfold insI
    split
    · split
      · simp
      · have : n = y := by omega
        subst this
        simp
    · rw [List.mem_cons, insI_mem n l, List.mem_cons]
      constructor
      · rintro (h | h | h)
        · exact Or.inr (Or.inl h)
        · exact Or.inl h
        · exact Or.inr (Or.inr h)
      · rintro (h | h | h)
        · exact Or.inr (Or.inl h)
        · exact Or.inl h
        · exact Or.inr (Or.inr h)

theorem insI_rise (n : Int) : ∀ (l : List Int), l.Pairwise (· < ·) → (insI n l).Pairwise (· < ·)
  | [], _ => by simp [insI]
  | y :: l, h => by
    obtain ⟨h1, h2⟩ := List.pairwise_cons.1 h
    unfold insI
    split
    · split
      · refine List.pairwise_cons.2 ⟨fun x hx => ?_, h⟩
        rcases List.mem_cons.1 hx with rfl | hx
        · assumption
        · have := h1 x hx
          omega
      · exact h
    · refine List.pairwise_cons.2 ⟨fun x hx => ?_, insI_rise n l h2⟩
      rcases (insI_mem n l x).1 hx with rfl | hx
      · omega
      · exact h1 x hx

theorem insI_len (n : Int) : ∀ (l : List Int), (insI n l).length ≤ l.length + 1
  | [] => by simp [insI]
  | y :: l => by
    have := insI_len n l
    unfold insI
    split
    · split <;> simp
    · simp; omega

theorem take_stepI (l : List Int) (k : Nat) (hk : k < l.length) : l.take (k + 1) = l.take k ++ [l.getD k 0] := by
  have e : l.getD k 0 = l[k] := by simp [hk]
  rw [List.take_succ_eq_append_getElem hk, e]

theorem drop_stepI (l : List Int) (k : Nat) (hk : k < l.length) : l.drop k = l.getD k 0 :: l.drop (k + 1) := by
  have e : l.getD k 0 = l[k] := by simp [hk]
  rw [e]
  exact List.drop_eq_getElem_cons hk

/-- What stands when so many have been gone through. -/
def PutAt (n : Int) (l : List Int) (k : Nat) (d : Bool) (O : List Int) : Prop :=
  (d = false ∧ O = l.take k ∧ insI n l = l.take k ++ insI n (l.drop k)) ∨ (d = true ∧ O ++ l.drop k = insI n l)

theorem PutAt.less {n : Int} {l : List Int} {k : Nat} {O : List Int} (h : PutAt n l k false O) (hk : k < l.length) (hx : ¬ n ≤ l.getD k 0) : PutAt n l (k + 1) false (O ++ [l.getD k 0]) := by
  rcases h with ⟨_, h1, h2⟩ | ⟨h1, _⟩
  · refine Or.inl ⟨rfl, by rw [h1, take_stepI l k hk], ?_⟩
    rw [h2, drop_stepI l k hk, take_stepI l k hk, insI_cons, if_neg hx]
    simp
  · cases h1

theorem PutAt.more {n : Int} {l : List Int} {k : Nat} {O : List Int} (h : PutAt n l k false O) (hk : k < l.length) (hx : n < l.getD k 0) : PutAt n l (k + 1) true (O ++ [n] ++ [l.getD k 0]) := by
  rcases h with ⟨_, h1, h2⟩ | ⟨h1, _⟩
  · refine Or.inr ⟨rfl, ?_⟩
    rw [h2, drop_stepI l k hk, h1]
    rw [insI_cons, if_pos (by omega), if_pos hx]
    simp
  · cases h1

theorem PutAt.same {n : Int} {l : List Int} {k : Nat} {O : List Int} (h : PutAt n l k false O) (hk : k < l.length) (hx : n ≤ l.getD k 0) (hy : ¬ n < l.getD k 0) : PutAt n l (k + 1) true (O ++ [l.getD k 0]) := by
  rcases h with ⟨_, h1, h2⟩ | ⟨h1, _⟩
  · refine Or.inr ⟨rfl, ?_⟩
    rw [h2, drop_stepI l k hk, h1]
    rw [insI_cons, if_pos hx, if_neg hy]
    simp
  · cases h1

theorem PutAt.on {n : Int} {l : List Int} {k : Nat} {O : List Int} (h : PutAt n l k true O) (hk : k < l.length) : PutAt n l (k + 1) true (O ++ [l.getD k 0]) := by
  rcases h with ⟨h1, _⟩ | ⟨_, h1⟩
  · cases h1
  · refine Or.inr ⟨rfl, ?_⟩
    rw [← h1, drop_stepI l k hk]
    simp

theorem PutAt.len {n : Int} {l : List Int} {k : Nat} {d : Bool} {O : List Int} (h : PutAt n l k d O) : O.length ≤ l.length + 1 := by
  rcases h with ⟨_, h1, _⟩ | ⟨_, h1⟩
  · rw [h1]; simp; omega
  · have := congrArg List.length h1
    have h2 := insI_len n l
    simp at this
    omega

theorem new1 (w : World) (t : TypeId) (x : Value) : ∀ (j : Nat) (u : Value), [x][j]? = some u → (w.alloc (.cells #[x] t)).cell? ((⟨w.heap.size, 0, none⟩ : Addr).add j) = some u := by
  have h : (w.alloc (.cells #[x] t)).heap[w.heap.size]? = some (.cells #[x] t) := heap_alloc_new w _
  intro j u hj
  rw [Go.WideShapes.add_plain, Nat.zero_add]
  match j, hj with
  | 0, hj => simp at hj; subst hj; simp only [World.cell?, h]; rfl
  | _ + 1, hj => simp at hj

theorem own_grown {w : World} {B : Nat} {v : Value} {O : List Int} {x : Int} (h : w.ownsRow B 2 1 v (O.length + 1) (O.map encI ++ [.int .i64 x])) : OwnI w B v (O ++ [x]) := by
  unfold OwnI
  rw [List.map_append, List.length_append]
  exact h

theorem below_grown {w wr w5 : World} {v : Value} {O : List Int} {o : Obj} (hb : RowKit.Below w.heap.size w wr) (ho : OwnI wr w.heap.size v O) (hg : (wr.alloc o).grownBy w5 v.ownBlock) : RowKit.Below w.heap.size w w5 :=
  (hb.alloc hb.size o).grown hg (by have := hb.size; simp; omega) (fun q hq => (World.ownsRow.lt ho q hq).1)

set_option maxHeartbeats 4000000 in
set_option maxRecDepth 100000 in
theorem put_any (w : World) (a : Option Addr) (c : Nat) (l : List Int) (n : Int) (h : LiesI w a l) (hl : l.length ≤ 1000000) :
    Calls Tryd.prog 76 #[.slice a l.length c, .int .i64 n] w fun e w' => ∃ v, e = .returned v ∧ OwnI w' w.heap.size v (insI n l) ∧ RowKit.Below w.heap.size w w' := by
  obtain ⟨i1, hi, hz0, hz1, hz2⟩ := info_parts info_I
  have HL := hide h
  clear h
  go_enter Tryd.func76, Tryd.ntmps76
  go_wp2_with fail
  go_loopw [5, 6, 7] (fun v d i wr => ∃ (k : Nat) (db : Bool) (O : List Int), k ≤ l.length ∧ i = .int .i64 k ∧ d = .bool db ∧ PutAt n l k db O ∧ OwnI wr w.heap.size v O ∧ RowKit.Below w.heap.size w wr) (fun _ _ i _ => l.length - (intOf i).toNat)
  case atStart => exact ⟨0, false, [], by omega, by simp, rfl, Or.inl ⟨rfl, by simp, by simp⟩, OwnI.nil _ _, RowKit.Below.refl _ _⟩
  case round =>
    obtain ⟨k, db, O, hk, rfl, rfl, hp, ho, hbel⟩ := hrel
    have HO := hide ho
    have HBel := hide hbel
    have HP := hide hp
    have hOl := hp.len
    have hsz := hbel.size
    clear ho hbel hp
    obtain ⟨ao, co, hvo, _, hoc, hom⟩ := HO.out.form
    subst hvo
    by_cases hlt : k < l.length
    · rcases HL.out with hnil | ⟨b, off, ha, hb, hc⟩
      · rw [hnil] at hlt; simp at hlt
      subst ha
      have r0 := (HBel.out.cell (p := ⟨b, off + k, none⟩) hb).trans (hc k hlt)
      have hk0 : (0 : Int) ≤ (k : Int) := by omega
      have hk1 : (k : Int) < (l.length : Int) := by omega
      obtain ⟨x, hx⟩ : ∃ x, x = l.getD k 0 := ⟨_, rfl⟩
      have r00 := hc k hlt
      rw [← hx] at r0 r00
      have HR := hide r00
      have HX := hide hx
      clear hc hx r00
      have hsl : wr.heap.size < wr.heap.size + 1 := by omega
      cases db with
      | true =>
        have HQ := hide (HP.out.on hlt)
        rw [← HX.out] at HQ
        go_wp2_with (at_builtin; refine wpList_append_own_at _ rfl (.tmp 34) (.tmp 39) 87 rfl w.heap.size 2 i1 (.int .i64 0) 1 8 Tryd.underlying87 hi hz0 hz1 hz2 rfl (by decide) (.slice ao O.length co) O.length (O.map encI) rfl (World.ownsRow.alloc HO.out _) ⟨wr.heap.size, 0, none⟩ 1 1 [.int .i64 x] rfl rfl (new1 wr _ _) (by simp [Value.oneCell']) (by unfold maxLen; omega) (by omega) (by simp; omega) ?_; intro v5 w5 ho5 hg5 _ _; have HO5 := hide (own_grown ho5); have HB5 := hide (below_grown HBel.out HO.out hg5); clear ho5 hg5)
        refine ⟨⟨k + 1, true, _, by omega, by go_num, rfl, HQ.out, HO5.out, HB5.out⟩, ?_⟩
        simp [intOf]; omega
      | false =>
        by_cases hnx : n ≤ x
        · by_cases hny : n < x
          · have HQ := hide (HP.out.more hlt (by rw [← HX.out]; exact hny))
            rw [← HX.out] at HQ
            go_wp2_with (first | (at_builtin; refine wpList_append_own_at _ rfl (.tmp 30) (.tmp 32) 87 rfl w.heap.size 2 i1 (.int .i64 0) 1 8 Tryd.underlying87 hi hz0 hz1 hz2 rfl (by decide) (.slice ao O.length co) O.length (O.map encI) rfl (World.ownsRow.alloc HO.out _) ⟨wr.heap.size, 0, none⟩ 1 1 [.int .i64 n] rfl rfl (new1 wr _ _) (by simp [Value.oneCell']) (by unfold maxLen; omega) (by omega) (by simp; omega) ?_; intro v5 w5 ho5 hg5 _ _; have HO5 := hide (own_grown ho5); have HB5 := hide (below_grown HBel.out HO.out hg5); clear ho5 hg5; have r5 := (HB5.out.cell (p := ⟨b, off + k, none⟩) hb).trans HR.out) | (at_builtin; refine wpList_append_own_at _ rfl (.tmp 34) (.tmp 39) 87 rfl w.heap.size 2 i1 (.int .i64 0) 1 8 Tryd.underlying87 hi hz0 hz1 hz2 rfl (by decide) v5 (O ++ [n]).length ((O ++ [n]).map encI) rfl (World.ownsRow.alloc HO5.out _) ⟨w5.heap.size, 0, none⟩ 1 1 [.int .i64 x] rfl rfl (new1 w5 _ _) (by simp [Value.oneCell']) (by unfold maxLen; simp; omega) (by simp; omega) (by have := HB5.out.size; simp; omega) ?_; intro v6 w6 ho6 hg6 _ _; have HO6 := hide (own_grown ho6); have HB6 := hide (below_grown HB5.out HO5.out hg6); clear ho6 hg6))
            refine ⟨⟨k + 1, true, _, by omega, by go_num, rfl, HQ.out, HO6.out, HB6.out⟩, ?_⟩
            simp [intOf]; omega
          · have HQ := hide (HP.out.same hlt (by rw [← HX.out]; exact hnx) (by rw [← HX.out]; exact hny))
            rw [← HX.out] at HQ
            go_wp2_with (at_builtin; refine wpList_append_own_at _ rfl (.tmp 34) (.tmp 39) 87 rfl w.heap.size 2 i1 (.int .i64 0) 1 8 Tryd.underlying87 hi hz0 hz1 hz2 rfl (by decide) (.slice ao O.length co) O.length (O.map encI) rfl (World.ownsRow.alloc HO.out _) ⟨wr.heap.size, 0, none⟩ 1 1 [.int .i64 x] rfl rfl (new1 wr _ _) (by simp [Value.oneCell']) (by unfold maxLen; omega) (by omega) (by simp; omega) ?_; intro v5 w5 ho5 hg5 _ _; have HO5 := hide (own_grown ho5); have HB5 := hide (below_grown HBel.out HO.out hg5); clear ho5 hg5)
            refine ⟨⟨k + 1, true, _, by omega, by go_num, rfl, HQ.out, HO5.out, HB5.out⟩, ?_⟩
            simp [intOf]; omega
        · have HQ := hide (HP.out.less hlt (by rw [← HX.out]; exact hnx))
          rw [← HX.out] at HQ
          go_wp2_with (at_builtin; refine wpList_append_own_at _ rfl (.tmp 34) (.tmp 39) 87 rfl w.heap.size 2 i1 (.int .i64 0) 1 8 Tryd.underlying87 hi hz0 hz1 hz2 rfl (by decide) (.slice ao O.length co) O.length (O.map encI) rfl (World.ownsRow.alloc HO.out _) ⟨wr.heap.size, 0, none⟩ 1 1 [.int .i64 x] rfl rfl (new1 wr _ _) (by simp [Value.oneCell']) (by unfold maxLen; omega) (by omega) (by simp; omega) ?_; intro v5 w5 ho5 hg5 _ _; have HO5 := hide (own_grown ho5); have HB5 := hide (below_grown HBel.out HO.out hg5); clear ho5 hg5)
          refine ⟨⟨k + 1, false, _, by omega, by go_num, rfl, HQ.out, HO5.out, HB5.out⟩, ?_⟩
          simp [intOf]; omega
    · obtain rfl : k = l.length := by omega
      cases db with
      | true =>
        have hq : O = insI n l := by
          rcases HP.out with ⟨h1, _⟩ | ⟨_, h1⟩
          · cases h1
          · simpa using h1
        go_wp2_with fail
        go_ret
        rw [← hq]
        exact ⟨_, rfl, HO.out, HBel.out⟩
      | false =>
        have hq : O ++ [n] = insI n l := by
          rcases HP.out with ⟨_, h1, h2⟩ | ⟨h1, _⟩
          · rw [h1, h2]; simp [insI]
          · cases h1
        have HQ := hide hq
        clear hq
        go_wp2_with (at_builtin; refine wpList_append_own_at _ rfl (.tmp 43) (.tmp 45) 87 rfl w.heap.size 2 i1 (.int .i64 0) 1 8 Tryd.underlying87 hi hz0 hz1 hz2 rfl (by decide) (.slice ao O.length co) O.length (O.map encI) rfl (World.ownsRow.alloc HO.out _) ⟨wr.heap.size, 0, none⟩ 1 1 [.int .i64 n] rfl rfl (new1 wr _ _) (by simp [Value.oneCell']) (by unfold maxLen; omega) (by omega) (by simp; omega) ?_; intro v5 w5 ho5 hg5 _ _; have HO5 := hide (own_grown ho5); have HB5 := hide (below_grown HBel.out HO.out hg5); clear ho5 hg5)
        go_ret
        rw [← HQ.out]
        exact ⟨_, rfl, HO5.out, HB5.out⟩

end Go.Proofs.YtpbnjobjjnhplaaDoor.Oct
