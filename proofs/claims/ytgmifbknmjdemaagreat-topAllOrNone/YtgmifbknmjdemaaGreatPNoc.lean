/- Union and Norm of sets of bytes, in contracts of one shape; slices.Concat and slices.Grow of the library at parts. -/
import Derived.Test.YtgmifbknmjdemaaGreatPSrt
import Derived.Test.YtgmifbknmjdemaaGreatPHsx
import Derived.Lib.AppendZeros
namespace Go.Proofs.YtgmifbknmjdemaaGreat.Oct
open Go.RowKit Go.Shelf

/-- A set as it lies: where, its capacity, its parts. -/
structure Row3 where
  a : Option Addr
  c : Nat
  L : List (Int × Int)

def Row3.nil : Row3 := ⟨none, 0, []⟩

/-- Sets lie from the address on. -/
def LiesS (w : World) (a : Option Addr) (S : List Row3) : Prop :=
  S = [] ∨ ∃ b off, a = some ⟨b, off, none⟩ ∧ b < w.heap.size ∧ ∀ k, k < S.length → w.cell? ⟨b, off + k, none⟩ = some (.slice (S.getD k Row3.nil).a (S.getD k Row3.nil).L.length (S.getD k Row3.nil).c) ∧ LiesE w (S.getD k Row3.nil).a (S.getD k Row3.nil).L

theorem liesE_cells {w : World} {x : Addr} {M : List (Int × Int)} (h : LiesE w (some x) M) : ∀ j u, (M.flatMap encE)[j]? = some u → w.cell? (x.add j) = some u := by
  intro j u hj
  have hjl : j < M.length * 2 := by
    rw [← flatE_len]
    exact (List.getElem?_eq_some_iff.1 hj).1
  rcases h with h | ⟨b, off, e, _, hc⟩
  · subst h; simp at hjl
  · cases e
    have hk : j / 2 < M.length := by omega
    obtain ⟨c0, c1⟩ := hc (j / 2) hk
    have hf := flatE_get M (j / 2) (j % 2) hk (by omega)
    rw [show j / 2 * 2 + j % 2 = j by omega, hj] at hf
    rw [Go.WideShapes.add_plain]
    have hm : j % 2 = 0 ∨ j % 2 = 1 := by omega
    rcases hm with hm | hm
    · rw [hm] at hf
      simp [encE] at hf
      rw [show off + j = off + j / 2 * 2 by omega, c0, hf]
      simp
    · rw [hm] at hf
      simp [encE] at hf
      rw [show off + j = off + j / 2 * 2 + 1 by omega, c1, hf]
      simp

theorem run_append_E {t ty : TypeId} (ht : Tryz.prog.underlying t = some (.slice 40)) (w : World) (B : Nat) (v : Value) (O M : List (Int × Int)) (hown : OwnE w B v O) (ad : Option Addr) (c : Nat) (hl : LiesE w ad M) (hlen : O.length + M.length ≤ 10000000) (hB : B ≤ w.heap.size) :
    ∃ v' w', (Builtin.append_ #[t, t] ty #[v, .slice ad M.length c]).run Tryz.prog w = .ok v' w' ∧ OwnE w' B v' (O ++ M) ∧ w.grownBy w' v.ownBlock := by
  obtain ⟨i, hi, hz0, hz1, hz2⟩ := info_parts info_E
  cases ad with
  | none =>
    have hm : M = [] := by
      rcases hl with h | ⟨b, off, h, _⟩
      · exact h
      · cases h
    subst hm
    refine ⟨v, w, ?_, by simpa using hown, World.grownBy.refl _ _⟩
    rcases hown.2 with ⟨rfl, _⟩ | ⟨g, cap, cur, rfl, _, _, hnc, _⟩
    · simp [Builtin.append_, run_underlying ht, sizeOf, typeInfo, hi, Builtin.lenOf, Builtin.firstCells]
    · simp [Builtin.append_, run_underlying ht, sizeOf, typeInfo, hi, Builtin.lenOf, Builtin.firstCells, hnc, storeCells]
  | some x =>
    obtain ⟨v', w', hrun, ho, hg, _⟩ := run_append_own (P := Tryz.prog) w B t ty 40 i (.agg #[.int .i64 0, .int .i64 0]) 2 16 ht hi hz0 hz1 hz2 rfl (by decide) v O.length (O.flatMap encE) hown x M.length c (M.flatMap encE) (flatE_len M)
      (liesE_cells hl) (by
        intro u hu
        obtain ⟨p, _, hp⟩ := List.mem_flatMap.1 hu
        simp [encE] at hp
        rcases hp with rfl | rfl <;> rfl) (by unfold maxLen; omega) (by omega) hB
    refine ⟨v', w', hrun, ?_, hg⟩
    unfold OwnE
    rw [List.flatMap_append, List.length_append]
    exact ho

theorem wpList_append_E {w : World} {ops : Array Oper} {rest : List Oper} {o : Oper} {a : Act} {Q : Exit → Act → World → Prop} (hgd : o.guard = none) (s x : Operand) (t : TypeId)
    (ho : o.op = .call { callee := .builtin .append, args := #[s, x], argTypes := #[t, t] }) (ht : Tryz.prog.underlying t = some (.slice 40)) (B : Nat) (v : Value) (O : List (Int × Int)) (hs : a.eval s = v) (hown : OwnE w B v O)
    (ad : Option Addr) (n c : Nat) (M : List (Int × Int)) (hx : a.eval x = .slice ad n c) (hn : n = M.length) (hl : LiesE w ad M) (hlen : O.length + M.length ≤ 10000000) (hB : B ≤ w.heap.size)
    (h : ∀ v' w', OwnE w' B v' (O ++ M) → w.grownBy w' v.ownBlock → wpList Tryz.prog ops Q rest (a.put o.dst v') w') : wpList Tryz.prog ops Q (o :: rest) a w := by
  subst hn
  obtain ⟨v', w', hrun, ho', hg⟩ := run_append_E (ty := o.type) ht w B v O M hown ad c hl hlen hB
  refine wpList_plain hgd fun K hK => ?_
  unfold Oper.wp
  simp [execOp, ho, resolve, invoke, builtin, hs, hx, hrun, Result.andThen]
  exact hK _ _ (h v' w' ho' hg)

set_option maxRecDepth 100000 in
set_option maxHeartbeats 1000000 in
theorem grow_any (w : World) (n : Nat) (hn : n ≤ 1000000) :
    Calls Tryz.prog 39 #[.slice none 0 0, .int .i64 n] w fun e w' => ∃ v, e = .returned v ∧ OwnE w' w.heap.size v [] ∧ Below w.heap.size w w' := by
  by_cases h0 : n = 0
  · subst h0
    go_enter Tryz.func39, Tryz.ntmps39
    go_wp2_with fail
    go_ret
    exact ⟨_, rfl, OwnE.nil _ _, Below.refl _ _⟩
  obtain ⟨i, hi, hz0, hz1, hz2⟩ := info_parts info_E
  have hrun := Go.Lib.run_append_nil_zeros (P := Tryz.prog) w 37 3 37 40 i (.agg #[.int .i64 0, .int .i64 0]) .i64 .i64 Tryz.underlying37 Tryz.underlying3 hi hz0 n (by omega) (by rw [hz1]; decide) (by omega) (by rw [hz2]; omega)
  have hge := grownCap_ge w n 0 40
  have hle := grownCap_le_maxLen w n 0 40 (by unfold maxLen; omega)
  generalize grownCap w n 0 40 = cap at *
  have hO : OwnE (w.drew.alloc (.cells (Builtin.zeroCells (Value.agg #[.int .i64 0, .int .i64 0]).cells n ++ Builtin.zeroCells (Value.agg #[.int .i64 0, .int .i64 0]).cells (cap - n)) 40)) w.heap.size (.slice (some ⟨w.heap.size, 0, none⟩) 0 cap) [] := by
    refine ⟨rfl, Or.inr ⟨w.heap.size, cap, _, rfl, Nat.le_refl _, heap_alloc_new w.drew _, by simp, hle, ?_, by simp⟩⟩
    rw [Array.size_append, size_zeroCells, size_zeroCells]
    simp [Value.cells]
    omega
  have hB : Below w.heap.size w (w.drew.alloc (.cells (Builtin.zeroCells (Value.agg #[.int .i64 0, .int .i64 0]).cells n ++ Builtin.zeroCells (Value.agg #[.int .i64 0, .int .i64 0]).cells (cap - n)) 40)) := (Below.refl _ w).drew.alloc (Nat.le_refl _) _
  have HO := hide hO
  have HB := hide hB
  have hn0 : (0 : Int) < (n : Int) := by omega
  clear hO hB hge hle
  generalize w.drew.alloc (.cells (Builtin.zeroCells (Value.agg #[.int .i64 0, .int .i64 0]).cells n ++ Builtin.zeroCells (Value.agg #[.int .i64 0, .int .i64 0]).cells (cap - n)) 40) = w2 at *
  go_enter Tryz.func39, Tryz.ntmps39
  go_wp2_with (at_builtin; refine Go.Lib.wpList_append_run _ rfl (.tmp 20) (.tmp 21) 37 3 rfl (.slice none 0 0) (.int .i64 n) rfl rfl (.slice (some ⟨w.heap.size, 0, none⟩) n cap) w2 hrun ?_)
  go_ret
  exact ⟨_, rfl, HO.out, HB.out⟩

def totS (S : List Row3) : Nat := (S.map (fun s => s.L.length)).sum
def catS (S : List Row3) : List (Int × Int) := S.flatMap (fun s => s.L)

theorem takeS (S : List Row3) (k : Nat) (hk : k < S.length) : S.take (k + 1) = S.take k ++ [S.getD k Row3.nil] := by
  have e : S.getD k Row3.nil = S[k] := by simp [hk]
  rw [List.take_succ_eq_append_getElem hk, e]

theorem totS_step (S : List Row3) (k : Nat) (hk : k < S.length) : totS (S.take (k + 1)) = totS (S.take k) + (S.getD k Row3.nil).L.length := by
  rw [takeS S k hk]
  simp [totS]

theorem catS_step (S : List Row3) (k : Nat) (hk : k < S.length) : catS (S.take (k + 1)) = catS (S.take k) ++ (S.getD k Row3.nil).L := by
  rw [takeS S k hk]
  simp [catS]

theorem totS_le (S : List Row3) (k : Nat) : totS (S.take k) ≤ totS S := by
  have e : totS S = totS (S.take k) + totS (S.drop k) := by
    conv => lhs; rw [← List.take_append_drop k S]
    simp only [totS, List.map_append, List.sum_append]
  omega

theorem catS_len (S : List Row3) : (catS S).length = totS S := by simp [catS, totS, List.length_flatMap]

set_option maxHeartbeats 2000000 in
set_option maxRecDepth 100000 in
theorem concat_any (w : World) (a : Option Addr) (c : Nat) (S : List Row3) (h : LiesS w a S) (hl : S.length ≤ 1000) (ht : totS S ≤ 1000000) :
    Calls Tryz.prog 24 #[.slice a S.length c] w fun e w' => ∃ v, e = .returned v ∧ OwnE w' w.heap.size v (catS S) ∧ Below w.heap.size w w' := by
  have HL := hide h
  have HTl := hide (totS_le S)
  clear h
  go_enter Tryz.func24, Tryz.ntmps24
  go_wp2_with fail
  go_loopw [3, 11] (fun s i wr => ∃ k : Nat, k ≤ S.length ∧ i = .int .i64 k ∧ s = .int .i64 ((totS (S.take k) : Nat) : Int) ∧ wr = w) (fun _ i _ => S.length - (intOf i).toNat)
  case atStart => exact ⟨0, by omega, rfl, by simp [totS], rfl⟩
  case round =>
    obtain ⟨k, hk, rfl, rfl, hwr⟩ := hrel
    have hwr2 := hwr.symm
    clear hwr
    subst hwr2
    by_cases hlt : k < S.length
    · rcases HL.out with hnil | ⟨b, off, ha, hb, hc⟩
      · rw [hnil] at hlt; simp at hlt
      subst ha
      obtain ⟨q0, _⟩ := hc k hlt
      have HSt := hide (totS_step S k hlt)
      have h1 := HTl.out k
      have h2 := HTl.out (k + 1)
      rw [HSt.out] at h2
      generalize totS (S.take k) = x at *
      generalize S.getD k Row3.nil = r at *
      have hk0 : (0 : Int) ≤ (k : Int) := by omega
      have hk1 : (k : Int) < (S.length : Int) := by omega
      obtain ⟨ra, rc, rL⟩ := r
      dsimp only at q0 HSt h2
      obtain ⟨n, hn⟩ : ∃ n, rL.length = n := ⟨_, rfl⟩
      rw [hn] at q0 HSt h2
      have hxn : (x : Int) + (n : Int) ≤ 1000000 := by omega
      have hxn0 : ¬ ((x : Int) + (n : Int) < 0) := by omega
      clear hc hn
      go_wp2_with fail
      go_roundw
      case rel => exact ⟨k + 1, by omega, by go_num, by rw [HSt.out]; go_num, trivial⟩
      case measure => simp [intOf]; omega
    · obtain rfl : k = S.length := by omega
      have hT : totS (S.take S.length) = totS S := by rw [List.take_length]
      rw [hT]
      have HG := hide (grow_any w (totS S) ht)
      clear hlt hT
      generalize htt : totS S = tt at *
      go_wp2_with fail
      refine HG.out.mono ?_
      rintro e w2 ⟨v2, rfl, ho2, hb2⟩
      have HO2 := hide ho2
      have HB2 := hide hb2
      clear ho2 hb2 HG
      go_wp2_with fail
      go_loopw [6, 27] (fun v i wr => ∃ k : Nat, k ≤ S.length ∧ i = .int .i64 k ∧ OwnE wr w.heap.size v (catS (S.take k)) ∧ Below w.heap.size w wr) (fun _ i _ => S.length - (intOf i).toNat)
      case atStart => exact ⟨0, by omega, rfl, HO2.out, HB2.out⟩
      case round =>
        obtain ⟨k, hk, rfl, ho, hbel⟩ := hrel
        have HO := hide ho
        have HBel := hide hbel
        clear ho hbel
        by_cases hlt : k < S.length
        · rcases HL.out with hnil | ⟨b, off, ha, hb, hc⟩
          · rw [hnil] at hlt; simp at hlt
          subst ha
          obtain ⟨q0, q1⟩ := hc k hlt
          have HSt := hide (catS_step S k hlt)
          have hcl : (catS (S.take k)).length + (S.getD k Row3.nil).L.length ≤ 1000000 := by
            rw [catS_len, ← totS_step S k hlt]
            have := HTl.out (k + 1)
            omega
          have r0 := (HBel.out.cell (p := ⟨b, off + k, none⟩) hb).trans q0
          have HQ1 := hide (q1.below HBel.out)
          generalize S.getD k Row3.nil = r at *
          obtain ⟨O, hO⟩ : ∃ O, O = catS (S.take k) := ⟨_, rfl⟩
          rw [← hO] at HO HSt hcl
          have hk0 : (0 : Int) ≤ (k : Int) := by omega
          have hk1 : (k : Int) < (S.length : Int) := by omega
          have hsz := HBel.out.size
          clear hc q0 q1 hO
          go_wp2_with (at_builtin; refine wpList_append_E rfl (.tmp 31) (.tmp 32) 37 rfl Tryz.underlying37 w.heap.size _ O rfl (by exact HO.out) r.a r.L.length r.c r.L rfl rfl (by exact HQ1.out) (by omega) (by exact hsz) ?_; intro v5 w5 ho5 hg5; have HO5 := hide ho5; have HB5 := hide (HBel.out.grown hg5 HBel.out.size (fun x hx => (World.ownsRow.lt HO.out x hx).1)); clear ho5 hg5)
          go_roundw
          case rel => exact ⟨k + 1, by omega, by go_num, by rw [HSt.out]; exact HO5.out, HB5.out⟩
          case measure => simp [intOf]; omega
        · obtain rfl : k = S.length := by omega
          have HO2 : Hid (OwnE wr w.heap.size _ (catS S)) := hide (by have := HO.out; rw [List.take_length] at this; exact this)
          go_wp2_with fail
          go_ret
          exact ⟨_, rfl, HO2.out, HBel.out⟩

set_option maxRecDepth 100000 in
set_option maxHeartbeats 1000000 in
theorem union_any (hS : SortSays) (w : World) (a : Option Addr) (c : Nat) (S : List Row3) (h : LiesS w a S) (hl : S.length ≤ 1000) (ht : totS S ≤ 1000000) :
    Calls Tryz.prog 12 #[.slice a S.length c] w fun e w' => ∃ v R, e = .returned v ∧ OwnE w' w.heap.size v R ∧ Normed (catS S) R ∧ Below w.heap.size w w' := by
  have HC := hide (concat_any w a c S h hl ht)
  have HS := hide hS
  clear h hS
  go_enter Tryz.func12, Tryz.ntmps12
  go_wp2_with fail
  refine HC.out.mono ?_
  rintro e w2 ⟨v2, rfl, ho2, hb2⟩
  obtain ⟨a2, c2, rfl, hl2, _, _, _⟩ := ho2.form
  have HN := hide (norm_any HS.out w2 a2 c2 (catS S) hl2 (by rw [catS_len]; omega))
  have HB := hide hb2
  clear ho2 hl2 hb2 HC
  go_wp2_with fail
  refine HN.out.mono ?_
  rintro e w3 ⟨v3, R, rfl, ho3, hn3, hb3⟩
  have HO := hide (ho3.mono HB.out.size)
  have HB := hide (HB.out.trans (hb3.mono HB.out.size))
  have HN3 := hide hn3
  clear ho3 hn3 hb3 HN
  go_wp2_with fail
  go_ret
  exact ⟨_, R, rfl, HO.out, HN3.out, HB.out⟩

theorem lies_sets (w : World) (a b : Option Addr) (c d : Nat) (A B : List (Int × Int)) (hA : LiesE w a A) (hB : LiesE w b B) :
    LiesS (w.alloc (.cells #[.slice a A.length c, .slice b B.length d] 37)) (some ⟨w.heap.size, 0, none⟩) [⟨a, c, A⟩, ⟨b, d, B⟩] := by
  have h9 := heap_alloc_new w (.cells #[.slice a A.length c, .slice b B.length d] 37)
  have hb : Below w.heap.size w (w.alloc (.cells #[.slice a A.length c, .slice b B.length d] 37)) := (Below.refl _ _).alloc (Nat.le_refl _) _
  refine Or.inr ⟨w.heap.size, 0, rfl, by simp, fun k hk => ?_⟩
  have : k = 0 ∨ k = 1 := by simp at hk; omega
  rcases this with rfl | rfl
  · exact ⟨by simp only [World.cell?, h9]; rfl, hA.below hb⟩
  · exact ⟨by simp only [World.cell?, h9]; rfl, hB.below hb⟩

theorem union_r (w : World) (a b : Option Addr) (c d : Nat) (A B : List (Int × Int)) (hA : LiesE w a A) (hB : LiesE w b B) (n : Nat) (hn : A.length + B.length ≤ n) (hn1 : n ≤ 1000000) :
    Calls Tryz.prog 12 #[.slice (some ⟨w.heap.size, 0, none⟩) 2 2] (w.alloc (.cells #[.slice a A.length c, .slice b B.length d] 37)) fun e w' => ∃ aR cR R, e = .returned (.slice aR R.length cR) ∧ LiesE w' aR R ∧ Form R ∧ (∀ x, InE R x ↔ InE A x ∨ InE B x) ∧ R.length ≤ n ∧ (∀ x, aR = some x → w.heap.size ≤ x.block ∧ x.block < w'.heap.size) ∧ Below w.heap.size w w' := by
  refine (union_any sort_says _ (some ⟨w.heap.size, 0, none⟩) 2 [⟨a, c, A⟩, ⟨b, d, B⟩] (lies_sets w a b c d A B hA hB) (by simp) (by simp [totS]; omega)).mono ?_
  rintro e w' ⟨v, R, rfl, ho, hn9, hb⟩
  have e9 : catS [⟨a, c, A⟩, ⟨b, d, B⟩] = A ++ B := by simp [catS]
  rw [e9] at hn9
  obtain ⟨aR, cR, rfl, hlr, _, _, hx⟩ := ho.form
  have hb0 : Below w.heap.size w (w.alloc (.cells #[.slice a A.length c, .slice b B.length d] 37)) := (Below.refl _ _).alloc (Nat.le_refl _) _
  have hl9 := hn9.len
  rw [List.length_append] at hl9
  exact ⟨aR, cR, R, rfl, hlr, hn9.form, fun x => (hn9.set x).trans (inE_append A B x), by omega, fun x e => ⟨Nat.le_trans hb0.size (hx x e).1, (hx x e).2.1⟩, hb0.trans (hb.mono hb0.size)⟩

theorem norm_r (w : World) (a : Option Addr) (c : Nat) (A : List (Int × Int)) (hA : LiesE w a A) (n : Nat) (hn : A.length ≤ n) (hn1 : n ≤ 1000000) :
    Calls Tryz.prog 9 #[.slice a A.length c] w fun e w' => ∃ aR cR R, e = .returned (.slice aR R.length cR) ∧ LiesE w' aR R ∧ Form R ∧ (∀ x, InE R x ↔ InE A x) ∧ R.length ≤ n ∧ (∀ x, aR = some x → w.heap.size ≤ x.block ∧ x.block < w'.heap.size) ∧ Below w.heap.size w w' := by
  refine (norm_any sort_says w a c A hA (by omega)).mono ?_
  rintro e w' ⟨v, R, rfl, ho, hn9, hb⟩
  obtain ⟨aR, cR, rfl, hlr, _, _, hx⟩ := ho.form
  exact ⟨aR, cR, R, rfl, hlr, hn9.form, hn9.set, Nat.le_trans hn9.len hn, fun x e => ⟨(hx x e).1, (hx x e).2.1⟩, hb⟩
end Go.Proofs.YtgmifbknmjdemaaGreat.Oct
