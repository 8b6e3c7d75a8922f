/- Are numbers from the least to the most? The bytes of sectors. -/
import Derived.Test.YtpbnjobjjnhplaaDoorPJbkGpb
import Derived.Test.YtpbnjobjjnhplaaDoorPTakEzc
import Derived.Deep.Cut
import Derived.Deep.CutRange
namespace Go.Proofs.YtpbnjobjjnhplaaDoor.Oct
open Go.RowKit

theorem wpList_exec {P : Program} {ops : Array Oper} {rest : List Oper} {o : Oper} {a : Act} {w w' : World} {Q : Exit → Act → World → Prop} {v : Value} (hg : o.guard = none) (hr : (execOp a.eval o).run P w = .ok (.value v) w')
    (h : wpList P ops Q rest (a.put o.dst v) w') : wpList P ops Q (o :: rest) a w := by
  refine wpList_plain hg fun K hK => ?_
  unfold Oper.wp
  rw [hr]
  exact hK _ _ h

theorem wpList_isop {P : Program} {ops : Array Oper} {rest : List Oper} {o : Oper} {a : Act} {w : World} {Q : Exit → Act → World → Prop} (op : Op) (_ : o.op = op) (h : wpList P ops Q (o :: rest) a w) : wpList P ops Q (o :: rest) a w := h

theorem exec_cmp {P : Program} {a : Act} {o : Oper} {op : BinOp} {t u : TypeId} {x y : Operand} {w : World} {p q b : Value} (ho : o.op = .binOp op t x y u) (hx : a.eval x = p) (hy : a.eval y = q)
    (hg : (eqGuard op t x y p q).run P w = .ok () w) (hb : (binOp op t p q).run P w = .ok b w) : (execOp a.eval o).run P w = .ok (.value b) w := by
  unfold execOp
  simp only [ho, hx, hy, Sem.run_bind, hg, hb, Result.andThen_ok, Sem.run_pure]

theorem exec_build {P : Program} {a : Act} {o : Oper} {t : TypeId} {parts : Array (Nat × Operand)} {w : World} {vs : List (Nat × Value)} {cs : Array Value} (ho : o.op = .build t parts) (hv : (parts.map fun (i, x) => (i, a.eval x)).toList = vs) (hb : P.built t vs = some cs) : (execOp a.eval o).run P w = .ok (.value (.agg cs)) w := by
  unfold execOp
  have h := run_build (P := P) w t (parts.map fun (i, x) => (i, a.eval x)) cs (by rw [hv]; exact hb)
  simp only [ho, Sem.run_bind, h, Result.andThen_ok, Sem.run_pure]

theorem eql_arr (w : World) (n : Nat) (t : TypeId) (ht : Tryd.prog.underlying t = some (.array n 5)) (l m : List Int) (hl : l.length = n) (hm : m.length = n) :
    (binOp .eql t (.agg (l.map (Value.int .u8)).toArray) (.agg (m.map (Value.int .u8)).toArray)).run Tryd.prog w = .ok (.bool (decide (l = m))) w := by
  rw [run_eql_struct, show (10000 : Nat) = 9998 + 2 from rfl, eq_arr w 9998 n t ht l m hl hm]
  rfl
theorem neq_E4 (w : World) (x y : E4) (hx : x.ok) (hy : y.ok) : (binOp .neq 66 (.agg x.cells.toArray) (.agg y.cells.toArray)).run Tryd.prog w = .ok (.bool (decide (x ≠ y))) w := by
  rw [run_neq_struct, eqf_E4 w x y hx hy]
  simp [Result.andThen]
theorem guard_E4 (w : World) (op : BinOp) (p q : Operand) (xs ys : Array Value) : (eqGuard op 66 p q (.agg xs) (.agg ys)).run Tryd.prog w = .ok () w := run_eqGuard_agg w op _ _ _ _ _ (by kernel_rfl)
theorem guard_16 (w : World) (op : BinOp) (p q : Operand) (xs ys : Array Value) : (eqGuard op 22 p q (.agg xs) (.agg ys)).run Tryd.prog w = .ok () w := run_eqGuard_agg w op _ _ _ _ _ (by kernel_rfl)
theorem built_E4 : Tryd.prog.built 66 [] = some E4.z.cells.toArray := by kernel_rfl
theorem built_16 : Tryd.prog.built 22 [] = some ((List.replicate 16 (0 : Int)).map (Value.int .u8)).toArray := by kernel_rfl

theorem copy16 (w : World) (g b so : Nat) (cur : Array Value) (hcur : cur.size = 16) (hg : Blk w g cur 22) (l : List Int) (hl : l.length = 16) (sLen scap : Nat) (h : 16 ≤ sLen) (hc : ∀ j v, (l.map (Value.int .u8))[j]? = some v → w.cell? ⟨b, so + j, none⟩ = some v) :
    (Builtin.copy_ #[31, 31] 3 #[.slice (some ⟨g, 0, none⟩) 16 16, .slice (some ⟨b, so, none⟩) sLen scap]).run Tryd.prog w = .ok (.int .i64 16) (w.setRow g (l.map (Value.int .u8)).toArray) := by
  have hm : (l.map (Value.int .u8)).length = 16 := by rw [List.length_map, hl]
  have := run_copy_row (P := Tryd.prog) w 31 31 3 5 g 0 16 16 ⟨b, so, none⟩ sLen scap cur 22 (l.map (Value.int .u8)) Tryd.underlying31 size5 hg (by rw [hm]; exact (Nat.min_eq_right h).symm)
    (fun j v hj => by rw [Go.WideShapes.add_plain]; exact hc j v hj) (by rw [hm, hcur]; omega) (by intro v hv; obtain ⟨x, _, rfl⟩ := List.mem_map.1 hv; rfl)
  refine this.trans ?_
  have e1 : (cur.toList.take 0 ++ l.map (Value.int .u8) ++ cur.toList.drop (0 + (l.map (Value.int .u8)).length)) = l.map (Value.int .u8) := by
    rw [hm, List.take_zero, List.nil_append, List.drop_of_length_le (by rw [Array.length_toList, hcur]; omega), List.append_nil]
  rw [e1, hm]
  rfl

theorem exec_cpy {P : Program} {a : Act} {o : Oper} {s x : Operand} {tD tS : TypeId} {v q v' : Value} {w w' : World} (ho : o.op = .call { callee := .builtin .copy, args := #[s, x], argTypes := #[tD, tS] }) (hs : a.eval s = v) (hx : a.eval x = q) (h : (Builtin.copy_ #[tD, tS] o.type #[v, q]).run P w = .ok v' w') : (execOp a.eval o).run P w = .ok (.value v') w' := by
  unfold execOp
  simp only [ho, resolve, invoke, builtin, Sem.run_bind, Sem.run_pure, Result.andThen_ok, List.map_toArray, List.map_cons, List.map_nil, hs, hx, h]

theorem E4.head (x : E4) (hx : x.ok) (j : Nat) (v : Value) (h : ((x.ids.take 16).map (Value.int .u8))[j]? = some v) : x.cells.toArray[j]? = some v := by
  have hj : j < 16 := by
    rcases Nat.lt_or_ge j 16 with h' | h'
    · exact h'
    · rw [List.getElem?_eq_none (by simp; omega)] at h; cases h
  rw [List.getElem?_toArray]
  unfold E4.cells
  rw [List.getElem?_append_left (by simp [hx.1]; omega)]
  rw [List.map_take, List.getElem?_take, if_pos hj] at h
  exact h

theorem setRow_blk {w : World} {g : Nat} {cur : Array Value} {t : TypeId} (h : Blk w g cur t) (cs : Array Value) : Blk (w.setRow g cs) g cs t := by
  unfold Blk at *
  simp [World.setRow, Array.getElem?_modify, h]

theorem setrow_belowG {R : Nat} {w u : World} {cs : Array Value} (h : Below w.heap.size w u) (hR : w.heap.size ≤ R) : Below w.heap.size w (u.setRow R cs) :=
  h.trans (Chg.below w.heap.size (X := fun i => i = R) (show Chg (fun i => i = R) u (u.setRow R cs) from ⟨rfl, rfl, rfl, by simp, fun k _ hk => setRow_other _ _ k _ hk⟩) h.size (fun i hi => by omega))

set_option maxHeartbeats 4000000 in
set_option maxRecDepth 100000 in
theorem none_any (x : E4) (hx : x.ok) (w : World) : Calls Tryd.prog 41 #[.agg x.cells.toArray] w fun e w' => e = .returned (.bool x.none) ∧ Below w.heap.size w w' := by
  obtain ⟨cs, hcs⟩ : ∃ cs, cs = x.cells.toArray := ⟨_, rfl⟩
  have hsz : cs.size = 114 := by rw [hcs]; exact E4.cells_len hx
  have hh := fun j v h => E4.head x hx j v h
  rw [← hcs] at hh ⊢
  have HX := hide hx
  clear hcs hx
  obtain ⟨H, hH⟩ : ∃ H, H = w.heap.size := ⟨_, rfl⟩
  go_enter Tryd.func41, Tryd.ntmps41
  go_upto_region 2 with fail
  obtain ⟨w2, hw2⟩ : ∃ w2, w2 = (w.alloc (.cells cs 66)).alloc (.cells ((List.replicate 16 (0 : Int)).map (Value.int .u8)).toArray 22) := ⟨_, rfl⟩
  have hB2 : Below w.heap.size w w2 := by rw [hw2]; exact ((Below.refl _ _).alloc (Nat.le_refl _) _).alloc (by simp) _
  have hE : Blk w2 H cs 66 := by rw [hw2, hH]; exact (Blk.new w _ _).below ((Below.refl _ _).alloc (Nat.le_refl _) _)
  have hZ : Blk w2 (H + 1) ((List.replicate 16 (0 : Int)).map (Value.int .u8)).toArray 22 := by
    rw [hw2, hH]
    have := Blk.new (w.alloc (.cells cs 66)) ((List.replicate 16 (0 : Int)).map (Value.int .u8)).toArray 22
    rwa [show (w.alloc (.cells cs 66)).heap.size = w.heap.size + 1 by simp] at this
  have hl16 : (x.ids.take 16).length = 16 := by rw [List.length_take, HX.out.1]; omega
  have hcp := copy16 w2.drew (H + 1) H 0 _ (by simp) hZ.drew (x.ids.take 16) hl16 32 32 (by omega) (fun j v hj => by rw [Nat.zero_add]; exact hE.drew.cell j v (hh j v hj))
  have hB3 : Below w.heap.size w (w2.drew.setRow (H + 1) ((x.ids.take 16).map (Value.int .u8)).toArray) := setrow_belowG hB2.drew (by omega)
  rw [← hH]
  show Code.wp _ _ _ _ ((w.alloc (.cells cs 66)).alloc (.cells ((List.replicate 16 (0 : Int)).map (Value.int .u8)).toArray 22))
  rw [← hw2]
  have HB3 := hide hB3
  have HHH := hide hH
  clear hH
  have HZ3 := hide (setRow_blk hZ.drew ((x.ids.take 16).map (Value.int .u8)).toArray)
  have HCP := hide hcp
  clear hB2 hE hZ hcp hB3

  refine b_region (S := fun _ => True) (F := (fun _ => true)) (by kernel_rfl) ?_
  refine b_take 0 (some 4) (.slice (some ⟨H + 1, 0, none⟩) 16 16) rfl rfl (by kernel_rfl) (by kernel_rfl) (by kernel_rfl) (by kernel_rfl) (by kernel_rfl) (fun _ _ _ h => h) (by rfl) trivial ?_ ?_
  · intro u hSu
    have hSw := hSu
    go_simp
  try simp only [Act.put, List.setIfInBounds_toArray, List.set_cons_zero, List.set_cons_succ]
  refine b_take 1 (some 5) (.pointer (some ⟨H, 0, none⟩)) rfl rfl (by kernel_rfl) (by kernel_rfl) (by kernel_rfl) (by kernel_rfl) (by kernel_rfl) (fun _ _ _ h => h) (by rfl) trivial ?_ ?_
  · intro u hSu
    have hSw := hSu
    go_simp
  try simp only [Act.put, List.setIfInBounds_toArray, List.set_cons_zero, List.set_cons_succ]
  refine b_take 2 (some 6) (.slice (some ⟨H, 0, none⟩) 32 32) rfl rfl (by kernel_rfl) (by kernel_rfl) (by kernel_rfl) (by kernel_rfl) (by kernel_rfl) (fun _ _ _ h => h) (by rfl) trivial ?_ ?_
  · intro u hSu
    have hSw := hSu
    go_simp
  try simp only [Act.put, List.setIfInBounds_toArray, List.set_cons_zero, List.set_cons_succ]
  refine b_val 3 (some 7) (.int .i64 16) (w2.drew.setRow (H + 1) ((x.ids.take 16).map (Value.int .u8)).toArray) (by kernel_rfl) rfl rfl rfl (exec_cpy rfl rfl rfl HCP.out) (fun _ => trivial) ?_
  refine b_done (by kernel_rfl) ?_ _

  have hcm := eql_arr (w2.drew.setRow (H + 1) ((x.ids.take 16).map (Value.int .u8)).toArray) 16 22 Tryd.underlying22 (x.ids.take 16) (List.replicate 16 0) (by rw [List.length_take, HX.out.1]; omega) (by simp)
  obtain ⟨A1, hA1⟩ : ∃ A1, A1 = ((x.ids.take 16).map (Value.int .u8)).toArray := ⟨_, rfl⟩
  rw [show ((List.replicate 16 (0 : Int)).map (Value.int .u8)).toArray = #[.int .u8 0, .int .u8 0, .int .u8 0, .int .u8 0, .int .u8 0, .int .u8 0, .int .u8 0, .int .u8 0, .int .u8 0, .int .u8 0, .int .u8 0, .int .u8 0, .int .u8 0, .int .u8 0, .int .u8 0, .int .u8 0] from rfl] at hcm
  have hA1s : A1.size = 16 := by rw [hA1]; simp [HX.out.1]
  rw [← hA1] at hcm
  rw [← hA1] at HZ3 HB3 ⊢
  clear HCP hw2 hh hA1 hsz
  go_wp2_with (first | (refine wpList_isop (.load 22 (.tmp 3)) rfl ?_; refine wpList_load_row rfl 22 (.tmp 3) rfl (H + 1) rfl 22 A1 (0, 0) _ HZ3.out Tryd.underlying22 rfl (by rw [hA1s]; kernel_rfl) ?_) | (refine wpList_isop (.binOp .eql 22 (.tmp 8) (.tmp 9) 22) rfl ?_; refine wpList_exec rfl (exec_cmp rfl rfl rfl (guard_16 _ _ _ _ _ _) hcm) ?_))
  go_ret
  exact ⟨rfl, HB3.out⟩

end Go.Proofs.YtpbnjobjjnhplaaDoor.Oct

namespace Go.Proofs.YtpbnjobjjnhplaaDoor.Oct
open Go.RowKit

set_option maxHeartbeats 2000000 in
theorem within1 (a b n : Int) (w : World) (g cap : Nat) (h0 : w.cell? ⟨g, 0, none⟩ = some (.int .i64 n)) :
    Calls Tryd.prog 25 #[.int .i64 a, .int .i64 b, .slice (some ⟨g, 0, none⟩) 1 cap] w fun e w' => e = .returned (.bool (decide (a ≤ n ∧ n ≤ b))) ∧ w' = w := by
  by_cases h1 : n < a
  · have d : decide (a ≤ n ∧ n ≤ b) = false := decide_eq_false (by omega)
    rw [d]
    clear d
    go_enter Tryd.func25, Tryd.ntmps25
    go_wp2_with fail
    refine wp_loop_rounds 2 ?_
    rw [rounds_succ]
    go_wp2_with fail
    go_ret
    exact ⟨rfl, rfl⟩
  · by_cases h2 : n > b
    · have d : decide (a ≤ n ∧ n ≤ b) = false := decide_eq_false (by omega)
      rw [d]
      clear d
      go_enter Tryd.func25, Tryd.ntmps25
      go_wp2_with fail
      refine wp_loop_rounds 2 ?_
      rw [rounds_succ]
      go_wp2_with fail
      go_ret
      exact ⟨rfl, rfl⟩
    · have d : decide (a ≤ n ∧ n ≤ b) = true := decide_eq_true (by omega)
      rw [d]
      clear d
      go_enter Tryd.func25, Tryd.ntmps25
      go_wp2_with fail
      refine wp_loop_rounds 2 ?_
      rw [rounds_succ]
      go_wp2_with fail
      rw [rounds_succ]
      go_wp2_with fail
      go_ret
      exact ⟨rfl, rfl⟩

set_option maxHeartbeats 2000000 in
theorem within2 (a b n m : Int) (w : World) (g cap : Nat) (h0 : w.cell? ⟨g, 0, none⟩ = some (.int .i64 n)) (k0 : w.cell? ⟨g, 1, none⟩ = some (.int .i64 m)) :
    Calls Tryd.prog 25 #[.int .i64 a, .int .i64 b, .slice (some ⟨g, 0, none⟩) 2 cap] w fun e w' => e = .returned (.bool (decide ((a ≤ n ∧ n ≤ b) ∧ a ≤ m ∧ m ≤ b))) ∧ w' = w := by
  by_cases hn : a ≤ n ∧ n ≤ b
  · have h1 : ¬ n < a := by omega
    have h2 : ¬ n > b := by omega
    by_cases h3 : m < a
    · have d : decide ((a ≤ n ∧ n ≤ b) ∧ a ≤ m ∧ m ≤ b) = false := decide_eq_false (by omega)
      rw [d]
      clear d hn
      go_enter Tryd.func25, Tryd.ntmps25
      go_wp2_with fail
      refine wp_loop_rounds 3 ?_
      rw [rounds_succ]
      go_wp2_with fail
      rw [rounds_succ]
      go_wp2_with fail
      go_ret
      exact ⟨rfl, rfl⟩
    · by_cases h4 : m > b
      · have d : decide ((a ≤ n ∧ n ≤ b) ∧ a ≤ m ∧ m ≤ b) = false := decide_eq_false (by omega)
        rw [d]
        clear d hn
        go_enter Tryd.func25, Tryd.ntmps25
        go_wp2_with fail
        refine wp_loop_rounds 3 ?_
        rw [rounds_succ]
        go_wp2_with fail
        rw [rounds_succ]
        go_wp2_with fail
        go_ret
        exact ⟨rfl, rfl⟩
      · have d : decide ((a ≤ n ∧ n ≤ b) ∧ a ≤ m ∧ m ≤ b) = true := decide_eq_true (by omega)
        rw [d]
        clear d hn
        go_enter Tryd.func25, Tryd.ntmps25
        go_wp2_with fail
        refine wp_loop_rounds 3 ?_
        rw [rounds_succ]
        go_wp2_with fail
        rw [rounds_succ]
        go_wp2_with fail
        rw [rounds_succ]
        go_wp2_with fail
        go_ret
        exact ⟨rfl, rfl⟩
  · have d : decide ((a ≤ n ∧ n ≤ b) ∧ a ≤ m ∧ m ≤ b) = false := decide_eq_false (by omega)
    rw [d]
    clear d
    by_cases h1 : n < a
    · clear hn
      go_enter Tryd.func25, Tryd.ntmps25
      go_wp2_with fail
      refine wp_loop_rounds 3 ?_
      rw [rounds_succ]
      go_wp2_with fail
      go_ret
      exact ⟨rfl, rfl⟩
    · have h2 : n > b := by omega
      clear hn
      go_enter Tryd.func25, Tryd.ntmps25
      go_wp2_with fail
      refine wp_loop_rounds 3 ?_
      rw [rounds_succ]
      go_wp2_with fail
      go_ret
      exact ⟨rfl, rfl⟩

def nearG (x : Int) : Prop := -9000000 ≤ x ∧ x ≤ 9000000

theorem span_any (f l : Int) (w : World) (hf : nearG f) (hl : nearG l) : Calls Tryd.prog 42 #[.int .i64 f, .int .i64 l] w fun e w' => e = .returned (.agg #[.int .i64 (f * 512), .int .i64 ((l + 1) * 512)]) ∧ Below w.heap.size w w' := by
  unfold nearG at hf hl
  have e1 : IntKind.i64.wrap (f * 512) = f * 512 := by rw [IntKind.wrap_i64]; omega
  have e2 : IntKind.i64.wrap (l + 1) = l + 1 := by rw [IntKind.wrap_i64]; omega
  have e3 : IntKind.i64.wrap ((l + 1) * 512) = (l + 1) * 512 := by rw [IntKind.wrap_i64]; omega
  clear hf hl
  go_enter Tryd.func42, Tryd.ntmps42
  go_wp2_with fail
  refine bodyPost_ret (results_cell_row rfl _ _ w.heap.size 59 _ (0, 0) _ rfl (Blk.new w _ _) Tryd.underlying59 rfl (by kernel_rfl)) rfl ⟨rfl, (Below.refl _ _).alloc (Nat.le_refl _) _⟩

/-- How many sectors the entries take. -/
theorem rowsOf_any (n : Nat) (w : World) (hn : n ≤ 1000000) : Calls Tryd.prog 61 #[.int .i64 (n : Int)] w fun e w' => e = .returned (.int .i64 (rowsG n)) ∧ w' = w := by
  have e1 : IntKind.i64.wrap ((n : Int) * 128) = (n : Int) * 128 := by rw [IntKind.wrap_i64]; omega
  have e2 : IntKind.i64.wrap ((n : Int) * 128 + 512) = (n : Int) * 128 + 512 := by rw [IntKind.wrap_i64]; omega
  have e3 : IntKind.i64.wrap ((n : Int) * 128 + 512 - 1) = (n : Int) * 128 + 511 := by rw [IntKind.wrap_i64]; omega
  have e4 : wrap64 (((n : Int) * 128 + 511).tdiv 512) = ((n : Int) * 128 + 511) / 512 := by
    rw [Int.tdiv_eq_ediv_of_nonneg (by omega)]
    unfold wrap64
    omega
  unfold rowsG
  clear hn
  go_enter Tryd.func61, Tryd.ntmps61
  go_wp2_with fail
  simp only [e4]
  go_ret
  exact ⟨rfl, rfl⟩
end Go.Proofs.YtpbnjobjjnhplaaDoor.Oct
