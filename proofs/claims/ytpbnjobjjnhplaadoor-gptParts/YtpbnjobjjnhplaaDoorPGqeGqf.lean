/- The table of a header; a table that is checked. -/
import Derived.Test.YtpbnjobjjnhplaaDoorPGqd
namespace Go.Proofs.YtpbnjobjjnhplaaDoor.Oct
open Go.RowKit

/-- The cells of what a header says alike. -/
def Hd.sc (h : Hd) : List Value := [.int .i64 h.fst, .int .i64 h.lst] ++ (h.id.map (Value.int .u8) ++ [.int .i64 h.cnt, .int .u32 h.sum])

theorem sc_len {h : Hd} (hid : h.id.length = 16) : h.sc.length = 20 := by
  unfold Hd.sc
  simp only [List.length_append, List.length_map, hid, List.length_cons, List.length_nil]

theorem sc_cells (h : Hd) : h.cells = h.sc ++ [.int .i64 h.own, .int .i64 h.oth, .int .i64 h.at_] := by
  unfold Hd.cells Hd.sc
  simp

theorem load_said {u : World} {R : Nat} {h : Hd} (hid : h.id.length = 16) (hk : Blk u R h.cells.toArray 105) : (Instr.loadAt 103 (.pointer (some ⟨R, 0, none⟩))).run Tryd.prog u = .ok (.agg h.sc.toArray) u := by
  have hl := run_loadVar_part (P := Tryd.prog) u R 0 103 h.sc _ (fun j v hj => by
    have hj2 : j < 20 := by rw [← sc_len hid]; exact (List.getElem?_eq_some_iff.1 hj).1
    have := hk.cell j v (by rw [List.getElem?_toArray, sc_cells, List.getElem?_append_left (by rw [sc_len hid]; exact hj2)]; exact hj)
    rw [Nat.zero_add]
    exact this) Tryd.underlying103 rfl (by rw [sc_len hid]; kernel_rfl)
  simp [Instr.loadAt, Instr.sureAddr, hl]

theorem sc_id {h : Hd} (hid : h.id.length = 16) : (h.sc.drop 2).take 16 = h.id.map (Value.int .u8) := by
  unfold Hd.sc
  show List.take 16 (h.id.map (Value.int .u8) ++ [.int .i64 h.cnt, .int .u32 h.sum]) = _
  exact List.take_left' (by rw [List.length_map, hid])
theorem sc_18 {h : Hd} (hid : h.id.length = 16) : h.sc[18]? = some (.int .i64 h.cnt) := by
  unfold Hd.sc
  rw [List.getElem?_append_right (by simp), List.getElem?_append_right (by simp [hid])]
  simp [hid]
theorem sc_19 {h : Hd} (hid : h.id.length = 16) : h.sc[19]? = some (.int .u32 h.sum) := by
  unfold Hd.sc
  rw [List.getElem?_append_right (by simp), List.getElem?_append_right (by simp [hid])]
  simp [hid]

theorem eq_intG (w : World) (x y : Int) : (Op.equalIn 9999 3 (.int .i64 x) (.int .i64 y)).run Tryd.prog w = .ok (decide (x = y)) w := by
  have h := run_equalIn_int w 9998 3 .i64 .i64 x y Tryd.underlying3
  exact h
theorem eq_u32G (w : World) (x y : Int) : (Op.equalIn 9999 100 (.int .u32 x) (.int .u32 y)).run Tryd.prog w = .ok (decide (x = y)) w := by
  have h := run_equalIn_int w 9998 100 .u32 .u32 x y Tryd.underlying100
  exact h

theorem eqf_said (w : World) (x y : Hd) (hx : x.id.length = 16) (hy : y.id.length = 16) : (Op.equalIn 10000 103 (.agg x.sc.toArray) (.agg y.sc.toArray)).run Tryd.prog w = .ok (decide (x.said = y.said)) w := by
  refine (run_equalIn_agg w 9999 103 _ _ (by kernel_rfl) (by kernel_rfl)).trans ?_
  have hf : (Tryd.prog.fieldsOf 103).toList.map (fun f => (f.name, f.type, f.offset)) = [("first", 2, 0), ("last", 2, 1), ("id", 22, 2), ("count", 3, 18), ("sum", 100, 19)] := by kernel_rfl
  obtain ⟨fs, hfs⟩ : ∃ fs, fs = (Tryd.prog.fieldsOf 103).toList := ⟨_, rfl⟩
  rw [← hfs] at hf ⊢
  clear hfs
  have hl : fs.length = 5 := by simpa using congrArg List.length hf
  obtain ⟨g0, g1, g2, g3, g4, rfl⟩ : ∃ g0 g1 g2 g3 g4, fs = [g0, g1, g2, g3, g4] := by match fs, hl with | [g0, g1, g2, g3, g4], _ => exact ⟨g0, g1, g2, g3, g4, rfl⟩
  simp only [List.map_cons, List.map_nil, List.cons.injEq, Prod.mk.injEq, and_true] at hf
  obtain ⟨⟨a0, b0, c0⟩, ⟨a1, b1, c1⟩, ⟨a2, b2, c2⟩, ⟨a3, b3, c3⟩, a4, b4, c4⟩ := hf
  have p0 := fun (z : Hd) => part_int w 2 .i64 0 z.sc (.int .i64 z.fst) Tryd.underlying2 rfl
  have p1 := fun (z : Hd) => part_int w 2 .i64 1 z.sc (.int .i64 z.lst) Tryd.underlying2 rfl
  have p2 := fun (z : Hd) (hz : z.id.length = 16) => (part_arr w 22 16 2 z.sc Tryd.underlying22 (by kernel_rfl)).trans (by rw [sc_id hz])
  have p3 := fun (z : Hd) (hz : z.id.length = 16) => part_int w 3 .i64 18 z.sc _ Tryd.underlying3 (sc_18 hz)
  have p4 := fun (z : Hd) (hz : z.id.length = 16) => part_int w 100 .u32 19 z.sc _ Tryd.underlying100 (sc_19 hz)
  rw [← c0] at p0
  rw [← c1] at p1
  rw [← c2] at p2
  rw [← c3] at p3
  rw [← c4] at p4
  have h4 := eqFields_step (P := Tryd.prog) (w := w) (d := 9999) (xs := x.sc.toArray) (ys := y.sc.toArray) (f := g4) (fs := []) (p := x.sum = y.sum) (q := True) (by rw [a4]; decide) (by rw [b4]; exact p4 x hx) (by rw [b4]; exact p4 y hy) (by rw [b4]; exact eq_u32G w x.sum y.sum) (by simp [Op.eqFields])
  have h3 := eqFields_step (P := Tryd.prog) (w := w) (d := 9999) (xs := x.sc.toArray) (ys := y.sc.toArray) (f := g3) (fs := [g4]) (p := x.cnt = y.cnt) (by rw [a3]; decide) (by rw [b3]; exact p3 x hx) (by rw [b3]; exact p3 y hy) (by rw [b3]; exact eq_intG w x.cnt y.cnt) h4
  have h2 := eqFields_step (P := Tryd.prog) (w := w) (d := 9999) (xs := x.sc.toArray) (ys := y.sc.toArray) (f := g2) (fs := [g3, g4]) (p := x.id = y.id) (by rw [a2]; decide) (by rw [b2]; exact p2 x hx) (by rw [b2]; exact p2 y hy) (by rw [b2]; exact eq_arr w 9997 16 22 Tryd.underlying22 x.id y.id hx hy) h3
  have h1 := eqFields_step (P := Tryd.prog) (w := w) (d := 9999) (xs := x.sc.toArray) (ys := y.sc.toArray) (f := g1) (fs := [g2, g3, g4]) (p := x.lst = y.lst) (by rw [a1]; decide) (by rw [b1]; exact p1 x) (by rw [b1]; exact p1 y) (by rw [b1]; exact eq_i64G w x.lst y.lst) h2
  have h0 := eqFields_step (P := Tryd.prog) (w := w) (d := 9999) (xs := x.sc.toArray) (ys := y.sc.toArray) (f := g0) (fs := [g1, g2, g3, g4]) (p := x.fst = y.fst) (by rw [a0]; decide) (by rw [b0]; exact p0 x) (by rw [b0]; exact p0 y) (by rw [b0]; exact eq_i64G w x.fst y.fst) h1
  refine h0.trans ?_
  congr 1
  refine decide_eq_decide.2 ?_
  unfold Hd.said
  simp

theorem neq_said (w : World) (x y : Hd) (hx : x.id.length = 16) (hy : y.id.length = 16) : (binOp .neq 103 (.agg x.sc.toArray) (.agg y.sc.toArray)).run Tryd.prog w = .ok (.bool (decide (x.said ≠ y.said))) w := by
  rw [run_neq_struct, eqf_said w x y hx hy]
  simp [Result.andThen]
theorem guard_said (w : World) (op : BinOp) (p q : Operand) (xs ys : Array Value) : (eqGuard op 103 p q (.agg xs) (.agg ys)).run Tryd.prog w = .ok () w := run_eqGuard_agg w op _ _ _ _ _ (by kernel_rfl)

set_option maxHeartbeats 1000000 in
theorem shead2_any (v : Value) (s : Int) (w : World) (hs : 0 ≤ s ∧ s ≤ 1000000000) :
    Calls Tryd.prog 53 #[.agg #[v, .int .i64 s]] w fun e w' => e = .returned (.int .i64 (s - 1)) ∧ Below w.heap.size w w' := by
  have e1 : IntKind.i64.wrap (s - 1) = s - 1 := by rw [IntKind.wrap_i64]; omega
  have y1 : (w.alloc (.cells #[v, .int .i64 s] 83)).cell? ⟨w.heap.size, 1, none⟩ = some (.int .i64 s) := (Blk.new w #[v, .int .i64 s] 83).cell 1 _ rfl
  have HB := hide ((Below.refl w.heap.size w).alloc (Nat.le_refl _) (.cells #[v, .int .i64 s] 83))
  clear hs
  go_enter Tryd.func53, Tryd.ntmps53
  go_wp2_with fail
  go_ret
  exact ⟨rfl, HB.out⟩

set_option maxHeartbeats 2000000 in
theorem stands_any (h : Hd) (hid : h.id.length = 16) (x y : Int) (w : World) :
    Calls Tryd.prog 54 #[.agg h.cells.toArray, .int .i64 x, .int .i64 y] w fun e w' => e = .returned (.bool (decide (h.own = x ∧ h.oth = y))) ∧ Below w.heap.size w w' := by
  have hc := hd_cells hid (Blk.new w h.cells.toArray 105)
  have HB := hide ((Below.refl w.heap.size w).alloc (Nat.le_refl _) (.cells h.cells.toArray 105))
  have y20 := hc.c20
  have y21 := hc.c21
  clear hc
  generalize h.cells.toArray = C at *
  by_cases h1 : h.own = x
  · by_cases h2 : h.oth = y
    · have hd := hide (show decide (h.own = x ∧ h.oth = y) = true by simp [h1, h2])
      rw [h1] at y20
      rw [h2] at y21
      clear h1 h2 hid
      go_enter Tryd.func54, Tryd.ntmps54
      go_wp2_with fail
      go_ret
      exact ⟨by rw [hd.out]; rfl, HB.out⟩
    · have hd := hide (show decide (h.own = x ∧ h.oth = y) = false by simp [h2])
      have hb : (h.oth == y) = false := by simpa using h2
      rw [h1] at y20
      clear h1 h2 hid
      go_enter Tryd.func54, Tryd.ntmps54
      go_wp2_with fail
      go_ret
      exact ⟨by rw [hd.out]; rfl, HB.out⟩
  · have hd := hide (show decide (h.own = x ∧ h.oth = y) = false by simp [h1])
    have hb : (h.own == x) = false := by simpa using h1
    clear h1 hid
    go_enter Tryd.func54, Tryd.ntmps54
    go_wp2_with fail
    go_ret
    exact ⟨by rw [hd.out]; rfl, HB.out⟩
end Go.Proofs.YtpbnjobjjnhplaaDoor.Oct

namespace Go.Proofs.YtpbnjobjjnhplaaDoor.Oct
open Go.RowKit

/-- The zero table's cells. -/
abbrev z22 : Array Value := #[.int .i64 0, .int .i64 0, .int .i64 0, .int .u8 0, .int .u8 0, .int .u8 0, .int .u8 0, .int .u8 0, .int .u8 0, .int .u8 0, .int .u8 0, .int .u8 0, .int .u8 0, .int .u8 0, .int .u8 0, .int .u8 0, .int .u8 0, .int .u8 0, .int .u8 0, .slice none 0 0, .int .i64 0, .int .i64 0]
theorem z22_eq : z22 = (zTb.cells (.slice none 0 0)).toArray := by kernel_rfl
theorem z22_size : (z22 : Array Value).size = 22 := by kernel_rfl
theorem z22_built : Tryd.prog.built 25 [] = some z22 := by kernel_rfl
theorem tb_size {t : Tb} {v : Value} (hid : t.id.length = 16) : (t.cells v).toArray.size = 22 := by
  unfold Tb.cells
  simp only [List.size_toArray, List.length_append, List.length_map, hid, List.length_cons, List.length_nil]
theorem tb_oneG (t : Tb) (a : Option Addr) (n c : Nat) : (t.cells (.slice a n c)).toArray.all (·.oneCell') = true := by
  rw [Array.all_eq_true']
  intro v hv
  rw [List.mem_toArray] at hv
  unfold Tb.cells at hv
  simp only [List.mem_append, List.mem_map, List.mem_cons, List.not_mem_nil, or_false] at hv
  rcases hv with (rfl | rfl | rfl) | ⟨x, _, rfl⟩ | rfl | rfl | rfl <;> rfl

theorem ret_tb {fn : Func} {p u : Tmp} (hr : fn.results = #[.cell p 25, .tmp u]) (tmps : Array Value) (w : World) (R : Nat) (cs : Array Value) (hs : cs.size = 22) (z : Value)
    (hp : tmps.getD p undef = .pointer (some ⟨R, 0, none⟩)) (hz : tmps.getD u undef = z) (hk : Blk w R cs 25) :
    (results fn tmps).run Tryd.prog w = .ok (.tuple #[.agg cs, z]) w := by
  rw [results_cell_tmp hr, hp, hz]
  simp only [asAddr, Sem.run_pure, Result.andThen_ok]
  rw [run_loadVar_row w R 25 25 _ (0, 0) _ hk Tryd.underlying25 rfl (by rw [hs]; kernel_rfl)]
  rfl

theorem load_id {u : World} {R : Nat} {h : Hd} (hid : h.id.length = 16) (hk : Blk u R h.cells.toArray 105) : (Instr.loadAt 22 (.pointer (some ⟨R, 2, none⟩))).run Tryd.prog u = .ok (.agg (h.id.map (Value.int .u8)).toArray) u := by
  have hl := run_loadVar_part (P := Tryd.prog) u R 2 22 (h.id.map (Value.int .u8)) _ (fun j v hj => by
    have := hk.cell (2 + j) v (by rw [List.getElem?_toArray]; unfold Hd.cells; rw [List.getElem?_append_right (by simp), List.getElem?_append_left (by have := (List.getElem?_eq_some_iff.1 hj).1; simp at *; omega)]; simpa using hj)
    exact this) Tryd.underlying22 rfl (by rw [List.length_map, hid]; kernel_rfl)
  simp [Instr.loadAt, Instr.sureAddr, hl]

/-- The table of a header. -/
def tabH (s : Int) (h : Hd) : Tb := ⟨s, h.fst, h.lst, h.id, [], 0, 0⟩

theorem built_tb (s x y : Int) (l : List Int) (hl : l.length = 16) (a : Option Addr) (n c : Nat) : Tryd.prog.built 25 [(0, .int .i64 s), (1, .int .i64 x), (2, .int .i64 y), (3, .agg (l.map (Value.int .u8)).toArray), (4, .slice a n c)] = some ((Tb.mk s x y l [] 0 0).cells (.slice a n c)).toArray := by
  obtain ⟨x0, x1, x2, x3, x4, x5, x6, x7, x8, x9, x10, x11, x12, x13, x14, x15, rfl⟩ : ∃ x0 x1 x2 x3 x4 x5 x6 x7 x8 x9 x10 x11 x12 x13 x14 x15, l = [x0, x1, x2, x3, x4, x5, x6, x7, x8, x9, x10, x11, x12, x13, x14, x15] := by match l, hl with | [x0, x1, x2, x3, x4, x5, x6, x7, x8, x9, x10, x11, x12, x13, x14, x15], _ => exact ⟨x0, x1, x2, x3, x4, x5, x6, x7, x8, x9, x10, x11, x12, x13, x14, x15, rfl⟩
  clear hl
  kernel_rfl

set_option maxHeartbeats 8000000 in
set_option maxRecDepth 100000 in
theorem stable_any (sv : Value) (s : Int) (h : Hd) (hid : h.id.length = 16) (a : Option Addr) (n c : Nat) (w : World) :
    Calls Tryd.prog 56 #[.agg #[sv, .int .i64 s], .agg h.cells.toArray, .slice a n c] w fun e w' => e = .returned (.agg ((tabH s h).cells (.slice a n c)).toArray) ∧ Below w.heap.size w w' := by
  obtain ⟨C, hC⟩ : ∃ C, C = h.cells.toArray := ⟨_, rfl⟩
  have HLi := fun u R (hk : Blk u R C 105) => load_id (u := u) (R := R) hid (by rw [← hC]; exact hk)
  have hc0 : C[0]? = some (.int .i64 h.fst) := by rw [hC]; rfl
  have hc1 : C[1]? = some (.int .i64 h.lst) := by rw [hC]; rfl
  have HBu := hide (built_tb s h.fst h.lst h.id hid a n c)
  obtain ⟨T, hT⟩ : ∃ T, T = ((tabH s h).cells (.slice a n c)).toArray := ⟨_, rfl⟩
  have hTs : T.size = 22 := by rw [hT]; exact tb_size hid
  have hTo : T.all (·.oneCell') = true := by rw [hT]; exact tb_oneG _ _ _ _
  rw [show ((Tb.mk s h.fst h.lst h.id [] 0 0).cells (.slice a n c)).toArray = T from hT.symm] at HBu
  rw [← hC, ← hT]
  have HTs := hide hTs
  have HTo := hide hTo
  obtain ⟨I, hI⟩ : ∃ I, I = (h.id.map (Value.int .u8)).toArray := ⟨_, rfl⟩
  rw [← hI] at HLi HBu
  obtain ⟨f, hf⟩ : ∃ f, f = h.fst := ⟨_, rfl⟩
  obtain ⟨g, hg⟩ : ∃ g, g = h.lst := ⟨_, rfl⟩
  rw [← hf] at hc0 HBu
  rw [← hg] at hc1 HBu
  clear hf hg hI hT hTs hTo hC hid
  have hz1 : (w.alloc (.cells #[sv, .int .i64 s] 83)).heap.size = w.heap.size + 1 := by simp
  have hz2 : ((w.alloc (.cells #[sv, .int .i64 s] 83)).alloc (.cells C 105)).heap.size = w.heap.size + 1 + 1 := by simp
  obtain ⟨Z, hZ⟩ : ∃ Z, Z = w.heap.size := ⟨_, rfl⟩
  obtain ⟨R, hR⟩ : ∃ R, R = w.heap.size + 1 := ⟨_, rfl⟩
  obtain ⟨R2, hR2⟩ : ∃ R, R = w.heap.size + 1 + 1 := ⟨_, rfl⟩
  obtain ⟨w3, hw3⟩ : ∃ w3, w3 = ((w.alloc (.cells #[sv, .int .i64 s] 83)).alloc (.cells C 105)).alloc (.cells z22 25) := ⟨_, rfl⟩
  have b1 : Below w.heap.size w (w.alloc (.cells #[sv, .int .i64 s] 83)) := (Below.refl _ _).alloc (Nat.le_refl _) _
  have b2 : Below w.heap.size w ((w.alloc (.cells #[sv, .int .i64 s] 83)).alloc (.cells C 105)) := b1.alloc b1.size _
  have b3 : Below w.heap.size w w3 := by rw [hw3]; exact b2.alloc b2.size _
  have k3 : Blk w3 R2 z22 25 := by rw [hw3, hR2, ← hz2]; exact Blk.new _ _ _
  have k2 : Blk w3 R C 105 := by
    rw [hw3, hR, ← hz1]
    exact (Blk.new (w.alloc (.cells #[sv, .int .i64 s] 83)) C 105).below ((Below.refl _ _).alloc (Nat.le_refl _) _)
  have k1 : Blk w3 Z #[sv, .int .i64 s] 83 := by
    rw [hw3, hZ]
    exact ((Blk.new w #[sv, .int .i64 s] 83).below ((Below.refl _ _).alloc (Nat.le_refl _) _)).below ((Below.refl _ _).alloc (Nat.le_refl _) _)
  have HZ := hide hZ
  have HR := hide hR
  have HR2 := hide hR2
  have HW3 := hide hw3
  have HB3 := hide b3
  have HK3 := hide k3
  have HK2 := hide k2
  have y1 := k1.cell 1 _ rfl
  have y2 := k2.cell 0 _ hc0
  have y3 := k2.cell 1 _ hc1
  have HLe := hide (show w.heap.size ≤ R2 by rw [hR2]; omega)
  clear hz1 hz2 hZ hR hR2 hw3 b1 b2 b3 k1 k2 k3 hc0 hc1
  go_enter Tryd.func56, Tryd.ntmps56
  go_upto_region 1 with fail
  rw [← HW3.out, ← HR2.out, ← HR.out, ← HZ.out]
  go_wp2_with (first | (refine wpList_isop (.load 22 (.tmp 16)) rfl ?_; refine wpList_exec rfl (exec_ld rfl rfl (HLi _ _ HK2.out)) ?_) | (refine wpList_isop (.build 25 #[(0, .tmp 8), (1, .tmp 11), (2, .tmp 14), (3, .tmp 17), (4, .tmp 18)]) rfl ?_; refine wpList_exec rfl (exec_build rfl (by kernel_rfl) HBu.out) ?_) | (refine wpList_isop (.store 25 (.tmp 6) (.tmp 19)) rfl ?_; refine wpList_store_row rfl 25 (.tmp 6) (.tmp 19) rfl R2 T rfl rfl 25 _ HK3.out (by rw [HTs.out]; kernel_rfl) (by rw [HTs.out]; kernel_rfl) HTo.out ?_))
  refine bodyPost_ret (results_cell_row rfl _ _ R2 25 T (0, 0) _ rfl (setRow_blk HK3.out _) Tryd.underlying25 rfl (by rw [HTs.out]; kernel_rfl)) rfl ?_
  exact ⟨rfl, setrow_belowG HB3.out HLe.out⟩

set_option maxHeartbeats 8000000 in
set_option maxRecDepth 100000 in
theorem checked_any (hSS : SortSays) (t : Tb) (a : Option Addr) (cap : Nat) (cs : Array Value) (hcs : cs = (t.cells (.slice a t.L.length cap)).toArray) (hid : t.id.length = 16) (hok : ∀ x ∈ t.L, x.ok) (hlen : t.L.length ≤ 1000000) (w : World) (hl : LiesEn w a t.L) :
    Calls Tryd.prog 57 #[.agg cs] w fun e w' => e = .returned (.tuple #[.agg (if t.chk = 0 then cs else z22), .int .i64 t.chk]) ∧ Below w.heap.size w w' := by
  have HCk := fun u hu => hide (Check_any hSS t a cap cs hcs hid hok hlen u hu)
  have hsz : cs.size = 22 := by rw [hcs]; exact tb_size hid
  have hone : cs.all (·.oneCell') = true := by rw [hcs]; exact tb_oneG _ _ _ _
  have HSz := hide hsz
  have HOn := hide hone
  have HZ1 := hide (show (z22 : Array Value).all (·.oneCell') = true by kernel_rfl)
  obtain ⟨er, her⟩ : ∃ er, er = t.chk := ⟨_, rfl⟩
  rw [← her] at HCk ⊢
  obtain ⟨rs, hrs⟩ : ∃ rs, rs = (if er = 0 then cs else z22) := ⟨_, rfl⟩
  rw [← hrs]
  have HRs := hide hrs
  clear hrs
  have hz1 : (w.alloc (.cells cs 25)).heap.size = w.heap.size + 1 := by simp
  obtain ⟨Z, hZ⟩ : ∃ Z, Z = w.heap.size := ⟨_, rfl⟩
  obtain ⟨R, hR⟩ : ∃ R, R = w.heap.size + 1 := ⟨_, rfl⟩
  obtain ⟨w2, hw2⟩ : ∃ w2, w2 = (w.alloc (.cells cs 25)).alloc (.cells z22 25) := ⟨_, rfl⟩
  have b1 : Below w.heap.size w (w.alloc (.cells cs 25)) := (Below.refl _ _).alloc (Nat.le_refl _) _
  have b2 : Below w.heap.size w w2 := by rw [hw2]; exact b1.alloc b1.size _
  have k2 : Blk w2 R z22 25 := by rw [hw2, hR, ← hz1]; exact Blk.new _ _ _
  have k1 : Blk w2 Z cs 25 := by
    rw [hw2, hZ]
    exact (Blk.new w cs 25).below ((Below.refl _ _).alloc (Nat.le_refl _) _)
  have HL2 := hide (hl.below b2)
  have HZ := hide hZ
  have HR := hide hR
  have HW2 := hide hw2
  have HB2 := hide b2
  have HK1 := hide k1
  have HK2 := hide k2
  have HLe := hide (show w.heap.size ≤ R by rw [hR]; omega)
  clear hz1 hZ hR hw2 b1 b2 k1 k2 hsz hone hcs hid hok hlen hl her hSS
  go_enter Tryd.func57, Tryd.ntmps57
  go_upto_region 1 with fail
  rw [← HW2.out, ← HR.out, ← HZ.out]
  go_upto_region 2 with (first | (refine wpList_isop (.load 25 (.tmp 1)) rfl ?_; refine wpList_exec rfl (exec_ld rfl rfl (loadT HK1.out HSz.out)) ?_) | (go_at_call 9; refine (HCk _ HL2.out).out.mono ?_; rintro e9 w3 ⟨rfl, h3⟩; have HB3 := hide (HB2.out.trans (h3.mono HB2.out.size)); have HK13 := hide (HK1.out.below h3); have HK23 := hide (HK2.out.below h3); clear h3))
  by_cases he : er = 0
  · have hif := hide (HRs.out.trans (if_pos he))
    have HE := hide he
    rw [he]
    clear he
    go_wp2_with (first | (refine wpList_isop (.load 25 (.tmp 1)) rfl ?_; refine wpList_exec rfl (exec_ld rfl rfl (loadT HK13.out HSz.out)) ?_) | (refine wpList_isop (.store 25 (.tmp 2) (.tmp 11)) rfl ?_; refine wpList_store_row rfl 25 (.tmp 2) (.tmp 11) rfl R cs rfl rfl 25 _ HK23.out (by rw [HSz.out]; kernel_rfl) (by rw [HSz.out]; kernel_rfl) HOn.out ?_))
    refine bodyPost_ret (ret_tb rfl _ _ R cs HSz.out _ rfl rfl (setRow_blk HK23.out _)) rfl ⟨?_, setrow_belowG HB3.out HLe.out⟩
    rw [hif.out, HE.out]
    rfl
  · have hif := hide (HRs.out.trans (if_neg he))
    have hne : (er != 0) = true := by simpa using he
    clear he
    go_wp2_with (first | (refine wpList_isop (.build 25 #[]) rfl ?_; refine wpList_exec rfl (exec_build rfl (by kernel_rfl) z22_built) ?_) | (refine wpList_isop (.store 25 (.tmp 2) (.tmp 9)) rfl ?_; refine wpList_store_row rfl 25 (.tmp 2) (.tmp 9) rfl R z22 rfl rfl 25 _ HK23.out (by kernel_rfl) rfl HZ1.out ?_))
    refine bodyPost_ret (ret_tb rfl _ _ R z22 z22_size _ rfl rfl (setRow_blk HK23.out _)) rfl ⟨?_, setrow_belowG HB3.out HLe.out⟩
    rw [hif.out]
    rfl
end Go.Proofs.YtpbnjobjjnhplaaDoor.Oct
