/- The entries of their bytes. -/
import Derived.Test.YtpbnjobjjnhplaaDoorPGpq
namespace Go.Proofs.YtpbnjobjjnhplaaDoor.Oct
open Go.RowKit

/-- What an entry's bytes say. -/
def entOf (l : List Int) : E4 := ⟨l.take 32, numG l 32, numG l 40, (l.drop 48).take 80⟩

theorem entOf_ok (l : List Int) (h : l.length = 128) : (entOf l).ok := by
  unfold E4.ok entOf
  simp [h]

/-- Bytes copied to a place within a block. -/
theorem copy_in (w : World) (X o n b so sl sc : Nat) (cur : Array Value) (T : TypeId) (l : List Int) (hX : Blk w X cur T) (hl : l.length = n) (hn : n ≤ sl) (hf : o + n ≤ cur.size) (hc : ∀ j, j < n → w.cell? ⟨b, so + j, none⟩ = some (.int .u8 (l.getD j 0))) (m : Nat) :
    (Builtin.copy_ #[31, 31] 3 #[.slice (some ⟨X, o, none⟩) n m, .slice (some ⟨b, so, none⟩) sl sc]).run Tryd.prog w = .ok (.int .i64 (n : Int)) (w.setRow X (cur.toList.take o ++ l.map (Value.int .u8) ++ cur.toList.drop (o + n)).toArray) := by
  have h := run_copy_row (P := Tryd.prog) w 31 31 3 5 X o n m ⟨b, so, none⟩ sl sc cur T (l.map (Value.int .u8)) Tryd.underlying31 size5 hX (by rw [List.length_map, hl]; exact (Nat.min_eq_right hn).symm)
    (fun j v hj => by
      rw [Go.WideShapes.add_plain]
      have hjl : j < n := by rw [← hl, ← List.length_map (f := Value.int IntKind.u8)]; exact (List.getElem?_eq_some_iff.1 hj).1
      rw [hc j hjl]
      have hdl : j < l.length := by omega
      rw [List.getElem?_map, List.getElem?_eq_getElem hdl] at hj
      rw [List.getD_eq_getElem?_getD, List.getElem?_eq_getElem hdl]
      exact hj) (by rw [List.length_map, hl]; exact hf) (by intro v hv; obtain ⟨x, _, rfl⟩ := List.mem_map.1 hv; rfl)
  rw [List.length_map, hl] at h
  exact h

/-- Its cells, on the way. -/
def ent1 (l : List Int) : E4 := ⟨List.replicate 32 0, numG l 32, numG l 40, List.replicate 80 0⟩
def ent2 (l : List Int) : E4 := ⟨l.take 32, numG l 32, numG l 40, List.replicate 80 0⟩

theorem ent12 (l : List Int) : ((ent1 l).cells.toArray.toList.take 0 ++ (l.take 32).map (Value.int .u8) ++ (ent1 l).cells.toArray.toList.drop (0 + 32)) = (ent2 l).cells := by
  unfold ent1 ent2 E4.cells
  rw [List.take_zero, List.nil_append, Nat.zero_add]
  congr 1

theorem ent23 (l : List Int) (h : l.length = 128) : ((ent2 l).cells.toArray.toList.take 34 ++ ((l.drop 48).take 80).map (Value.int .u8) ++ (ent2 l).cells.toArray.toList.drop (34 + 80)) = (entOf l).cells := by
  have e1 : (l.take 32).length = 32 := by rw [List.length_take]; omega
  have e2 : (ent2 l).cells.drop (34 + 80) = [] := List.drop_of_length_le (by rw [E4.cells_len (show (ent2 l).ok from ⟨e1, by simp [ent2]⟩)]; omega)
  rw [show (ent2 l).cells.toArray.toList = (ent2 l).cells from rfl, e2, List.append_nil]
  unfold ent2 entOf E4.cells
  simp only []
  rw [← List.append_assoc, List.take_left' (by rw [List.length_append, List.length_map, e1]; rfl), List.append_assoc]

theorem built_ent (x y : Int) : Tryd.prog.built 66 [(1, .int .i64 x), (2, .int .i64 y)] = some (E4.mk (List.replicate 32 0) x y (List.replicate 80 0)).cells.toArray := by kernel_rfl

set_option maxHeartbeats 8000000 in
set_option maxRecDepth 100000 in
theorem decodeEntry_any (b off cap : Nat) (l : List Int) (w : World) (hlen : l.length = 128) (hcap : 128 ≤ cap) (hcm : cap ≤ maxLen) (hb : Byts l) (hl : Lies w (some ⟨b, off, none⟩) l) :
    Calls Tryd.prog 83 #[.slice (some ⟨b, off, none⟩) 128 cap] w fun e w' => e = .returned (.agg (entOf l).cells.toArray) ∧ Below w.heap.size w w' := by
  have nma := fun (p : Nat) (hp : p + 8 ≤ l.length) (u : World) (hu : Lies u (some ⟨b, off, none⟩) l) => hide (number_any (some ⟨b, off, none⟩) cap l p u (by rw [hlen]; unfold maxLen; omega) hb hu hp)
  rw [hlen] at nma
  have HN32 := nma 32 (by omega)
  push_cast at HN32
  have HN40 := nma 40 (by omega)
  push_cast at HN40
  obtain ⟨R, hR⟩ : ∃ R, R = w.heap.size := ⟨_, rfl⟩
  obtain ⟨w1, hw1⟩ : ∃ w1, w1 = w.alloc (.cells Tryd.zeroCells66 66) := ⟨_, rfl⟩
  have hb1 : Below w.heap.size w w1 := by rw [hw1]; exact (Below.refl _ _).alloc (Nat.le_refl _) _
  have hk1 : Blk w1 R Tryd.zeroCells66 66 := by rw [hw1, hR]; exact Blk.new _ _ _
  have HB1 := hide hb1
  have HK1 := hide hk1
  have HL1 := hide (hl.below hb1)
  have HHR := hide hR
  have HW1 := hide hw1
  have HLen := hide hlen
  have HCap := hide (And.intro hcap hcm)
  obtain ⟨C1, hC1⟩ : ∃ C, C = (ent1 l).cells.toArray := ⟨_, rfl⟩
  obtain ⟨C2, hC2⟩ : ∃ C, C = (ent2 l).cells.toArray := ⟨_, rfl⟩
  obtain ⟨C3, hC3⟩ : ∃ C, C = (entOf l).cells.toArray := ⟨_, rfl⟩
  have o1 : (ent1 l).ok := by unfold E4.ok ent1; simp
  have o2 : (ent2 l).ok := by unfold E4.ok ent2; simp [hlen]
  have o3 : (entOf l).ok := entOf_ok l hlen
  have HS1 := hide (show C1.size = 114 by rw [hC1]; exact E4.cells_len o1)
  have HS2 := hide (show C2.size = 114 by rw [hC2]; exact E4.cells_len o2)
  have HS3 := hide (show C3.size = 114 by rw [hC3]; exact E4.cells_len o3)
  have HO1 := hide (show C1.all (·.oneCell') = true by rw [hC1]; exact one_ent)
  have HO3 := hide (show C3.all (·.oneCell') = true by rw [hC3]; exact one_ent)
  have HZs := hide (show Tryd.zeroCells66.size = 114 by kernel_rfl)
  have HBu := hide (show Tryd.prog.built 66 [(1, .int .i64 (numG l 32)), (2, .int .i64 (numG l 40))] = some C1 by rw [hC1]; exact built_ent _ _)
  have h12 : (C1.toList.take 0 ++ (l.take 32).map (Value.int .u8) ++ C1.toList.drop (0 + 32)).toArray = C2 := by rw [hC1, hC2, ent12]
  have h23 : (C2.toList.take 34 ++ ((l.drop 48).take 80).map (Value.int .u8) ++ C2.toList.drop (34 + 80)).toArray = C3 := by rw [hC2, hC3, ent23 l hlen]
  have H12 := hide h12
  have H23 := hide h23
  have HC3 := hide hC3
  obtain ⟨n32, hn32⟩ : ∃ n, n = numG l 32 := ⟨_, rfl⟩
  obtain ⟨n40, hn40⟩ : ∃ n, n = numG l 40 := ⟨_, rfl⟩
  rw [← hn32] at HN32 HBu
  rw [← hn40] at HN40 HBu
  clear nma hlen hcap hcm hb hl hR hw1 hb1 hk1 hC1 hC2 hC3 o1 o2 o3 h12 h23 hn32 hn40
  go_enter Tryd.func83, Tryd.ntmps83
  go_upto_region 1 with fail
  rw [← HHR.out, ← HW1.out]
  go_wp2_with fail
  refine (HN32 _ HL1.out).out.mono ?_
  rintro e9 w6 ⟨rfl, h6⟩
  rw [h6]
  clear h6
  go_wp2_with fail
  refine (HN40 _ HL1.out).out.mono ?_
  rintro e9 w6 ⟨rfl, h6⟩
  rw [h6]
  clear h6
  go_upto_region 2 with (first | (refine wpList_isop (.build 66 #[(1, .tmp 5), (2, .tmp 7)]) rfl ?_; refine wpList_exec rfl (exec_build rfl (by kernel_rfl) HBu.out) ?_) | (refine wpList_isop (.store 66 (.tmp 3) (.tmp 8)) rfl ?_; refine wpList_store_row rfl 66 (.tmp 3) (.tmp 8) rfl w1.heap.size C1 rfl rfl 66 _ (Blk.new _ _ _) (by rw [HS1.out]; kernel_rfl) (by rw [HS1.out]; kernel_rfl) HO1.out ?_))
  obtain ⟨X, hX⟩ : ∃ X, X = w1.heap.size := ⟨_, rfl⟩
  obtain ⟨w2, hw2⟩ : ∃ w2, w2 = (w1.alloc (.cells Tryd.zeroCells66 66)).setRow w1.heap.size C1 := ⟨_, rfl⟩
  have hB0 : Below w1.heap.size w1 w2 := by rw [hw2]; exact setrow_belowG ((Below.refl _ _).alloc (Nat.le_refl _) _) (Nat.le_refl _)
  have hk2 : Blk w2 X C1 66 := by rw [hw2, hX]; exact setRow_blk (Blk.new _ _ _) _
  have hXl : w1.heap.size ≤ X := by omega
  rw [← hw2, ← hX]
  have hl2 := HL1.out.below hB0
  have hcp := copy_in w2 X 0 32 b off 128 cap C1 66 (l.take 32) hk2 (by have := HLen.out; rw [List.length_take]; omega) (by omega) (by rw [HS1.out]; omega) (fun j hj => by
    rcases hl2.takeG 32 with hn | ⟨b2, o2, e2, _, hc2⟩
    · have := HLen.out; have h0 : (l.take 32).length = 0 := (by rw [hn]; rfl)
      rw [List.length_take] at h0; omega
    · cases e2; exact hc2 j (by have := HLen.out; rw [List.length_take]; omega)) 32
  rw [H12.out] at hcp
  have HCP := hide hcp
  have hB1 : Below w1.heap.size w1 (w2.setRow X C2) := setrow_belowG hB0 hXl
  have hk3 : Blk (w2.setRow X C2) X C2 66 := setRow_blk hk2 _
  have HX := hide hX
  clear hw2 hX hB0 hk2 hXl hl2 hcp
  go_upto_region 3 with (first | (refine wpList_isop (.call { callee := .builtin .copy, args := #[.tmp 10, .tmp 11], argTypes := #[31, 31] }) rfl ?_; refine wpList_exec rfl (exec_cpy rfl rfl rfl HCP.out) ?_))
  generalize w2.setRow X C2 = w3 at hB1 hk3 ⊢
  have hXl : w1.heap.size ≤ X := by have := HX.out; omega
  have hl3 : Lies w3.drew (some ⟨b, off + 48, none⟩) (l.drop 48) := (HL1.out.below hB1.drew).dropG 48
  have hcp := copy_in w3.drew X 34 80 b (off + 48) 80 (cap - 48) C2 66 ((l.drop 48).take 80) hk3.drew (by have := HLen.out; rw [List.length_take, List.length_drop]; omega) (by omega) (by rw [HS2.out]; omega) (fun j hj => by
    rcases hl3.takeG 80 with hn | ⟨b2, o2, e2, _, hc2⟩
    · have := HLen.out; have h0 : ((l.drop 48).take 80).length = 0 := (by rw [hn]; rfl)
      rw [List.length_take, List.length_drop] at h0; omega
    · cases e2; exact hc2 j (by have := HLen.out; rw [List.length_take, List.length_drop]; omega)) 80
  rw [H23.out] at hcp
  have HCQ := hide hcp
  have HR8 := hide (show Blk (w3.drew.setRow X C3) R Tryd.zeroCells66 66 from ((HK1.out.below hB1).drew).chg (X := fun i => i = X) ⟨rfl, rfl, rfl, by simp, fun i _ hi => setRow_other _ _ i _ hi⟩ (by have := HK1.out.lt; omega))
  have HX8 := hide (show Blk (w3.drew.setRow X C3) X C3 66 from setRow_blk hk3.drew _)
  have HB8 := hide (show Below w.heap.size w (w3.drew.setRow X C3) from setrow_belowG (HB1.out.trans (hB1.drew.mono HB1.out.size)) (by have := HB1.out.size; omega))
  have k48 : ¬ (128 : Int) < 48 := by decide
  have k49 : ¬ cap = 48 := by have := HCap.out.1; omega
  clear hB1 hk3 hXl hl3 hcp HCP

  refine b_region (S := fun _ => True) (F := (fun _ => true)) (by kernel_rfl) ?_
  refine b_take 0 (some 13) (.pointer (some ⟨X, 34, none⟩)) rfl rfl (by kernel_rfl) (by kernel_rfl) (by kernel_rfl) (by kernel_rfl) (by kernel_rfl) (fun _ _ _ h => h) (by rfl) trivial ?_ ?_
  · intro u hSu
    have hSw := hSu
    go_simp
  try simp only [Act.put, List.setIfInBounds_toArray, List.set_cons_zero, List.set_cons_succ]
  refine b_take 1 (some 14) (.slice (some ⟨X, 34, none⟩) 80 80) rfl rfl (by kernel_rfl) (by kernel_rfl) (by kernel_rfl) (by kernel_rfl) (by kernel_rfl) (fun _ _ _ h => h) (by rfl) trivial ?_ ?_
  · intro u hSu
    have hSw := hSu
    go_simp
  try simp only [Act.put, List.setIfInBounds_toArray, List.set_cons_zero, List.set_cons_succ]
  refine b_take 2 (some 15) (.slice (some ⟨b, off, none⟩) 128 cap) rfl rfl (by kernel_rfl) (by kernel_rfl) (by kernel_rfl) (by kernel_rfl) (by kernel_rfl) (fun _ _ _ h => h) (by rfl) trivial ?_ ?_
  · intro u hSu
    have hSw := hSu
    go_simp
  try simp only [Act.put, List.setIfInBounds_toArray, List.set_cons_zero, List.set_cons_succ]
  refine b_take 3 (some 16) (.slice (some ⟨b, off + 48, none⟩) 80 (cap - 48)) rfl rfl (by kernel_rfl) (by kernel_rfl) (by kernel_rfl) (by kernel_rfl) (by kernel_rfl) (fun _ _ _ h => h) (by rfl) trivial ?_ ?_
  · intro u hSu
    have hSw := hSu
    go_simp
  try simp only [Act.put, List.setIfInBounds_toArray, List.set_cons_zero, List.set_cons_succ]
  refine b_val 4 (some 17) (.int .i64 80) (w3.drew.setRow X C3) (by kernel_rfl) rfl rfl rfl (exec_cpy rfl rfl rfl HCQ.out) (fun _ => trivial) ?_
  refine b_done (by kernel_rfl) ?_ _

  go_wp2_with (first | (refine wpList_isop (.load 66 (.tmp 3)) rfl ?_; refine wpList_load_row rfl 66 (.tmp 3) rfl X rfl 66 C3 (0, 0) _ HX8.out Tryd.underlying66 rfl (by rw [HS3.out]; kernel_rfl) ?_) | (refine wpList_isop (.store 66 (.tmp 2) (.tmp 18)) rfl ?_; refine wpList_store_row rfl 66 (.tmp 2) (.tmp 18) rfl R C3 rfl rfl 66 _ HR8.out (by rw [HS3.out]; kernel_rfl) (by rw [HS3.out]; kernel_rfl) HO3.out ?_))
  refine bodyPost_ret (results_cell_row rfl _ _ R 66 _ (0, 0) _ rfl (setRow_blk HR8.out _) Tryd.underlying66 rfl (by rw [HS3.out]; kernel_rfl)) rfl ⟨by rw [HC3.out], setrow_belowG HB8.out (by have := HHR.out; omega)⟩
end Go.Proofs.YtpbnjobjjnhplaaDoor.Oct

namespace Go.Proofs.YtpbnjobjjnhplaaDoor.Oct
open Go.RowKit

/-- Rows of entries, the call's own. -/
def OwnG (w : World) (B : Nat) (v : Value) (L : List E4) : Prop := w.ownsRow B 66 114 v L.length (L.flatMap E4.cells)

theorem flatG_get : ∀ (L : List E4) (k j : Nat) (x : E4), (∀ y ∈ L, y.ok) → L[k]? = some x → j < 114 → (L.flatMap E4.cells)[k * 114 + j]? = x.cells[j]?
  | [], k, j, x, _, h, _ => by simp at h
  | y :: L, 0, j, x, ho, h, hj => by
    simp at h
    subst h
    simp only [List.flatMap_cons, Nat.zero_mul, Nat.zero_add]
    rw [List.getElem?_append_left (by rw [E4.cells_len (ho y (by simp))]; exact hj)]
  | y :: L, k + 1, j, x, ho, h, hj => by
    simp only [List.flatMap_cons]
    have hl := E4.cells_len (ho y (by simp))
    rw [List.getElem?_append_right (by rw [hl]; omega), hl, ← flatG_get L k j x (fun z hz => ho z (List.mem_cons_of_mem _ hz)) (by simpa using h) hj]
    congr 1
    omega

theorem flatG_len : ∀ (L : List E4), (∀ y ∈ L, y.ok) → (L.flatMap E4.cells).length = L.length * 114
  | [], _ => rfl
  | y :: L, ho => by
    simp only [List.flatMap_cons, List.length_append, List.length_cons]
    rw [E4.cells_len (ho y (by simp)), flatG_len L (fun z hz => ho z (List.mem_cons_of_mem _ hz))]
    omega

theorem OwnG.nil (w : World) (B : Nat) : OwnG w B (.slice none 0 0) [] := World.ownsRow_nil _ _ _ _
theorem OwnG.baseG {w : World} {B : Nat} {v : Value} {L : List E4} (h : OwnG w B v L) : ∀ g, v.ownBlock = some g → B ≤ g := fun g hg => (World.ownsRow.lt h g hg).1
theorem OwnG.chg {X : Nat → Prop} {w w' : World} {B : Nat} {v : Value} {L : List E4} (h : OwnG w B v L) (hg : Chg X w w') (hne : ∀ g, v.ownBlock = some g → ¬ X g) : OwnG w' B v L := ownsRow_chg h hg hne
theorem OwnG.below {w w' : World} {B : Nat} {v : Value} {L : List E4} (h : OwnG w B v L) (hb : Below w.heap.size w w') : OwnG w' B v L :=
  h.chg (X := fun i => w.heap.size ≤ i) ⟨hb.os, hb.tape, hb.output, hb.size, fun i hi _ => hb.block i hi⟩ (fun g hg h2 => by have := (World.ownsRow.lt h g hg).2; omega)

theorem OwnG.lies {w : World} {B : Nat} {v : Value} {L : List E4} (h : OwnG w B v L) (ho : ∀ y ∈ L, y.ok) : ∃ a c, v = .slice a L.length c ∧ LiesEn w a L := by
  have h0 := h
  rcases h.2 with ⟨rfl, hn⟩ | ⟨g, cap, cur, rfl, hb, hh, h1, h2, h3, h4⟩
  · have hL : L = [] := List.length_eq_zero_iff.1 hn
    subst hL
    exact ⟨none, 0, rfl, Or.inl rfl⟩
  · have hlt := (Array.getElem?_eq_some_iff.1 hh).1
    refine ⟨_, cap, rfl, Or.inr ⟨g, 0, rfl, hlt, fun k x hk j u hj => ?_⟩⟩
    have hj2 : j < 114 := by rw [← E4.cells_len (ho x (List.mem_of_getElem? hk))]; exact (List.getElem?_eq_some_iff.1 hj).1
    have hc := World.ownsRow.cells (g := g) h0 rfl
    have := hc (k * 114 + j) u (by rw [flatG_get L k j x ho hk hj2]; exact hj)
    rw [Go.WideShapes.add_plain] at this
    rw [Nat.add_assoc]
    exact this

theorem infoG : (Tryd.prog.info? 66).map (fun i => (i.zero, i.size, i.bytes)) = some (some (.agg Tryd.zeroCells66), 114, 128) := by kernel_rfl

theorem wpList_append_En {w : World} {ops : Array Oper} {rest : List Oper} {o : Oper} {a : Act} {Q : Exit → Act → World → Prop} (hgd : o.guard = none) (s x : Operand) (t : TypeId)
    (ho : o.op = .call { callee := .builtin .append, args := #[s, x], argTypes := #[t, t] }) (ht : Tryd.prog.underlying t = some (.slice 66)) (B : Nat) (v : Value) (O : List E4) (hs : a.eval s = v) (hown : OwnG w B v O)
    (b n : Nat) (z : E4) (hz : z.ok) (hx : a.eval x = .slice (some ⟨b, 0, none⟩) 1 n) (hc : ∀ j u, z.cells[j]? = some u → w.cell? ⟨b, j, none⟩ = some u) (hlen : O.length + 1 ≤ 10000000) (hB : B ≤ w.heap.size)
    (h : ∀ v' w', OwnG w' B v' (O ++ [z]) → w.grownBy w' v.ownBlock → wpList Tryd.prog ops Q rest (a.put o.dst v') w') : wpList Tryd.prog ops Q (o :: rest) a w := by
  obtain ⟨i, hi, hz0, hz1, hz2⟩ := info_parts infoG
  refine wpList_append_own_at _ hgd s x t ho B 66 i (.agg Tryd.zeroCells66) 114 128 ht hi hz0 hz1 hz2 (by kernel_rfl) (by decide) v O.length (O.flatMap E4.cells) hs hown ⟨b, 0, none⟩ 1 n z.cells hx (by rw [E4.cells_len hz]) ?_ ?_ (by unfold maxLen; omega) (by omega) hB ?_
  · intro j u hj
    rw [Go.WideShapes.add_plain, Nat.zero_add]
    exact hc j u hj
  · intro u hu
    have h1 := one_ent (x := z)
    rw [Array.all_eq_true'] at h1
    exact h1 u (by simpa using hu)
  · intro v' w' ho' hg _ _
    refine h v' w' ?_ hg
    unfold OwnG
    rw [List.flatMap_append, List.length_append]
    simpa using ho'

/-- The entries of bytes. -/
def entsOf (l : List Int) (n : Nat) : List E4 := (List.range n).map (fun k => entOf ((l.drop (128 * k)).take 128))

theorem entsOf_succ (l : List Int) (n : Nat) : entsOf l (n + 1) = entsOf l n ++ [entOf ((l.drop (128 * n)).take 128)] := by
  unfold entsOf
  rw [List.range_succ, List.map_append]
  rfl
theorem entsOf_len (l : List Int) (n : Nat) : (entsOf l n).length = n := by unfold entsOf; simp
theorem entsOf_ok (l : List Int) (n : Nat) (h : l.length = 128 * n) : ∀ y ∈ entsOf l n, y.ok := by
  intro y hy
  unfold entsOf at hy
  obtain ⟨k, hk, rfl⟩ := List.mem_map.1 hy
  have := List.mem_range.1 hk
  exact entOf_ok _ (by rw [List.length_take, List.length_drop]; omega)

theorem seg_lies {w : World} {b off : Nat} {l : List Int} (h : Lies w (some ⟨b, off, none⟩) l) (n m : Nat) : Lies w (some ⟨b, off + n, none⟩) ((l.drop n).take m) := h.of_part n m

end Go.Proofs.YtpbnjobjjnhplaaDoor.Oct
