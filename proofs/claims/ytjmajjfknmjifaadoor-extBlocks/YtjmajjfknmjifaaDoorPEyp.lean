/- The document's inode: InodeAt. -/
import Derived.Test.YtjmajjfknmjifaaDoorPEym
import Derived.Test.YtjmajjfknmjifaaDoorPEyk
import Derived.Test.YtjmajjfknmjifaaDoorPTak
import Derived.Great.BuildSlice
import Derived.Deep.Cut
import Derived.Deep.RegionWith
import Derived.Maps.AppendAt
namespace Go.Proofs.YtjmajjfknmjifaaDoor.Oct
open Go.RowKit

theorem ready_valZ {P : Program} {md : Region.Mode} {ops : Array Oper} {Q : Exit → Act → World → Prop} {S : World → Prop} {fuel : Nat} {listed : Array Bool} {a : Act} {w : World} (i : Nat) {oi : Oper} (dst : Option Tmp) (v : Value) (w' : World)
    (hr : Region.ready md ops listed = [i]) (hi : ops[i]? = some oi) (hgd : oi.guard = none) (hd : oi.dst = dst) (hrun : (execOp a.eval oi).run P w = .ok (.value v) w') (hS : S w')
    (h : wpAnyH P md ops Q S fuel (listed.setIfInBounds i true) (a.put dst v) w') : wpAnyH P md ops Q S (fuel + 1) listed a w := by
  refine wpAnyH_ready (rs := [i]) hr (by simp) ?_
  refine AllReadyH.cons (i := i) hi (fun K hK => ?_) AllReadyH.nil
  have hw : Region.wanted oi (yielded ops a.tmps) = true := by simp [Region.wanted, hgd]
  rw [if_pos hw]
  unfold Oper.wp
  rw [hrun]
  subst hd
  exact hK.out _ _ hS (fun _ => h)

theorem exec_appendZ {P : Program} {a : Act} {o : Oper} {s x : Operand} {t : TypeId} {v q v' : Value} {w w' : World} (ho : o.op = .call { callee := .builtin .append, args := #[s, x], argTypes := #[t, t] }) (hs : a.eval s = v) (hx : a.eval x = q) (h : (Builtin.append_ #[t, t] o.type #[v, q]).run P w = .ok v' w') : (execOp a.eval o).run P w = .ok (.value v') w' := by
  unfold execOp
  simp only [ho, resolve, invoke, builtin, Sem.run_bind, Sem.run_pure, Result.andThen_ok, List.map_toArray, List.map_cons, List.map_nil, hs, hx, h]

theorem Chg.setZ {X : Nat → Prop} {w w' : World} (h : Chg X w w') (F o : Nat) (v : Value) (hx : X F) : Chg X w (w'.setCell ⟨F, o, none⟩ v) := by
  refine ⟨h.os, h.tape, h.output, ?_, fun i hi hxi => ?_⟩
  · have := h.size
    simpa [World.setCell] using this
  · have hne : i ≠ F := fun e => hxi (e ▸ hx)
    rw [← h.block i hi hxi]
    simp [World.setCell, Array.getElem?_modify, Ne.symm hne]

/-- A row of numbers, one's own. -/
def OwnZ (w : World) (B : Nat) (v : Value) (L : List Int) : Prop := w.ownsRow B 2 1 v L.length (L.map (fun x => Value.int .i64 x))

theorem OwnZ.below {w w' : World} {B : Nat} {v : Value} {L : List Int} (h : OwnZ w B v L) (hb : RowKit.Below w.heap.size w w') : OwnZ w' B v L :=
  World.ownsRow.kept (row := none) h ⟨hb.os, hb.tape, hb.output, hb.size, fun k hk _ => hb.block k hk⟩ (by cases v.ownBlock <;> simp)
theorem OwnZ.chg {X : Nat → Prop} {w w' : World} {B : Nat} {v : Value} {L : List Int} (h : OwnZ w B v L) (hg : Chg X w w') (hne : ∀ g, v.ownBlock = some g → ¬ X g) : OwnZ w' B v L := ownsRow_chg h hg hne
theorem OwnZ.len {w : World} {B : Nat} {v : Value} {L : List Int} (h : OwnZ w B v L) : ∃ a c, v = .slice a L.length c := by
  rcases h.2 with ⟨rfl, hn⟩ | ⟨g, cap, cur, rfl, _⟩
  · exact ⟨none, 0, by rw [hn]⟩
  · exact ⟨_, cap, rfl⟩
theorem OwnZ.mono {w : World} {B B' : Nat} {v : Value} {L : List Int} (h : OwnZ w B v L) (hb : B' ≤ B) : OwnZ w B' v L := by
  refine ⟨h.1, ?_⟩
  rcases h.2 with h2 | ⟨g, cap, cur, h3, h4, h5⟩
  · exact Or.inl h2
  · exact Or.inr ⟨g, cap, cur, h3, Nat.le_trans hb h4, h5⟩

theorem info_z64 : (Tryd.prog.info? 2).map (fun i => (i.zero, i.size, i.bytes)) = some (some (.int .i64 0), 1, 8) := by kernel_rfl

/-- The first so many of the fifteen, without the rest. -/
def numsI (l : List Int) (j : Nat) : List Int := (List.range j).map fun i => num l (40 + 4 * i) 4
theorem numsI_all (l : List Int) : numsI l 15 = atsL l 15 := by
  unfold numsI atsL
  apply List.map_congr_left
  intro i hi
  rw [if_pos (by simpa using hi)]

theorem ret_rind {fn : Func} {p : Tmp} (hr : fn.results = #[.cell p 56]) (tmps : Array Value) (w : World) (R : Nat) (mo si cn li : Int) (v : Value)
    (hp : tmps.getD p undef = .pointer (some ⟨R, 0, none⟩)) (hs : Blk w R #[.int .i64 mo, .int .i64 si, .int .i64 cn, .int .i64 li, v] 56) :
    (results fn tmps).run Tryd.prog w = .ok (.agg #[.int .i64 mo, .int .i64 si, .int .i64 cn, .int .i64 li, v]) w :=
  results_cell_row hr tmps w R 56 _ (0, 0) _ hp hs Tryd.underlying56 rfl (by kernel_rfl)

theorem blk5e {u : World} {R : Nat} {x y z a b : Value} {t : TypeId} (h : Blk u R #[x, y, z, a, b] t) (p q r m n : Value) : Blk (((((u.setCell ⟨R, 0, none⟩ p).setCell ⟨R, 1, none⟩ q).setCell ⟨R, 2, none⟩ r).setCell ⟨R, 3, none⟩ m).setCell ⟨R, 4, none⟩ n) R #[p, q, r, m, n] t := by
  have h0 : Blk (u.setCell ⟨R, 0, none⟩ p) R #[p, y, z, a, b] t := h.set 0 p
  have h1 : Blk ((u.setCell ⟨R, 0, none⟩ p).setCell ⟨R, 1, none⟩ q) R #[p, q, z, a, b] t := h0.set 1 q
  have h2 : Blk (((u.setCell ⟨R, 0, none⟩ p).setCell ⟨R, 1, none⟩ q).setCell ⟨R, 2, none⟩ r) R #[p, q, r, a, b] t := h1.set 2 r
  have h3 : Blk ((((u.setCell ⟨R, 0, none⟩ p).setCell ⟨R, 1, none⟩ q).setCell ⟨R, 2, none⟩ r).setCell ⟨R, 3, none⟩ m) R #[p, q, r, m, b] t := h2.set 3 m
  exact h3.set 4 n
set_option maxHeartbeats 16000000 in
set_option maxRecDepth 100000 in
theorem rinode_any (a : Option Addr) (cap : Nat) (l : List Int) (q : Nat) (w : World) (h5 : l.length ≤ 1000000) (hb : Byts l) (hl : Lies w a l) (hq : q + 128 ≤ l.length) :
    Calls Tryd.prog 22 #[.slice a l.length cap, .int .i64 q] w fun e w' => ∃ v li, e = .returned (.agg #[.int .i64 (inOf ((l.drop q).take 128)).mode, .int .i64 (inOf ((l.drop q).take 128)).size, .int .i64 (inOf ((l.drop q).take 128)).cnt, .int .i64 li, v]) ∧ OwnZ w' w.heap.size v (inOf ((l.drop q).take 128)).ats ∧ Below w.heap.size w w' := by
  obtain ⟨w1, hw1⟩ : ∃ w1, w1 = w.alloc (.cells #[.int .i64 0, .int .i64 0, .int .i64 0, .int .i64 0, .slice none 0 0] 56) := ⟨_, rfl⟩
  have hb1 : Below w.heap.size w w1 := by rw [hw1]; exact (Below.refl _ _).alloc (Nat.le_refl _) _
  have hk1 : Blk w1 w.heap.size #[.int .i64 0, .int .i64 0, .int .i64 0, .int .i64 0, .slice none 0 0] 56 := by rw [hw1]; exact Blk.new _ _ _
  obtain ⟨m, hm⟩ : ∃ m, m = (l.drop q).take 128 := ⟨_, rfl⟩
  have e2 := fun (k z : Nat) (hk : k + z ≤ 128) => num_partE l q 128 k (by omega) z hk
  rw [← hm] at e2 ⊢
  have hl1 := hl.below hb1
  have HG0 := hide (rint2_any a cap l (q + 0) w1 h5 hb hl1 (by omega))
  have HG4 := hide (rint4_any a cap l (q + 4) w1 h5 hb hl1 (by omega))
  have HG26 := hide (rint2_any a cap l (q + 26) w1 h5 hb hl1 (by omega))
  have HG28 := hide (rint4_any a cap l (q + 28) w1 h5 hb hl1 (by omega))
  have HGi := hide (fun (j : Nat) (hj : j < 15) (u : World) (hu : Lies u a l) => hide (rint4_any a cap l (q + (40 + 4 * j)) u h5 hb hu (by omega)))
  rw [← e2 0 2 (by omega)] at HG0
  rw [← e2 4 4 (by omega)] at HG4
  rw [← e2 26 2 (by omega)] at HG26
  rw [← e2 28 4 (by omega)] at HG28
  push_cast at HG0 HG4 HG26 HG28
  rw [Int.add_zero] at HG0
  have HE2 := hide e2
  have hq2 : (q : Int) ≤ 1000000 := by omega
  unfold inOf
  rw [← numsI_all]
  generalize num m 0 2 = mo at *
  generalize num m 4 4 = si at *
  generalize num m 26 2 = li at *
  generalize num m 28 4 = cn at *
  obtain ⟨n, hn⟩ : ∃ n, n = l.length := ⟨_, rfl⟩
  rw [← hn] at HGi HG0 HG4 HG26 HG28 ⊢
  have HL1 := hide hl1
  have HB1 := hide hb1
  have HK1 := hide hk1
  have HW1 := hide hw1
  have HLw := hide hl
  clear e2 h5 hb hl hl1 hq hb1 hk1 hw1 hm hn
  go_enter Tryd.func22, Tryd.ntmps22
  go_wp2_with fail
  rw [← HW1.out]
  refine HG0.out.mono ?_
  rintro e9 w3 ⟨rfl, h3⟩
  rw [h3]
  clear h3
  go_wp2_with fail
  refine HG4.out.mono ?_
  rintro e9 w3 ⟨rfl, h3⟩
  rw [h3]
  clear h3
  go_wp2_with fail
  refine HG26.out.mono ?_
  rintro e9 w3 ⟨rfl, h3⟩
  rw [h3]
  clear h3
  go_wp2_with fail
  refine HG28.out.mono ?_
  rintro e9 w3 ⟨rfl, h3⟩
  rw [h3]
  clear h3
  obtain ⟨G, hG⟩ : ∃ G, G = w1.heap.size := ⟨_, rfl⟩
  have hLt : w.heap.size < G := by rw [hG]; exact HK1.out.lt
  have HLt := hide hLt
  obtain ⟨w2, hw2⟩ : ∃ w2, w2 = w1.alloc (.cells #[.int .i64 mo, .int .i64 si, .int .i64 cn, .int .i64 li, .slice none 0 0] 56) := ⟨_, rfl⟩
  have hb2 : Below w1.heap.size w1 w2 := by rw [hw2]; exact (Below.refl _ _).alloc (Nat.le_refl _) _
  have HV2 := hide (show Blk w2 G #[.int .i64 mo, .int .i64 si, .int .i64 cn, .int .i64 li, .slice none 0 0] 56 by rw [hw2, hG]; exact Blk.new _ _ _)
  have HB2 := hide (HB1.out.trans (hb2.mono HB1.out.size))
  have HK2 := hide (HK1.out.below hb2)
  have HW2 := hide hw2
  have HGe := hide hG
  clear HG0 HG4 HG26 HG28 hb2 hw2 hG hLt
  go_wp2_with fail
  rw [← HW2.out, ← HGe.out]
  obtain ⟨i64i, hi64, hz64, hs64, hy64⟩ := info_parts info_z64
  go_loopw [6] (fun i wr => ∃ (j : Nat) (v : Value), j ≤ 15 ∧ i = .int .i64 (j : Int) ∧ Blk wr G #[.int .i64 mo, .int .i64 si, .int .i64 cn, .int .i64 li, v] 56 ∧ Blk wr w.heap.size #[.int .i64 0, .int .i64 0, .int .i64 0, .int .i64 0, .slice none 0 0] 56 ∧ OwnZ wr (G + 1) v (numsI m j) ∧ Chg (fun i => G ≤ i) w2 wr) (fun i _ => 15 - (intOf i).toNat)
  case atStart => exact ⟨0, _, by omega, rfl, HV2.out, HK2.out, World.ownsRow_nil _ _ _ _, Chg.refl _ _⟩
  case round =>
    obtain ⟨j, v, hj, rfl, hV, hR, hO, hC⟩ := hrel
    obtain ⟨a5, k5, hv5'⟩ := hO.len
    have hv5 : v = .slice a5 j k5 := by rw [hv5']; simp [numsI]
    clear hv5'
    subst hv5
    have HV := hide hV
    have HOr := hide hO
    have HCg := hide hC
    have HRr := hide hR
    have HBw := hide (HB2.out.trans (Chg.below w.heap.size hC HB2.out.size (fun i hi => by have := HLt.out; omega)))
    clear hV hO hC hR
    by_cases hjk : j < 15
    · obtain ⟨Y, hY⟩ : ∃ Y : Nat, Y = q + (40 + 4 * j) := ⟨_, rfl⟩
      obtain ⟨z, hz⟩ : ∃ z, z = num m (40 + 4 * j) 4 := ⟨_, rfl⟩
      have HIn := fun (u : World) (hu : Lies u a l) => HGi.out j hjk u hu
      rw [← HE2.out (40 + 4 * j) 4 (by omega), ← hY, ← hz] at HIn
      have q0 : IntKind.i64.wrap ((q : Int) + 40) = (q : Int) + 40 := by rw [IntKind.wrap_i64]; omega
      have q1 : IntKind.i64.wrap (4 * (j : Int)) = 4 * (j : Int) := by rw [IntKind.wrap_i64]; omega
      have q2 : IntKind.i64.wrap ((q : Int) + 40 + 4 * (j : Int)) = (Y : Int) := by rw [IntKind.wrap_i64]; omega
      have q3 : IntKind.i64.wrap ((j : Int) + 1) = (j : Int) + 1 := by rw [IntKind.wrap_i64]; omega
      have hlt : (j : Int) < 15 := by omega
      have HTr := hide (HLw.out.below HBw.out)
      have HZz := hide hz
      have HJ := hide hjk
      have HVr := HV
      clear hY hz hj hjk HV
      obtain ⟨x1, hx1⟩ : ∃ x1, x1 = wr := ⟨_, rfl⟩
      subst hx1
      go_wp2_with fail
      refine wp_region_held_drew (S := (fun _ => True)) (by kernel_rfl) trivial (fun _ => ?_)
      refine any_take 0 (some 27) (.pointer (some ⟨G, 4, none⟩)) rfl rfl (by kernel_rfl) (by kernel_rfl) (by kernel_rfl) (fun _ _ _ h => h) (by rfl) trivial ?_ ?_
      · intro u hSu
        go_simp
      simp only [Act.put, List.setIfInBounds_toArray, List.set_cons_zero, List.set_cons_succ]
      refine any_take 2 (some 29) (.slice a n cap) rfl rfl (by kernel_rfl) (by kernel_rfl) (by kernel_rfl) (fun _ _ _ h => h) (by rfl) trivial ?_ ?_
      · intro u hSu
        go_simp
      simp only [Act.put, List.setIfInBounds_toArray, List.set_cons_zero, List.set_cons_succ]
      refine any_take 3 (some 30) (.int .i64 (q : Int)) rfl rfl (by kernel_rfl) (by kernel_rfl) (by kernel_rfl) (fun _ _ _ h => h) (by rfl) trivial ?_ ?_
      · intro u hSu
        go_simp
      simp only [Act.put, List.setIfInBounds_toArray, List.set_cons_zero, List.set_cons_succ]
      refine any_take 4 (some 31) (.int .i64 ((q : Int) + 40)) rfl rfl (by kernel_rfl) (by kernel_rfl) (by kernel_rfl) (fun _ _ _ h => h) (by rfl) trivial ?_ ?_
      · intro u hSu
        go_simp
      simp only [Act.put, List.setIfInBounds_toArray, List.set_cons_zero, List.set_cons_succ]
      refine any_take 5 (some 32) (.int .i64 (j : Int)) rfl rfl (by kernel_rfl) (by kernel_rfl) (by kernel_rfl) (fun _ _ _ h => h) (by rfl) trivial ?_ ?_
      · intro u hSu
        go_simp
      simp only [Act.put, List.setIfInBounds_toArray, List.set_cons_zero, List.set_cons_succ]
      refine any_take 6 (some 33) (.int .i64 (4 * (j : Int))) rfl rfl (by kernel_rfl) (by kernel_rfl) (by kernel_rfl) (fun _ _ _ h => h) (by rfl) trivial ?_ ?_
      · intro u hSu
        go_simp
      simp only [Act.put, List.setIfInBounds_toArray, List.set_cons_zero, List.set_cons_succ]
      refine any_take 7 (some 34) (.int .i64 (Y : Int)) rfl rfl (by kernel_rfl) (by kernel_rfl) (by kernel_rfl) (fun _ _ _ h => h) (by rfl) trivial ?_ ?_
      · intro u hSu
        go_simp
      simp only [Act.put, List.setIfInBounds_toArray, List.set_cons_zero, List.set_cons_succ]
      refine wpAnyH_ready (rs := [1, 8]) (by kernel_rfl) (by simp) ?_
      refine AllReadyH.cons (i := 1) rfl (fun K hK => ?_) (AllReadyH.cons (i := 8) rfl (fun K hK => ?_) AllReadyH.nil)
      · have cL := HVr.out.drew.cell 4 _ rfl
        go_simp
        refine hK.out _ _ trivial (fun _ => ?_)
        clear hK K
        try simp only [Act.put, List.setIfInBounds_toArray, List.set_cons_zero, List.set_cons_succ]
        clear cL
        refine wpAnyH_ready (rs := [8]) (by kernel_rfl) (by simp) ?_
        refine AllReadyH.cons (i := 8) rfl (fun K hK => ?_) AllReadyH.nil
        go_simp
        refine (HIn _ HTr.out.drew).out.mono ?_
        rintro e9 x2 ⟨rfl, h2⟩
        rw [h2]
        clear h2
        go_simp
        refine hK.out _ _ trivial (fun _ => ?_)
        clear hK K
        try simp only [Act.put, List.setIfInBounds_toArray, List.set_cons_zero, List.set_cons_succ]
        refine wpAnyH_ready (rs := [9]) (by kernel_rfl) (by simp) ?_
        refine AllReadyH.cons (i := 9) rfl (fun K hK => ?_) AllReadyH.nil
        go_simp
        refine hK.out _ _ trivial (fun _ => ?_)
        clear hK K
        try simp only [Act.put, List.setIfInBounds_toArray, List.set_cons_zero, List.set_cons_succ]
        obtain ⟨x3, hx3⟩ : ∃ x3, x3 = (x1.alloc (.cells #[.int .i64 z] 2)).drew := ⟨_, rfl⟩
        have hb3 : Below x1.heap.size x1 x3 := by rw [hx3]; exact ((Below.refl x1.heap.size x1).alloc (Nat.le_refl _) _).drew
        have hn3 : ∀ (q : Nat) u, [Value.int .i64 z][q]? = some u → x3.cell? ((⟨x1.heap.size, 0, none⟩ : Addr).add q) = some u := by
          intro q u hu
          rw [hx3, Go.WideShapes.add_plain, Nat.zero_add]
          exact (Blk.new x1 #[.int .i64 z] 2).drew.cell q u (by simpa using hu)
        have hb0 : G + 1 ≤ x3.heap.size := by have h1 := HVr.out.lt; have h2 := hb3.size; omega
        rw [← hx3]
        clear hx3
        have ho3 := HOr.out.below hb3
        obtain ⟨v5, w5', hr5, ho5, hg5, _, _⟩ := run_append_own_at (P := Tryd.prog) (w := x3) (G + 1) 42 42 2 i64i (.int .i64 0) 1 8 Tryd.underlying42 hi64 hz64 hs64 hy64 rfl (by decide) (.slice a5 j k5) (numsI m j).length ((numsI m j).map (fun x => Value.int .i64 x)) ho3 ⟨x1.heap.size, 0, none⟩ 1 1 [.int .i64 z] rfl hn3 (by simp [Value.oneCell']) (by have := HJ.out; simp [numsI]; unfold maxLen; omega) (by have := HJ.out; simp [numsI]; omega) hb0
        have ho6 : OwnZ w5' (G + 1) v5 (numsI m (j + 1)) := by
          unfold OwnZ
          have e : numsI m (j + 1) = numsI m j ++ [z] := by rw [HZz.out]; simp [numsI, List.range_succ]
          rw [e]
          simpa using ho5
        obtain ⟨a6, k6, hv6'⟩ := ho6.len
        have hv6 : v5 = .slice a6 (j + 1) k6 := by rw [hv6']; simp [numsI]
        clear hv6'
        subst hv6
        have hc5 : Chg (fun i => G ≤ i) x1 w5' := (Chg.of_below hb3).trans ((Chg.of_grown hg5).mono (fun i _ e => by have := (World.ownsRow.lt ho3 i e.symm).1; omega))
        have hV5 : Blk w5' G #[.int .i64 mo, .int .i64 si, .int .i64 cn, .int .i64 li, .slice a5 j k5] 56 := (HVr.out.below hb3).chg (Chg.of_grown hg5) (fun e => by have := (World.ownsRow.lt ho3 _ e.symm).1; omega)
        have s8 := hV5.cell 4 _ rfl
        have f8 := hV5.frozen 4
        refine ready_valZ 10 (some 37) (.slice a6 (j + 1) k6) w5' (by kernel_rfl) rfl rfl rfl (exec_appendZ (s := .tmp 28) (x := .tmp 36) (t := 42) (v := .slice a5 j k5) (q := .slice (some ⟨x1.heap.size, 0, none⟩) 1 1) rfl (by rfl) (by rfl) hr5) trivial ?_
        try simp only [Act.put, List.setIfInBounds_toArray, List.set_cons_zero, List.set_cons_succ]
        refine any_take 11 (some 38) (.pointer (some ⟨G, 4, none⟩)) rfl rfl (by kernel_rfl) (by kernel_rfl) (by kernel_rfl) (fun _ _ _ h => h) (by rfl) trivial ?_ ?_
        · intro u hSu
          go_simp
        simp only [Act.put, List.setIfInBounds_toArray, List.set_cons_zero, List.set_cons_succ]
        refine wpAnyH_ready (rs := [12]) (by kernel_rfl) (by simp) ?_
        refine AllReadyH.cons (i := 12) rfl (fun K hK => ?_) AllReadyH.nil
        have HO6 := hide (ho6.chg ((Chg.refl (fun i => i = G) w5').setZ G 4 (.slice a6 (j + 1) k6) rfl) (fun g hg e => by have := (World.ownsRow.lt ho6 g hg).1; omega))
        have HV6 := hide (show Blk (w5'.setCell ⟨G, 4, none⟩ (.slice a6 (j + 1) k6)) G #[.int .i64 mo, .int .i64 si, .int .i64 cn, .int .i64 li, .slice a6 (j + 1) k6] 56 from hV5.set 4 (.slice a6 (j + 1) k6))
        have hc6 := hc5.setZ G 4 (.slice a6 (j + 1) k6) (Nat.le_refl _)
        have HC6 := hide (HCg.out.trans hc6)
        have HR6 := hide (HRr.out.chg hc6 (by have := HLt.out; omega))
        clear hb3 hn3 hb0 ho3 hr5 ho5 hg5 ho6 hc5 hc6 hV5
        go_simp
        refine hK.out _ _ trivial (fun _ => ?_)
        clear hK K
        try simp only [Act.put, List.setIfInBounds_toArray, List.set_cons_zero, List.set_cons_succ]
        refine wpAnyH_done (by kernel_rfl) ?_ _
        clear s8 f8
        go_wp2_with fail
        go_roundw
        case rel => exact ⟨j + 1, _, by have := HJ.out; omega, by go_num, HV6.out, HR6.out, HO6.out, HC6.out⟩
        case measure => have := HJ.out; simp [intOf]; omega
      · go_simp
        refine (HIn _ HTr.out.drew).out.mono ?_
        rintro e9 x2 ⟨rfl, h2⟩
        rw [h2]
        clear h2
        go_simp
        refine hK.out _ _ trivial (fun _ => ?_)
        clear hK K
        try simp only [Act.put, List.setIfInBounds_toArray, List.set_cons_zero, List.set_cons_succ]
        refine wpAnyH_ready (rs := [1, 9]) (by kernel_rfl) (by simp) ?_
        refine AllReadyH.cons (i := 1) rfl (fun K hK => ?_) (AllReadyH.cons (i := 9) rfl (fun K hK => ?_) AllReadyH.nil)
        · have cL := HVr.out.drew.cell 4 _ rfl
          go_simp
          refine hK.out _ _ trivial (fun _ => ?_)
          clear hK K
          try simp only [Act.put, List.setIfInBounds_toArray, List.set_cons_zero, List.set_cons_succ]
          clear cL
          refine wpAnyH_ready (rs := [9]) (by kernel_rfl) (by simp) ?_
          refine AllReadyH.cons (i := 9) rfl (fun K hK => ?_) AllReadyH.nil
          go_simp
          refine hK.out _ _ trivial (fun _ => ?_)
          clear hK K
          try simp only [Act.put, List.setIfInBounds_toArray, List.set_cons_zero, List.set_cons_succ]
          obtain ⟨x3, hx3⟩ : ∃ x3, x3 = (x1.alloc (.cells #[.int .i64 z] 2)).drew := ⟨_, rfl⟩
          have hb3 : Below x1.heap.size x1 x3 := by rw [hx3]; exact ((Below.refl x1.heap.size x1).alloc (Nat.le_refl _) _).drew
          have hn3 : ∀ (q : Nat) u, [Value.int .i64 z][q]? = some u → x3.cell? ((⟨x1.heap.size, 0, none⟩ : Addr).add q) = some u := by
            intro q u hu
            rw [hx3, Go.WideShapes.add_plain, Nat.zero_add]
            exact (Blk.new x1 #[.int .i64 z] 2).drew.cell q u (by simpa using hu)
          have hb0 : G + 1 ≤ x3.heap.size := by have h1 := HVr.out.lt; have h2 := hb3.size; omega
          rw [← hx3]
          clear hx3
          have ho3 := HOr.out.below hb3
          obtain ⟨v5, w5', hr5, ho5, hg5, _, _⟩ := run_append_own_at (P := Tryd.prog) (w := x3) (G + 1) 42 42 2 i64i (.int .i64 0) 1 8 Tryd.underlying42 hi64 hz64 hs64 hy64 rfl (by decide) (.slice a5 j k5) (numsI m j).length ((numsI m j).map (fun x => Value.int .i64 x)) ho3 ⟨x1.heap.size, 0, none⟩ 1 1 [.int .i64 z] rfl hn3 (by simp [Value.oneCell']) (by have := HJ.out; simp [numsI]; unfold maxLen; omega) (by have := HJ.out; simp [numsI]; omega) hb0
          have ho6 : OwnZ w5' (G + 1) v5 (numsI m (j + 1)) := by
            unfold OwnZ
            have e : numsI m (j + 1) = numsI m j ++ [z] := by rw [HZz.out]; simp [numsI, List.range_succ]
            rw [e]
            simpa using ho5
          obtain ⟨a6, k6, hv6'⟩ := ho6.len
          have hv6 : v5 = .slice a6 (j + 1) k6 := by rw [hv6']; simp [numsI]
          clear hv6'
          subst hv6
          have hc5 : Chg (fun i => G ≤ i) x1 w5' := (Chg.of_below hb3).trans ((Chg.of_grown hg5).mono (fun i _ e => by have := (World.ownsRow.lt ho3 i e.symm).1; omega))
          have hV5 : Blk w5' G #[.int .i64 mo, .int .i64 si, .int .i64 cn, .int .i64 li, .slice a5 j k5] 56 := (HVr.out.below hb3).chg (Chg.of_grown hg5) (fun e => by have := (World.ownsRow.lt ho3 _ e.symm).1; omega)
          have s8 := hV5.cell 4 _ rfl
          have f8 := hV5.frozen 4
          refine ready_valZ 10 (some 37) (.slice a6 (j + 1) k6) w5' (by kernel_rfl) rfl rfl rfl (exec_appendZ (s := .tmp 28) (x := .tmp 36) (t := 42) (v := .slice a5 j k5) (q := .slice (some ⟨x1.heap.size, 0, none⟩) 1 1) rfl (by rfl) (by rfl) hr5) trivial ?_
          try simp only [Act.put, List.setIfInBounds_toArray, List.set_cons_zero, List.set_cons_succ]
          refine any_take 11 (some 38) (.pointer (some ⟨G, 4, none⟩)) rfl rfl (by kernel_rfl) (by kernel_rfl) (by kernel_rfl) (fun _ _ _ h => h) (by rfl) trivial ?_ ?_
          · intro u hSu
            go_simp
          simp only [Act.put, List.setIfInBounds_toArray, List.set_cons_zero, List.set_cons_succ]
          refine wpAnyH_ready (rs := [12]) (by kernel_rfl) (by simp) ?_
          refine AllReadyH.cons (i := 12) rfl (fun K hK => ?_) AllReadyH.nil
          have HO6 := hide (ho6.chg ((Chg.refl (fun i => i = G) w5').setZ G 4 (.slice a6 (j + 1) k6) rfl) (fun g hg e => by have := (World.ownsRow.lt ho6 g hg).1; omega))
          have HV6 := hide (show Blk (w5'.setCell ⟨G, 4, none⟩ (.slice a6 (j + 1) k6)) G #[.int .i64 mo, .int .i64 si, .int .i64 cn, .int .i64 li, .slice a6 (j + 1) k6] 56 from hV5.set 4 (.slice a6 (j + 1) k6))
          have hc6 := hc5.setZ G 4 (.slice a6 (j + 1) k6) (Nat.le_refl _)
          have HC6 := hide (HCg.out.trans hc6)
          have HR6 := hide (HRr.out.chg hc6 (by have := HLt.out; omega))
          clear hb3 hn3 hb0 ho3 hr5 ho5 hg5 ho6 hc5 hc6 hV5
          go_simp
          refine hK.out _ _ trivial (fun _ => ?_)
          clear hK K
          try simp only [Act.put, List.setIfInBounds_toArray, List.set_cons_zero, List.set_cons_succ]
          refine wpAnyH_done (by kernel_rfl) ?_ _
          clear s8 f8
          go_wp2_with fail
          go_roundw
          case rel => exact ⟨j + 1, _, by have := HJ.out; omega, by go_num, HV6.out, HR6.out, HO6.out, HC6.out⟩
          case measure => have := HJ.out; simp [intOf]; omega
        · go_simp
          refine hK.out _ _ trivial (fun _ => ?_)
          clear hK K
          try simp only [Act.put, List.setIfInBounds_toArray, List.set_cons_zero, List.set_cons_succ]
          obtain ⟨x3, hx3⟩ : ∃ x3, x3 = (x1.alloc (.cells #[.int .i64 z] 2)).drew := ⟨_, rfl⟩
          have hb3 : Below x1.heap.size x1 x3 := by rw [hx3]; exact ((Below.refl x1.heap.size x1).alloc (Nat.le_refl _) _).drew
          have hn3 : ∀ (q : Nat) u, [Value.int .i64 z][q]? = some u → x3.cell? ((⟨x1.heap.size, 0, none⟩ : Addr).add q) = some u := by
            intro q u hu
            rw [hx3, Go.WideShapes.add_plain, Nat.zero_add]
            exact (Blk.new x1 #[.int .i64 z] 2).drew.cell q u (by simpa using hu)
          have hb0 : G + 1 ≤ x3.heap.size := by have h1 := HVr.out.lt; have h2 := hb3.size; omega
          have HVr3 := hide (HVr.out.below hb3)
          rw [← hx3]
          clear hx3
          refine wpAnyH_ready (rs := [1]) (by kernel_rfl) (by simp) ?_
          refine AllReadyH.cons (i := 1) rfl (fun K hK => ?_) AllReadyH.nil
          have cL := HVr3.out.cell 4 _ rfl
          go_simp
          refine hK.out _ _ trivial (fun _ => ?_)
          clear hK K
          try simp only [Act.put, List.setIfInBounds_toArray, List.set_cons_zero, List.set_cons_succ]
          clear cL
          have ho3 := HOr.out.below hb3
          obtain ⟨v5, w5', hr5, ho5, hg5, _, _⟩ := run_append_own_at (P := Tryd.prog) (w := x3) (G + 1) 42 42 2 i64i (.int .i64 0) 1 8 Tryd.underlying42 hi64 hz64 hs64 hy64 rfl (by decide) (.slice a5 j k5) (numsI m j).length ((numsI m j).map (fun x => Value.int .i64 x)) ho3 ⟨x1.heap.size, 0, none⟩ 1 1 [.int .i64 z] rfl hn3 (by simp [Value.oneCell']) (by have := HJ.out; simp [numsI]; unfold maxLen; omega) (by have := HJ.out; simp [numsI]; omega) hb0
          have ho6 : OwnZ w5' (G + 1) v5 (numsI m (j + 1)) := by
            unfold OwnZ
            have e : numsI m (j + 1) = numsI m j ++ [z] := by rw [HZz.out]; simp [numsI, List.range_succ]
            rw [e]
            simpa using ho5
          obtain ⟨a6, k6, hv6'⟩ := ho6.len
          have hv6 : v5 = .slice a6 (j + 1) k6 := by rw [hv6']; simp [numsI]
          clear hv6'
          subst hv6
          have hc5 : Chg (fun i => G ≤ i) x1 w5' := (Chg.of_below hb3).trans ((Chg.of_grown hg5).mono (fun i _ e => by have := (World.ownsRow.lt ho3 i e.symm).1; omega))
          have hV5 : Blk w5' G #[.int .i64 mo, .int .i64 si, .int .i64 cn, .int .i64 li, .slice a5 j k5] 56 := (HVr.out.below hb3).chg (Chg.of_grown hg5) (fun e => by have := (World.ownsRow.lt ho3 _ e.symm).1; omega)
          have s8 := hV5.cell 4 _ rfl
          have f8 := hV5.frozen 4
          refine ready_valZ 10 (some 37) (.slice a6 (j + 1) k6) w5' (by kernel_rfl) rfl rfl rfl (exec_appendZ (s := .tmp 28) (x := .tmp 36) (t := 42) (v := .slice a5 j k5) (q := .slice (some ⟨x1.heap.size, 0, none⟩) 1 1) rfl (by rfl) (by rfl) hr5) trivial ?_
          try simp only [Act.put, List.setIfInBounds_toArray, List.set_cons_zero, List.set_cons_succ]
          refine any_take 11 (some 38) (.pointer (some ⟨G, 4, none⟩)) rfl rfl (by kernel_rfl) (by kernel_rfl) (by kernel_rfl) (fun _ _ _ h => h) (by rfl) trivial ?_ ?_
          · intro u hSu
            go_simp
          simp only [Act.put, List.setIfInBounds_toArray, List.set_cons_zero, List.set_cons_succ]
          refine wpAnyH_ready (rs := [12]) (by kernel_rfl) (by simp) ?_
          refine AllReadyH.cons (i := 12) rfl (fun K hK => ?_) AllReadyH.nil
          have HO6 := hide (ho6.chg ((Chg.refl (fun i => i = G) w5').setZ G 4 (.slice a6 (j + 1) k6) rfl) (fun g hg e => by have := (World.ownsRow.lt ho6 g hg).1; omega))
          have HV6 := hide (show Blk (w5'.setCell ⟨G, 4, none⟩ (.slice a6 (j + 1) k6)) G #[.int .i64 mo, .int .i64 si, .int .i64 cn, .int .i64 li, .slice a6 (j + 1) k6] 56 from hV5.set 4 (.slice a6 (j + 1) k6))
          have hc6 := hc5.setZ G 4 (.slice a6 (j + 1) k6) (Nat.le_refl _)
          have HC6 := hide (HCg.out.trans hc6)
          have HR6 := hide (HRr.out.chg hc6 (by have := HLt.out; omega))
          clear hb3 hn3 hb0 ho3 hr5 ho5 hg5 ho6 hc5 hc6 hV5
          go_simp
          refine hK.out _ _ trivial (fun _ => ?_)
          clear hK K
          try simp only [Act.put, List.setIfInBounds_toArray, List.set_cons_zero, List.set_cons_succ]
          refine wpAnyH_done (by kernel_rfl) ?_ _
          clear s8 f8
          go_wp2_with fail
          go_roundw
          case rel => exact ⟨j + 1, _, by have := HJ.out; omega, by go_num, HV6.out, HR6.out, HO6.out, HC6.out⟩
          case measure => have := HJ.out; simp [intOf]; omega
    · obtain rfl : j = 15 := by omega
      have HBv := hide (HOr.out)
      have z0 := HRr.out.cell 0 _ rfl
      have z1 := HRr.out.cell 1 _ rfl
      have z2 := HRr.out.cell 2 _ rfl
      have z3 := HRr.out.cell 3 _ rfl
      have z4 := HRr.out.cell 4 _ rfl
      have f0 := HRr.out.frozen 0
      have f1 := HRr.out.frozen 1
      have f2 := HRr.out.frozen 2
      have f3 := HRr.out.frozen 3
      have f4 := HRr.out.frozen 4
      have d0 := HV.out.cell 0 _ rfl
      have d1 := HV.out.cell 1 _ rfl
      have d2 := HV.out.cell 2 _ rfl
      have d3 := HV.out.cell 3 _ rfl
      have d4 := HV.out.cell 4 _ rfl
      clear hj hjk
      go_wp2_with fail
      have hk9 := blk5e HRr.out (.int .i64 mo) (.int .i64 si) (.int .i64 cn) (.int .i64 li) (.slice a5 15 k5)
      refine bodyPost_ret (ret_rind rfl _ _ w.heap.size mo si cn li (.slice a5 15 k5) rfl hk9) rfl ⟨_, li, rfl, ?_, ?_⟩
      · have hc9 := (((((Chg.refl (fun i => i = w.heap.size) wr).setZ w.heap.size 0 (.int .i64 mo) rfl).setZ w.heap.size 1 (.int .i64 si) rfl).setZ w.heap.size 2 (.int .i64 cn) rfl).setZ w.heap.size 3 (.int .i64 li) rfl).setZ w.heap.size 4 (.slice a5 15 k5) rfl
        exact (OwnZ.mono (HBv.out.chg hc9 (fun g hg e => by have := (World.ownsRow.lt HBv.out g hg).1; have := HLt.out; omega)) (by have := HLt.out; omega))
      · exact ((((HBw.out.setCell (p := ⟨w.heap.size, 0, none⟩) (Nat.le_refl _) _).setCell (p := ⟨w.heap.size, 1, none⟩) (Nat.le_refl _) _).setCell (p := ⟨w.heap.size, 2, none⟩) (Nat.le_refl _) _).setCell (p := ⟨w.heap.size, 3, none⟩) (Nat.le_refl _) _).setCell (p := ⟨w.heap.size, 4, none⟩) (Nat.le_refl _) _
end Go.Proofs.YtjmajjfknmjifaaDoor.Oct
