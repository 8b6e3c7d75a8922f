/- The document's Open, of any partition of a sector at least. -/
import Derived.Test.YtcbbaoiefdbcpaaDoorPFcx
import Derived.Test.YtcbbaoiefdbcpaaDoorPFlbFlcFcw
import Derived.Test.YtcbbaoiefdbcpaaDoorPFrp
import Derived.Great.BuildSlice
import Derived.Deep.Cut
import Derived.Deep.RegionWith
import Derived.Maps.AppendAt
namespace Go.Proofs.YtcbbaoiefdbcpaaDoor.Oct
open Go.RowKit

theorem wpList_built {P : Program} {ops : Array Oper} {rest : List Oper} {o : Oper} {a : Act} {w : World} {Q : Exit → Act → World → Prop} (hg : o.guard = none) (t : TypeId) (parts : Array (Nat × Operand)) (ho : o.op = .build t parts) (vs : List (Nat × Value)) (hv : (parts.map fun (i, x) => (i, a.eval x)).toList = vs) (cells : Array Value) (hb : P.built t vs = some cells)
    (h : wpList P ops Q rest (a.put o.dst (.agg cells)) w) : wpList P ops Q (o :: rest) a w := by
  refine wpList_build hg t parts ho (by rw [hv, hb]; rfl) ?_
  rw [hv, hb]
  exact h
theorem wpList_at {P : Program} {ops : Array Oper} {rest : List Oper} {o : Oper} {a : Act} {w : World} {Q : Exit → Act → World → Prop} (op : Op) (_ : o.op = op) (h : wpList P ops Q (o :: rest) a w) : wpList P ops Q (o :: rest) a w := h

theorem ready_valV {P : Program} {md : Region.Mode} {ops : Array Oper} {Q : Exit → Act → World → Prop} {S : World → Prop} {fuel : Nat} {listed : Array Bool} {a : Act} {w : World} (i : Nat) {oi : Oper} (dst : Option Tmp) (v : Value) (w' : World)
    (hr : Region.ready md ops listed = [i]) (hi : ops[i]? = some oi) (hgd : oi.guard = none) (hd : oi.dst = dst) (hrun : (execOp a.eval oi).run P w = .ok (.value v) w') (hS : S w')
    (h : wpAnyH P md ops Q S fuel (listed.setIfInBounds i true) (a.put dst v) w') : wpAnyH P md ops Q S (fuel + 1) listed a w := by
  refine wpAnyH_ready (rs := [i]) hr (by simp) ?_
  refine AllReadyH.cons (i := i) hi (fun K hK => ?_) AllReadyH.nil
  have hw : Region.wanted oi (yielded ops a.tmps) = true := by simp [Region.wanted, hgd]
  rw [if_pos hw]
  unfold Oper.wp
  rw [hrun]
  subst hd
  exact hK.out _ _ hS (fun _ => h)

theorem exec_appendV {P : Program} {a : Act} {o : Oper} {s x : Operand} {t : TypeId} {v q v' : Value} {w w' : World} (ho : o.op = .call { callee := .builtin .append, args := #[s, x], argTypes := #[t, t] }) (hs : a.eval s = v) (hx : a.eval x = q) (h : (Builtin.append_ #[t, t] o.type #[v, q]).run P w = .ok v' w') : (execOp a.eval o).run P w = .ok (.value v') w' := by
  unfold execOp
  simp only [ho, resolve, invoke, builtin, Sem.run_bind, Sem.run_pure, Result.andThen_ok, List.map_toArray, List.map_cons, List.map_nil, hs, hx, h]

theorem OwnC.chg {X : Nat → Prop} {w w' : World} {B : Nat} {v : Value} {L : List Int} (h : OwnC w B v L) (hg : Chg X w w') (hne : ∀ g, v.ownBlock = some g → ¬ X g) : OwnC w' B v L := ownsRow_chg h hg hne

/-- A partition, as the document's answer lies. -/
def rvolC (b : Bt) (v : Value) (f x e : Int) : Array Value := #[.int .i64 b.each, .int .i64 b.ahead, .int .i64 b.tabs, .int .i64 b.secs, .int .i64 b.long, .int .i64 b.root, .int .i64 b.info, .int .i64 b.copy, v, .int .i64 f, .int .i64 x, .int .i64 e]

theorem Chg.setC {X : Nat → Prop} {w w' : World} (h : Chg X w w') (F o : Nat) (v : Value) (hx : X F) : Chg X w (w'.setCell ⟨F, o, none⟩ v) := by
  refine ⟨h.os, h.tape, h.output, ?_, fun i hi hxi => ?_⟩
  · have := h.size
    simpa [World.setCell] using this
  · have hne : i ≠ F := fun e => hxi (e ▸ hx)
    rw [← h.block i hi hxi]
    simp [World.setCell, Array.getElem?_modify, Ne.symm hne]

theorem setrow_blk {u : World} {R : Nat} {old cs : Array Value} {t : TypeId} (h : Blk u R old t) : Blk (u.setRow R cs) R cs t := setRow_heap _ _ old _ t (0, 0) h
theorem setrow_below {R : Nat} {w u : World} {cs : Array Value} (h : Below w.heap.size w u) (hR : w.heap.size ≤ R) : Below w.heap.size w (u.setRow R cs) :=
  h.trans (Chg.below w.heap.size (X := fun i => i = R) (show Chg (fun i => i = R) u (u.setRow R cs) from ⟨rfl, rfl, rfl, by simp, fun k _ hk => setRow_other _ _ k _ hk⟩) h.size (fun i hi => by omega))

theorem ret_rvol {fn : Func} {p : Tmp} (hr : fn.results = #[.cell p 38]) (tmps : Array Value) (w : World) (R : Nat) (cs : Array Value)
    (hp : tmps.getD p undef = .pointer (some ⟨R, 0, none⟩)) (hs : Blk w R cs 38) (hc : cs.size = 12) :
    (results fn tmps).run Tryd.prog w = .ok (.agg cs) w :=
  results_cell_row hr tmps w R 38 cs (0, 0) _ hp hs Tryd.underlying38 rfl (by rw [hc]; kernel_rfl)

set_option maxHeartbeats 16000000 in
set_option maxRecDepth 100000 in
theorem ropen_any (a : Option Addr) (cap : Nat) (d : List Int) (w : World) (hd : d.length ≤ 1000000) (hcap : d.length ≤ cap) (hl : Lies w a d) (hbd : Byts d) (h0 : 512 ≤ d.length) :
    Calls Tryd.prog 7 #[.slice a d.length cap] w fun e w' => ((opnE d = 0 ∧ ∃ v, e = .returned (.agg (rvolC (opnB d) v (opnC d).1 (opnC d).2 0)) ∧ OwnC w' w.heap.size v (0 :: 0 :: numsF (secs d (opnB d).ahead (opnB d).long) (opnK d))) ∨ (opnE d ≠ 0 ∧ e = .returned (.agg (rvolC bt0 (.slice none 0 0) 0 0 (opnE d))))) ∧ Below w.heap.size w w' := by
  obtain ⟨b0, off, rfl⟩ : ∃ b0 off, a = some ⟨b0, off, none⟩ := by
    rcases hl with h | ⟨b0, off, h, _⟩
    · rw [h] at h0; simp at h0
    · exact ⟨b0, off, h⟩
  obtain ⟨w1, hw1⟩ : ∃ w1, w1 = w.alloc (.cells #[.int .i64 0, .int .i64 0, .int .i64 0, .int .i64 0, .int .i64 0, .int .i64 0, .int .i64 0, .int .i64 0, .slice none 0 0, .int .i64 0, .int .i64 0, .int .i64 0] 38) := ⟨_, rfl⟩
  have hb1 : Below w.heap.size w w1 := by rw [hw1]; exact (Below.refl _ _).alloc (Nat.le_refl _) _
  have HZ := hide (show Blk w1 w.heap.size #[.int .i64 0, .int .i64 0, .int .i64 0, .int .i64 0, .int .i64 0, .int .i64 0, .int .i64 0, .int .i64 0, .slice none 0 0, .int .i64 0, .int .i64 0, .int .i64 0] 38 by rw [hw1]; exact Blk.new _ _ _)
  have HB := hide hb1
  have HW1 := hide hw1
  have HD := hide (hl.below hb1)
  have HLf : Hid (b0 < w.heap.size) := hide (by
    rcases hl with h | ⟨b9, o9, h, h9, _⟩
    · rw [h] at h0; simp at h0
    · cases h; exact h9)
  obtain ⟨m, hm⟩ : ∃ m, m = d.length := ⟨_, rfl⟩
  obtain ⟨b, hbe⟩ : ∃ b, b = opnB d := ⟨_, rfl⟩
  obtain ⟨ck, hck⟩ : ∃ ck, ck = (parB (secs d 0 1)).2 := ⟨_, rfl⟩
  have hpb : parB (secs d 0 1) = (b, ck) := by rw [hbe, hck]; rfl
  have HPa : Hid (Calls Tryd.prog 15 #[.slice (some ⟨b0, off, none⟩) 512 cap] w1 fun e w' => e = .returned (.tuple #[.agg #[.int .i64 b.each, .int .i64 b.ahead, .int .i64 b.tabs, .int .i64 b.secs, .int .i64 b.long, .int .i64 b.root, .int .i64 b.info, .int .i64 b.copy], .int .i64 ck]) ∧ Below w1.heap.size w1 w') := hide (by
    have hln := secs_len (d := d) (s := 0) (n := 1) (by omega) (by omega) (by omega)
    have h1 : Lies w1 (some ⟨b0, off, none⟩) (secs d 0 1) := by have := HD.out.of_part 0 512; exact this
    have h := rparse_any (some ⟨b0, off, none⟩) cap (secs d 0 1) w1 (by rw [hln]; decide) (by rw [hln]; show 512 ≤ cap; omega) (hbd.secs 0 1) h1
    rw [hln, hpb] at h
    exact h)
  have HSm : ∀ (u : World) (p q N : Nat) (P Q M : Int) (c c' : Nat), Lies u (some ⟨b0, off, none⟩) d → 0 ≤ P → 0 ≤ Q → 0 ≤ M → (P * 512).toNat = p → (Q * 512).toNat = q → (M * 512).toNat = N → p + N ≤ d.length → q + N ≤ d.length → Hid (Calls Tryd.prog 27 #[.slice (some ⟨b0, off + p, none⟩) N c, .slice (some ⟨b0, off + q, none⟩) N c'] u fun e w' => e = .returned (.bool (decide (secs d P M = secs d Q M))) ∧ w' = u) := fun u p q N P Q M c c' hu hP hQ hM hp hq hN h1 h2 => hide (by
    have l1 : Lies u (some ⟨b0, off + p, none⟩) (secs d P M) := by have := hu.of_part p N; unfold secs; rw [hp, hN]; exact this
    have l2 : Lies u (some ⟨b0, off + q, none⟩) (secs d Q M) := by have := hu.of_part q N; unfold secs; rw [hq, hN]; exact this
    have n1 := secs_len (d := d) (s := P) (n := M) hP hM (by omega)
    have n2 := secs_len (d := d) (s := Q) (n := M) hQ hM (by omega)
    have h := Same_any (some ⟨b0, off + p, none⟩) (some ⟨b0, off + q, none⟩) c c' _ _ u l1 l2 (hbd.secs _ _) (hbd.secs _ _)
    rw [n1, n2, hN] at h
    exact h)
  have m0 : ¬ (m : Int) < 512 := by omega
  have k2 : 512 ≤ cap := by omega
  have k2i : ¬ (cap : Int) < 512 := by omega
  have m0i : ¬ (512 : Int) < 0 := by omega
  have k2n : ¬ cap = 512 ∨ cap = 512 := by omega
  have hqm : IntKind.i64.wrap ((m : Int) / 512) = (m : Int) / 512 := by rw [IntKind.wrap_i64]; omega
  have HM := hide hm
  rw [← hm]
  by_cases hz : ck = 0
  rotate_left
  · have HE := hide (show opnE d = ck by unfold opnE; rw [if_pos (by rw [← hck]; exact hz), ← hck])
    have HNz := hide hz
    have hzd : (ck != 0) = true := by simpa using hz
    clear hw1 hb1 hl hbd h0 hcap hd hm hbe hck hpb hz HSm
    go_enter Tryd.func7, Tryd.ntmps7
    go_wp2_with fail
    rw [← HW1.out]
    refine HPa.out.mono ?_
    rintro e9 w2 ⟨rfl, hb2⟩
    have hb3 : Below w2.heap.size w2 (w2.alloc (.cells #[.int .i64 b.each, .int .i64 b.ahead, .int .i64 b.tabs, .int .i64 b.secs, .int .i64 b.long, .int .i64 b.root, .int .i64 b.info, .int .i64 b.copy] 36)) := (Below.refl _ _).alloc (Nat.le_refl _) _
    have HZ := hide ((HZ.out.below hb2).below hb3)
    have HB := hide ((HB.out.trans (hb2.mono HB.out.size)).trans (hb3.mono (HB.out.trans (hb2.mono HB.out.size)).size))
    clear hb2 hb3 HPa
    rw [HM.out]
    have HBu : Hid (Tryd.prog.built 38 [(4, .int .i64 ck)] = some #[.int .i64 0, .int .i64 0, .int .i64 0, .int .i64 0, .int .i64 0, .int .i64 0, .int .i64 0, .int .i64 0, .slice none 0 0, .int .i64 0, .int .i64 0, .int .i64 ck]) := hide (by kernel_rfl)
    have H1c : Hid ((#[.int .i64 0, .int .i64 0, .int .i64 0, .int .i64 0, .int .i64 0, .int .i64 0, .int .i64 0, .int .i64 0, .slice none 0 0, .int .i64 0, .int .i64 0, .int .i64 ck] : Array Value).all (·.oneCell') = true) := hide (by simp [Value.oneCell'])
    have H1i : Hid ((Tryd.prog.info? 38).map (·.size) = some (#[.int .i64 0, .int .i64 0, .int .i64 0, .int .i64 0, .int .i64 0, .int .i64 0, .int .i64 0, .int .i64 0, .slice none 0 0, .int .i64 0, .int .i64 0, .int .i64 ck] : Array Value).size) := hide (by kernel_rfl)
    go_wp2_with (first | (refine wpList_at (.build 38 #[(4, .tmp 22)]) rfl ?_; refine wpList_built rfl 38 #[(4, .tmp 22)] rfl _ rfl _ HBu.out ?_) | (refine wpList_at (.store 38 (.tmp 2) (.tmp 23)) rfl ?_; refine wpList_store_row rfl 38 (.tmp 2) (.tmp 23) rfl w.heap.size #[.int .i64 0, .int .i64 0, .int .i64 0, .int .i64 0, .int .i64 0, .int .i64 0, .int .i64 0, .int .i64 0, .slice none 0 0, .int .i64 0, .int .i64 0, .int .i64 ck] rfl rfl 38 #[.int .i64 0, .int .i64 0, .int .i64 0, .int .i64 0, .int .i64 0, .int .i64 0, .int .i64 0, .int .i64 0, .slice none 0 0, .int .i64 0, .int .i64 0, .int .i64 0] HZ.out H1i.out (by simp) H1c.out ?_))
    have hz9 := setrow_blk (cs := #[.int .i64 0, .int .i64 0, .int .i64 0, .int .i64 0, .int .i64 0, .int .i64 0, .int .i64 0, .int .i64 0, .slice none 0 0, .int .i64 0, .int .i64 0, .int .i64 ck]) HZ.out
    have hb9 := setrow_below (cs := #[.int .i64 0, .int .i64 0, .int .i64 0, .int .i64 0, .int .i64 0, .int .i64 0, .int .i64 0, .int .i64 0, .slice none 0 0, .int .i64 0, .int .i64 0, .int .i64 ck]) HB.out (Nat.le_refl _)
    exact bodyPost_ret (ret_rvol rfl _ _ w.heap.size _ rfl hz9 rfl) rfl ⟨Or.inr ⟨by rw [HE.out]; exact HNz.out, by rw [HE.out]; rfl⟩, hb9⟩
  subst hz
  have hk := parB_chk hpb
  obtain ⟨hfo, h1c, h2c, _⟩ := chk_says hk
  have hfs := Bt.form_says hfo
  obtain ⟨hcl0, hcl1⟩ := Bt.clus_says hfo
  obtain ⟨hda, htl⟩ := chk_data hk
  have hcl : 0 ≤ b.clus * b.each := Int.mul_nonneg hcl0 (by omega)
  obtain ⟨q0, q1, q2, q3, q4, q5, q6, q7, q8, q9, q10, q11, q12, q13, _⟩ := hfs
  obtain ⟨cp, hcp⟩ : ∃ cp : Nat, 512 * b.copy = (cp : Int) := ⟨(512 * b.copy).toNat, by omega⟩
  obtain ⟨cq, hcq⟩ : ∃ cq : Nat, cq = cp + 512 := ⟨_, rfl⟩
  obtain ⟨ip, hip⟩ : ∃ ip : Nat, 512 * b.info = (ip : Int) := ⟨(512 * b.info).toNat, by omega⟩
  obtain ⟨iq, hiq⟩ : ∃ iq : Nat, iq = ip + 512 := ⟨_, rfl⟩
  have u1 : IntKind.i64.wrap (512 * b.copy) = (cp : Int) := by rw [IntKind.wrap_i64]; omega
  have u2 : IntKind.i64.wrap ((cp : Int) + 512) = (cq : Int) := by rw [IntKind.wrap_i64]; omega
  have u3 : IntKind.i64.wrap (512 * b.info) = (ip : Int) := by rw [IntKind.wrap_i64]; omega
  have u4 : IntKind.i64.wrap ((ip : Int) + 512) = (iq : Int) := by rw [IntKind.wrap_i64]; omega
  have HBx := hide hbe
  by_cases h2 : (m : Int) < b.secs * 512
  · have HE := hide (show opnE d = 4 by unfold opnE; rw [if_neg (by rw [← hck]; simp), ← hbe, if_pos (by rw [← hm]; exact h2)])
    have hqs : (m : Int) / 512 < b.secs := by omega
    clear hw1 hb1 hl hbd h0 hcap hd hm hbe hck hpb HSm h2 hk hfo h1c h2c hcl0 hcl1 hda htl hcl q0 q1 q2 q3 q4 q5 q6 q7 q8 q9 q10 q11 q12 q13 hcp hcq hip hiq
    go_enter Tryd.func7, Tryd.ntmps7
    go_wp2_with fail
    rw [← HW1.out]
    refine HPa.out.mono ?_
    rintro e9 w2 ⟨rfl, hb2⟩
    have hb3 : Below w2.heap.size w2 (w2.alloc (.cells #[.int .i64 b.each, .int .i64 b.ahead, .int .i64 b.tabs, .int .i64 b.secs, .int .i64 b.long, .int .i64 b.root, .int .i64 b.info, .int .i64 b.copy] 36)) := (Below.refl _ _).alloc (Nat.le_refl _) _
    have HI := hide (Blk.new w2 #[.int .i64 b.each, .int .i64 b.ahead, .int .i64 b.tabs, .int .i64 b.secs, .int .i64 b.long, .int .i64 b.root, .int .i64 b.info, .int .i64 b.copy] 36)
    have HZ := hide ((HZ.out.below hb2).below hb3)
    have HB := hide ((HB.out.trans (hb2.mono HB.out.size)).trans (hb3.mono (HB.out.trans (hb2.mono HB.out.size)).size))
    have c3 := HI.out.cell 3 _ rfl
    clear hb2 hb3 HPa
    have HBu : Hid (Tryd.prog.built 38 [(4, .int .i64 4)] = some #[.int .i64 0, .int .i64 0, .int .i64 0, .int .i64 0, .int .i64 0, .int .i64 0, .int .i64 0, .int .i64 0, .slice none 0 0, .int .i64 0, .int .i64 0, .int .i64 4]) := hide (by kernel_rfl)
    have H1c : Hid ((#[.int .i64 0, .int .i64 0, .int .i64 0, .int .i64 0, .int .i64 0, .int .i64 0, .int .i64 0, .int .i64 0, .slice none 0 0, .int .i64 0, .int .i64 0, .int .i64 4] : Array Value).all (·.oneCell') = true) := hide (by simp [Value.oneCell'])
    have H1i : Hid ((Tryd.prog.info? 38).map (·.size) = some (#[.int .i64 0, .int .i64 0, .int .i64 0, .int .i64 0, .int .i64 0, .int .i64 0, .int .i64 0, .int .i64 0, .slice none 0 0, .int .i64 0, .int .i64 0, .int .i64 4] : Array Value).size) := hide (by kernel_rfl)
    go_wp2_with (first | (refine wpList_at (.build 38 #[(4, .const (.int .i64 4))]) rfl ?_; refine wpList_built rfl 38 #[(4, .const (.int .i64 4))] rfl _ rfl _ HBu.out ?_) | (refine wpList_at (.store 38 (.tmp 2) (.tmp 30)) rfl ?_; refine wpList_store_row rfl 38 (.tmp 2) (.tmp 30) rfl w.heap.size #[.int .i64 0, .int .i64 0, .int .i64 0, .int .i64 0, .int .i64 0, .int .i64 0, .int .i64 0, .int .i64 0, .slice none 0 0, .int .i64 0, .int .i64 0, .int .i64 4] rfl rfl 38 #[.int .i64 0, .int .i64 0, .int .i64 0, .int .i64 0, .int .i64 0, .int .i64 0, .int .i64 0, .int .i64 0, .slice none 0 0, .int .i64 0, .int .i64 0, .int .i64 0] HZ.out H1i.out (by simp) H1c.out ?_))
    have hz9 := setrow_blk (cs := #[.int .i64 0, .int .i64 0, .int .i64 0, .int .i64 0, .int .i64 0, .int .i64 0, .int .i64 0, .int .i64 0, .slice none 0 0, .int .i64 0, .int .i64 0, .int .i64 4]) HZ.out
    have hb9 := setrow_below (cs := #[.int .i64 0, .int .i64 0, .int .i64 0, .int .i64 0, .int .i64 0, .int .i64 0, .int .i64 0, .int .i64 0, .slice none 0 0, .int .i64 0, .int .i64 0, .int .i64 4]) HB.out (Nat.le_refl _)
    exact bodyPost_ret (ret_rvol rfl _ _ w.heap.size _ rfl hz9 rfl) rfl ⟨Or.inr ⟨by rw [HE.out]; decide, by rw [HE.out]; rfl⟩, hb9⟩
  have hqs : ¬ (m : Int) / 512 < b.secs := by omega
  have hcc : cq - cp = 512 := by omega
  have hc1 : cp ≤ cap ∧ cq ≤ cap ∧ cp ≤ cq := by omega
  obtain ⟨hc1, hc2, hc3⟩ := hc1
  have hc4 : ¬ cap = cp := by omega
  have hc5 : ¬ (cap : Int) < (cq : Int) := by omega
  have hc6 : ¬ (cq : Int) < (cp : Int) := by omega
  have hic : iq - ip = 512 := by omega
  have hi1 : ip ≤ cap ∧ iq ≤ cap ∧ ip ≤ iq := by omega
  obtain ⟨hi1, hi2, hi3⟩ := hi1
  have hi4 : ¬ cap = ip := by omega
  have hi5 : ¬ (cap : Int) < (iq : Int) := by omega
  have hi6 : ¬ (iq : Int) < (ip : Int) := by omega
  obtain ⟨pc, hpc⟩ : ∃ pc, pc = parC (secs d b.info 1) := ⟨_, rfl⟩
  obtain ⟨f, x, cz⟩ := pc
  have HCo : ∀ (u : World), Lies u (some ⟨b0, off, none⟩) d → Hid (Calls Tryd.prog 28 #[.slice (some ⟨b0, off + ip, none⟩) 512 (cap - ip)] u fun e w' => e = .returned (.tuple #[.int .i64 f, .int .i64 x, .int .i64 cz]) ∧ w' = u) := fun u hu => hide (by
    have hln := secs_len (d := d) (s := b.info) (n := 1) (by omega) (by omega) (by omega)
    have h1 : Lies u (some ⟨b0, off + ip, none⟩) (secs d b.info 1) := by have := hu.of_part ip 512; unfold secs; rw [show (b.info * 512).toNat = ip by omega]; exact this
    have h := rcounts_any (some ⟨b0, off + ip, none⟩) (cap - ip) (secs d b.info 1) u (by rw [hln]; decide) (hbd.secs _ _) h1
    rw [hln, ← hpc] at h
    exact h)
  obtain ⟨k, hkk⟩ : ∃ k : Nat, b.clus = (k : Int) := ⟨b.clus.toNat, by omega⟩
  have hKd : opnK d = k := by unfold opnK; rw [← hbe, hkk]; rfl
  have HE0 := hide (show opnE d = (if b.copy ≠ 0 ∧ secs d b.copy 1 ≠ secs d 0 1 then 11 else if cz ≠ 0 then cz else if b.tabs ≠ 1 ∧ secs d (b.ahead + b.long) b.long ≠ secs d b.ahead b.long then 11 else if f ≠ 4294967295 ∧ f ≠ frees (numsF (secs d b.ahead b.long) k) k then 23 else 0) by
    have e1 : (parC (secs d (opnB d).info 1)).2.2 = cz := by rw [← hbe, ← hpc]
    have e2 : (opnC d).1 = f := by unfold opnC; rw [← hbe, ← hpc]
    unfold opnE
    rw [if_neg (by rw [← hck]; simp), if_neg (by rw [← hbe, ← hm]; exact h2), e1, e2, hKd, ← hbe])
  have HCs := hide (show opnC d = (f, x) by unfold opnC; rw [← hbe, ← hpc])
  have HS0 : ∀ (u : World) (c : Nat), Lies u (some ⟨b0, off, none⟩) d → Hid (Calls Tryd.prog 27 #[.slice (some ⟨b0, off, none⟩) 512 c, .slice (some ⟨b0, off + cp, none⟩) 512 (cap - cp)] u fun e w' => e = .returned (.bool (decide (secs d 0 1 = secs d b.copy 1))) ∧ w' = u) := fun u c hu => hide (HSm u 0 cp 512 0 b.copy 1 c (cap - cp) hu (by omega) (by omega) (by omega) (by omega) (by omega) (by omega) (by omega) (by omega)).out
  obtain ⟨N, hN⟩ : ∃ N : Nat, 512 * b.long = (N : Int) := ⟨(512 * b.long).toNat, by omega⟩
  obtain ⟨F, hF⟩ : ∃ F : Nat, 512 * b.ahead = (F : Int) := ⟨(512 * b.ahead).toNat, by omega⟩
  have HDa := hide hda
  have HSz := hide (show (0 ≤ b.long ∧ 0 ≤ b.ahead ∧ 1 ≤ b.long) ∧ (b.tabs = 1 ∨ (b.tabs = 2 ∧ (b.ahead + b.long + b.long) * 512 ≤ (m : Int))) ∧ (b.ahead + b.long) * 512 ≤ (m : Int) ∧ m ≤ cap ∧ cap ≤ cap ∧ 512 * b.long = (N : Int) ∧ 512 * b.ahead = (F : Int) ∧ m ≤ 1000000 by
    have ht : b.tabs = 1 ∨ b.tabs = 2 := by omega
    rcases ht with e | e <;> rw [e] at hda htl ⊢ <;> omega)
  have HFo := hide hfo
  have HKd := hide hKd
  have HTn := hide (show (secs d b.ahead b.long).length = N by rw [secs_len (by omega) (by omega) (by have := HSz.out; omega)]; omega)
  have HTy := hide (show Byts (secs d b.ahead b.long) from hbd.secs _ _)
  have HNF := hide (show (b.ahead * 512).toNat = F ∧ (b.long * 512).toNat = N by omega)
  have HKn := hide (show (k : Int) ≤ 128 * b.long - 2 ∧ (k : Int) ≤ 32768 by omega)
  have HSm2 : b.tabs = 2 → ∀ (u : World) (c c' : Nat), Lies u (some ⟨b0, off, none⟩) d → Hid (Calls Tryd.prog 27 #[.slice (some ⟨b0, off + F, none⟩) N c, .slice (some ⟨b0, off + (F + N), none⟩) N c'] u fun e w' => e = .returned (.bool (decide (secs d b.ahead b.long = secs d (b.ahead + b.long) b.long))) ∧ w' = u) := fun ht u c c' hu => HSm u F (F + N) N b.ahead (b.ahead + b.long) b.long c c' hu (by omega) (by omega) (by omega) (by omega) (by omega) (by omega) (by have := ht; rw [ht] at hda; omega) (by rw [ht] at hda; omega)
  clear hw1 hb1 hl hbd h0 hcap hd hm hbe hck hpb HSm h2 hk hfo h1c h2c hcl0 hcl1 hda htl hcl q0 q1 q2 q3 q4 q5 q6 q7 q8 q9 q10 q11 q12 q13 hcp hcq hip hiq hpc
  go_enter Tryd.func7, Tryd.ntmps7
  go_wp2_with fail
  rw [← HW1.out]
  refine HPa.out.mono ?_
  rintro e9 w2 ⟨rfl, hb2⟩
  obtain ⟨w3, hw3⟩ : ∃ w3, w3 = w2.alloc (.cells #[.int .i64 b.each, .int .i64 b.ahead, .int .i64 b.tabs, .int .i64 b.secs, .int .i64 b.long, .int .i64 b.root, .int .i64 b.info, .int .i64 b.copy] 36) := ⟨_, rfl⟩
  have hb3 : Below w2.heap.size w2 w3 := by rw [hw3]; exact (Below.refl _ _).alloc (Nat.le_refl _) _
  have HI := hide (show Blk w3 w2.heap.size #[.int .i64 b.each, .int .i64 b.ahead, .int .i64 b.tabs, .int .i64 b.secs, .int .i64 b.long, .int .i64 b.root, .int .i64 b.info, .int .i64 b.copy] 36 by rw [hw3]; exact Blk.new w2 #[.int .i64 b.each, .int .i64 b.ahead, .int .i64 b.tabs, .int .i64 b.secs, .int .i64 b.long, .int .i64 b.root, .int .i64 b.info, .int .i64 b.copy] 36)
  have HZ := hide ((HZ.out.below hb2).below hb3)
  have HD := hide ((HD.out.below hb2).below hb3)
  have HB := hide ((HB.out.trans (hb2.mono HB.out.size)).trans (hb3.mono (HB.out.trans (hb2.mono HB.out.size)).size))
  have hRR : w.heap.size < w2.heap.size := by have := HZ.out.lt; have := hb2.size; have h9 : w1.heap.size = w.heap.size + 1 := by rw [HW1.out]; simp
                                              omega
  have c3 := HI.out.cell 3 _ rfl
  have HW3 := hide hw3
  rw [hw3] at c3
  have HRR := hide hRR
  clear hb2 hb3 HPa hw3 hRR
  go_upto_region 8 with fail
  rw [← HW3.out]
  clear c3
  go_cut [48] from 31 (fun v48 wx => v48 = .bool (decide (b.copy ≠ 0 ∧ secs d b.copy 1 ≠ secs d 0 1)) ∧ wx = w3.drew)
  case first =>
    by_cases hc0 : b.copy = 0
    · have hcn : (b.copy != 0) = false := by simpa using hc0
      have hdd : decide (b.copy ≠ 0 ∧ secs d b.copy 1 ≠ secs d 0 1) = false := by simp [hc0]
      have HDD := hide hdd
      clear hc0 hdd
      refine wp_region_held_drew (S := (fun u => u.cell? ⟨w2.heap.size, 7, none⟩ = some (.int .i64 b.copy))) (by kernel_rfl) (HI.out.drew.cell 7 _ rfl) (fun _ => ?_)
      refine any_take 0 (some 31) (.pointer (some ⟨w2.heap.size, 7, none⟩)) rfl rfl (by kernel_rfl) (by kernel_rfl) (by kernel_rfl) (fun _ _ _ h => h) (by rfl) (HI.out.drew.cell 7 _ rfl) ?_ ?_
      · intro w hSw
        have s0 : w.cell? ⟨w2.heap.size, 7, none⟩ = some (.int .i64 b.copy) := hSw
        go_simp
      simp only [Act.put, List.setIfInBounds_toArray, List.set_cons_zero, List.set_cons_succ]
      refine any_take 1 (some 32) (.int .i64 b.copy) rfl rfl (by kernel_rfl) (by kernel_rfl) (by kernel_rfl) (fun _ _ _ h => h) (by rfl) (HI.out.drew.cell 7 _ rfl) ?_ ?_
      · intro w hSw
        have s0 : w.cell? ⟨w2.heap.size, 7, none⟩ = some (.int .i64 b.copy) := hSw
        go_simp
      simp only [Act.put, List.setIfInBounds_toArray, List.set_cons_zero, List.set_cons_succ]
      refine any_take 2 (some 33) (.bool false) rfl rfl (by kernel_rfl) (by kernel_rfl) (by kernel_rfl) (fun _ _ _ h => h) (by rfl) (HI.out.drew.cell 7 _ rfl) ?_ ?_
      · intro w hSw
        have s0 : w.cell? ⟨w2.heap.size, 7, none⟩ = some (.int .i64 b.copy) := hSw
        go_simp
      simp only [Act.put, List.setIfInBounds_toArray, List.set_cons_zero, List.set_cons_succ]
      refine any_take 3 (some 34) (.bool false) rfl rfl (by kernel_rfl) (by kernel_rfl) (by kernel_rfl) (fun _ _ _ h => h) (by rfl) (HI.out.drew.cell 7 _ rfl) ?_ ?_
      · intro w hSw
        have s0 : w.cell? ⟨w2.heap.size, 7, none⟩ = some (.int .i64 b.copy) := hSw
        go_simp
      simp only [Act.put, List.setIfInBounds_toArray, List.set_cons_zero, List.set_cons_succ]
      refine any_skip 4 (some 35) rfl rfl (by kernel_rfl) (by kernel_rfl) (by kernel_rfl) (fun _ _ _ h => h) (by rfl) (HI.out.drew.cell 7 _ rfl) ?_
      simp only [Act.put, List.setIfInBounds_toArray, List.set_cons_zero, List.set_cons_succ]
      refine any_skip 5 (some 36) rfl rfl (by kernel_rfl) (by kernel_rfl) (by kernel_rfl) (fun _ _ _ h => h) (by rfl) (HI.out.drew.cell 7 _ rfl) ?_
      simp only [Act.put, List.setIfInBounds_toArray, List.set_cons_zero, List.set_cons_succ]
      refine any_skip 6 (some 37) rfl rfl (by kernel_rfl) (by kernel_rfl) (by kernel_rfl) (fun _ _ _ h => h) (by rfl) (HI.out.drew.cell 7 _ rfl) ?_
      simp only [Act.put, List.setIfInBounds_toArray, List.set_cons_zero, List.set_cons_succ]
      refine any_skip 7 (some 38) rfl rfl (by kernel_rfl) (by kernel_rfl) (by kernel_rfl) (fun _ _ _ h => h) (by rfl) (HI.out.drew.cell 7 _ rfl) ?_
      simp only [Act.put, List.setIfInBounds_toArray, List.set_cons_zero, List.set_cons_succ]
      refine any_skip 8 (some 39) rfl rfl (by kernel_rfl) (by kernel_rfl) (by kernel_rfl) (fun _ _ _ h => h) (by rfl) (HI.out.drew.cell 7 _ rfl) ?_
      simp only [Act.put, List.setIfInBounds_toArray, List.set_cons_zero, List.set_cons_succ]
      refine any_skip 9 (some 40) rfl rfl (by kernel_rfl) (by kernel_rfl) (by kernel_rfl) (fun _ _ _ h => h) (by rfl) (HI.out.drew.cell 7 _ rfl) ?_
      simp only [Act.put, List.setIfInBounds_toArray, List.set_cons_zero, List.set_cons_succ]
      refine any_skip 10 (some 41) rfl rfl (by kernel_rfl) (by kernel_rfl) (by kernel_rfl) (fun _ _ _ h => h) (by rfl) (HI.out.drew.cell 7 _ rfl) ?_
      simp only [Act.put, List.setIfInBounds_toArray, List.set_cons_zero, List.set_cons_succ]
      refine any_skip 11 (some 42) rfl rfl (by kernel_rfl) (by kernel_rfl) (by kernel_rfl) (fun _ _ _ h => h) (by rfl) (HI.out.drew.cell 7 _ rfl) ?_
      simp only [Act.put, List.setIfInBounds_toArray, List.set_cons_zero, List.set_cons_succ]
      refine any_skip 12 (some 43) rfl rfl (by kernel_rfl) (by kernel_rfl) (by kernel_rfl) (fun _ _ _ h => h) (by rfl) (HI.out.drew.cell 7 _ rfl) ?_
      simp only [Act.put, List.setIfInBounds_toArray, List.set_cons_zero, List.set_cons_succ]
      refine any_skip 13 (some 44) rfl rfl (by kernel_rfl) (by kernel_rfl) (by kernel_rfl) (fun _ _ _ h => h) (by rfl) (HI.out.drew.cell 7 _ rfl) ?_
      simp only [Act.put, List.setIfInBounds_toArray, List.set_cons_zero, List.set_cons_succ]
      refine any_skip 14 (some 45) rfl rfl (by kernel_rfl) (by kernel_rfl) (by kernel_rfl) (fun _ _ _ h => h) (by rfl) (HI.out.drew.cell 7 _ rfl) ?_
      simp only [Act.put, List.setIfInBounds_toArray, List.set_cons_zero, List.set_cons_succ]
      refine any_skip 15 (some 46) rfl rfl (by kernel_rfl) (by kernel_rfl) (by kernel_rfl) (fun _ _ _ h => h) (by rfl) (HI.out.drew.cell 7 _ rfl) ?_
      simp only [Act.put, List.setIfInBounds_toArray, List.set_cons_zero, List.set_cons_succ]
      refine any_skip 16 (some 47) rfl rfl (by kernel_rfl) (by kernel_rfl) (by kernel_rfl) (fun _ _ _ h => h) (by rfl) (HI.out.drew.cell 7 _ rfl) ?_
      simp only [Act.put, List.setIfInBounds_toArray, List.set_cons_zero, List.set_cons_succ]
      refine any_take 17 (some 48) (.bool false) rfl rfl (by kernel_rfl) (by kernel_rfl) (by kernel_rfl) (fun _ _ _ h => h) (by rfl) (HI.out.drew.cell 7 _ rfl) ?_ ?_
      · intro w hSw
        have s0 : w.cell? ⟨w2.heap.size, 7, none⟩ = some (.int .i64 b.copy) := hSw
        go_simp
      simp only [Act.put, List.setIfInBounds_toArray, List.set_cons_zero, List.set_cons_succ]
      refine wpAnyH_done (by kernel_rfl) ?_ _
      try go_wp2
      go_meet
      exact ⟨congrArg Value.bool HDD.out.symm, rfl⟩
    · have hcn : (b.copy != 0) = true := by simpa using hc0
      by_cases hcs : secs d b.copy 1 = secs d 0 1
      · have hdd : decide (b.copy ≠ 0 ∧ secs d b.copy 1 ≠ secs d 0 1) = false := by simp [hcs]
        have HDD := hide hdd
        have HS0 : ∀ (u : World) (c : Nat), Lies u (some ⟨b0, off, none⟩) d → Hid (Calls Tryd.prog 27 #[.slice (some ⟨b0, off, none⟩) 512 c, .slice (some ⟨b0, off + cp, none⟩) 512 (cap - cp)] u fun e w' => e = .returned (.bool true) ∧ w' = u) := fun u c hu => hide (by have h := (HS0 u c hu).out; rw [decide_eq_true hcs.symm] at h; exact h)
        clear hc0 hcs hdd
        refine wp_region_held_drew (S := (fun u => u.cell? ⟨w2.heap.size, 7, none⟩ = some (.int .i64 b.copy))) (by kernel_rfl) (HI.out.drew.cell 7 _ rfl) (fun _ => ?_)
        refine any_take 0 (some 31) (.pointer (some ⟨w2.heap.size, 7, none⟩)) rfl rfl (by kernel_rfl) (by kernel_rfl) (by kernel_rfl) (fun _ _ _ h => h) (by rfl) (HI.out.drew.cell 7 _ rfl) ?_ ?_
        · intro w hSw
          have s0 : w.cell? ⟨w2.heap.size, 7, none⟩ = some (.int .i64 b.copy) := hSw
          go_simp
        simp only [Act.put, List.setIfInBounds_toArray, List.set_cons_zero, List.set_cons_succ]
        refine any_take 1 (some 32) (.int .i64 b.copy) rfl rfl (by kernel_rfl) (by kernel_rfl) (by kernel_rfl) (fun _ _ _ h => h) (by rfl) (HI.out.drew.cell 7 _ rfl) ?_ ?_
        · intro w hSw
          have s0 : w.cell? ⟨w2.heap.size, 7, none⟩ = some (.int .i64 b.copy) := hSw
          go_simp
        simp only [Act.put, List.setIfInBounds_toArray, List.set_cons_zero, List.set_cons_succ]
        refine any_take 2 (some 33) (.bool true) rfl rfl (by kernel_rfl) (by kernel_rfl) (by kernel_rfl) (fun _ _ _ h => h) (by rfl) (HI.out.drew.cell 7 _ rfl) ?_ ?_
        · intro w hSw
          have s0 : w.cell? ⟨w2.heap.size, 7, none⟩ = some (.int .i64 b.copy) := hSw
          go_simp
        simp only [Act.put, List.setIfInBounds_toArray, List.set_cons_zero, List.set_cons_succ]
        refine any_take 3 (some 34) (.bool true) rfl rfl (by kernel_rfl) (by kernel_rfl) (by kernel_rfl) (fun _ _ _ h => h) (by rfl) (HI.out.drew.cell 7 _ rfl) ?_ ?_
        · intro w hSw
          have s0 : w.cell? ⟨w2.heap.size, 7, none⟩ = some (.int .i64 b.copy) := hSw
          go_simp
        simp only [Act.put, List.setIfInBounds_toArray, List.set_cons_zero, List.set_cons_succ]
        refine any_take 4 (some 35) (.slice (some ⟨b0, off, none⟩) m cap) rfl rfl (by kernel_rfl) (by kernel_rfl) (by kernel_rfl) (fun _ _ _ h => h) (by rfl) (HI.out.drew.cell 7 _ rfl) ?_ ?_
        · intro w hSw
          have s0 : w.cell? ⟨w2.heap.size, 7, none⟩ = some (.int .i64 b.copy) := hSw
          go_simp
        simp only [Act.put, List.setIfInBounds_toArray, List.set_cons_zero, List.set_cons_succ]
        refine any_take 5 (some 36) (.slice (some ⟨b0, off, none⟩) 512 cap) rfl rfl (by kernel_rfl) (by kernel_rfl) (by kernel_rfl) (fun _ _ _ h => h) (by rfl) (HI.out.drew.cell 7 _ rfl) ?_ ?_
        · intro w hSw
          have s0 : w.cell? ⟨w2.heap.size, 7, none⟩ = some (.int .i64 b.copy) := hSw
          go_simp
        simp only [Act.put, List.setIfInBounds_toArray, List.set_cons_zero, List.set_cons_succ]
        refine any_take 6 (some 37) (.slice (some ⟨b0, off, none⟩) m cap) rfl rfl (by kernel_rfl) (by kernel_rfl) (by kernel_rfl) (fun _ _ _ h => h) (by rfl) (HI.out.drew.cell 7 _ rfl) ?_ ?_
        · intro w hSw
          have s0 : w.cell? ⟨w2.heap.size, 7, none⟩ = some (.int .i64 b.copy) := hSw
          go_simp
        simp only [Act.put, List.setIfInBounds_toArray, List.set_cons_zero, List.set_cons_succ]
        refine any_take 7 (some 38) (.pointer (some ⟨w2.heap.size, 7, none⟩)) rfl rfl (by kernel_rfl) (by kernel_rfl) (by kernel_rfl) (fun _ _ _ h => h) (by rfl) (HI.out.drew.cell 7 _ rfl) ?_ ?_
        · intro w hSw
          have s0 : w.cell? ⟨w2.heap.size, 7, none⟩ = some (.int .i64 b.copy) := hSw
          go_simp
        simp only [Act.put, List.setIfInBounds_toArray, List.set_cons_zero, List.set_cons_succ]
        refine any_take 8 (some 39) (.int .i64 b.copy) rfl rfl (by kernel_rfl) (by kernel_rfl) (by kernel_rfl) (fun _ _ _ h => h) (by rfl) (HI.out.drew.cell 7 _ rfl) ?_ ?_
        · intro w hSw
          have s0 : w.cell? ⟨w2.heap.size, 7, none⟩ = some (.int .i64 b.copy) := hSw
          go_simp
        simp only [Act.put, List.setIfInBounds_toArray, List.set_cons_zero, List.set_cons_succ]
        refine any_take 9 (some 40) (.int .i64 (cp : Int)) rfl rfl (by kernel_rfl) (by kernel_rfl) (by kernel_rfl) (fun _ _ _ h => h) (by rfl) (HI.out.drew.cell 7 _ rfl) ?_ ?_
        · intro w hSw
          have s0 : w.cell? ⟨w2.heap.size, 7, none⟩ = some (.int .i64 b.copy) := hSw
          go_simp
        simp only [Act.put, List.setIfInBounds_toArray, List.set_cons_zero, List.set_cons_succ]
        refine any_take 10 (some 41) (.pointer (some ⟨w2.heap.size, 7, none⟩)) rfl rfl (by kernel_rfl) (by kernel_rfl) (by kernel_rfl) (fun _ _ _ h => h) (by rfl) (HI.out.drew.cell 7 _ rfl) ?_ ?_
        · intro w hSw
          have s0 : w.cell? ⟨w2.heap.size, 7, none⟩ = some (.int .i64 b.copy) := hSw
          go_simp
        simp only [Act.put, List.setIfInBounds_toArray, List.set_cons_zero, List.set_cons_succ]
        refine any_take 11 (some 42) (.int .i64 b.copy) rfl rfl (by kernel_rfl) (by kernel_rfl) (by kernel_rfl) (fun _ _ _ h => h) (by rfl) (HI.out.drew.cell 7 _ rfl) ?_ ?_
        · intro w hSw
          have s0 : w.cell? ⟨w2.heap.size, 7, none⟩ = some (.int .i64 b.copy) := hSw
          go_simp
        simp only [Act.put, List.setIfInBounds_toArray, List.set_cons_zero, List.set_cons_succ]
        refine any_take 12 (some 43) (.int .i64 (cp : Int)) rfl rfl (by kernel_rfl) (by kernel_rfl) (by kernel_rfl) (fun _ _ _ h => h) (by rfl) (HI.out.drew.cell 7 _ rfl) ?_ ?_
        · intro w hSw
          have s0 : w.cell? ⟨w2.heap.size, 7, none⟩ = some (.int .i64 b.copy) := hSw
          go_simp
        simp only [Act.put, List.setIfInBounds_toArray, List.set_cons_zero, List.set_cons_succ]
        refine any_take 13 (some 44) (.int .i64 (cq : Int)) rfl rfl (by kernel_rfl) (by kernel_rfl) (by kernel_rfl) (fun _ _ _ h => h) (by rfl) (HI.out.drew.cell 7 _ rfl) ?_ ?_
        · intro w hSw
          have s0 : w.cell? ⟨w2.heap.size, 7, none⟩ = some (.int .i64 b.copy) := hSw
          go_simp
        simp only [Act.put, List.setIfInBounds_toArray, List.set_cons_zero, List.set_cons_succ]
        refine any_take 14 (some 45) (.slice (some ⟨b0, off + cp, none⟩) 512 (cap - cp)) rfl rfl (by kernel_rfl) (by kernel_rfl) (by kernel_rfl) (fun _ _ _ h => h) (by rfl) (HI.out.drew.cell 7 _ rfl) ?_ ?_
        · intro w hSw
          have s0 : w.cell? ⟨w2.heap.size, 7, none⟩ = some (.int .i64 b.copy) := hSw
          go_simp
        simp only [Act.put, List.setIfInBounds_toArray, List.set_cons_zero, List.set_cons_succ]
        refine wpAnyH_ready (rs := [15]) (by kernel_rfl) (by simp) ?_
        refine AllReadyH.cons (i := 15) rfl (fun K hK => ?_) AllReadyH.nil
        go_simp
        refine (HS0 _ _ HD.out.drew).out.mono ?_
        rintro e9 w5 ⟨rfl, h5⟩
        rw [h5]
        clear h5
        go_simp
        refine hK.out _ _ (HI.out.drew.cell 7 _ rfl) (fun _ => ?_)
        clear hK K
        try simp only [Act.put, List.setIfInBounds_toArray, List.set_cons_zero, List.set_cons_succ]
        refine any_take 16 (some 47) (.bool false) rfl rfl (by kernel_rfl) (by kernel_rfl) (by kernel_rfl) (fun _ _ _ h => h) (by rfl) (HI.out.drew.cell 7 _ rfl) ?_ ?_
        · intro w hSw
          have s0 : w.cell? ⟨w2.heap.size, 7, none⟩ = some (.int .i64 b.copy) := hSw
          go_simp
        simp only [Act.put, List.setIfInBounds_toArray, List.set_cons_zero, List.set_cons_succ]
        refine any_take 17 (some 48) (.bool false) rfl rfl (by kernel_rfl) (by kernel_rfl) (by kernel_rfl) (fun _ _ _ h => h) (by rfl) (HI.out.drew.cell 7 _ rfl) ?_ ?_
        · intro w hSw
          have s0 : w.cell? ⟨w2.heap.size, 7, none⟩ = some (.int .i64 b.copy) := hSw
          go_simp
        simp only [Act.put, List.setIfInBounds_toArray, List.set_cons_zero, List.set_cons_succ]
        refine wpAnyH_done (by kernel_rfl) ?_ _
        try go_wp2
        go_meet
        exact ⟨congrArg Value.bool HDD.out.symm, rfl⟩
      · have hdd : decide (b.copy ≠ 0 ∧ secs d b.copy 1 ≠ secs d 0 1) = true := by simpa using ⟨hc0, hcs⟩
        have HDD := hide hdd
        have HS0 : ∀ (u : World) (c : Nat), Lies u (some ⟨b0, off, none⟩) d → Hid (Calls Tryd.prog 27 #[.slice (some ⟨b0, off, none⟩) 512 c, .slice (some ⟨b0, off + cp, none⟩) 512 (cap - cp)] u fun e w' => e = .returned (.bool false) ∧ w' = u) := fun u c hu => hide (by have h := (HS0 u c hu).out; rw [decide_eq_false (fun e => hcs e.symm)] at h; exact h)
        clear hc0 hcs hdd
        refine wp_region_held_drew (S := (fun u => u.cell? ⟨w2.heap.size, 7, none⟩ = some (.int .i64 b.copy))) (by kernel_rfl) (HI.out.drew.cell 7 _ rfl) (fun _ => ?_)
        refine any_take 0 (some 31) (.pointer (some ⟨w2.heap.size, 7, none⟩)) rfl rfl (by kernel_rfl) (by kernel_rfl) (by kernel_rfl) (fun _ _ _ h => h) (by rfl) (HI.out.drew.cell 7 _ rfl) ?_ ?_
        · intro w hSw
          have s0 : w.cell? ⟨w2.heap.size, 7, none⟩ = some (.int .i64 b.copy) := hSw
          go_simp
        simp only [Act.put, List.setIfInBounds_toArray, List.set_cons_zero, List.set_cons_succ]
        refine any_take 1 (some 32) (.int .i64 b.copy) rfl rfl (by kernel_rfl) (by kernel_rfl) (by kernel_rfl) (fun _ _ _ h => h) (by rfl) (HI.out.drew.cell 7 _ rfl) ?_ ?_
        · intro w hSw
          have s0 : w.cell? ⟨w2.heap.size, 7, none⟩ = some (.int .i64 b.copy) := hSw
          go_simp
        simp only [Act.put, List.setIfInBounds_toArray, List.set_cons_zero, List.set_cons_succ]
        refine any_take 2 (some 33) (.bool true) rfl rfl (by kernel_rfl) (by kernel_rfl) (by kernel_rfl) (fun _ _ _ h => h) (by rfl) (HI.out.drew.cell 7 _ rfl) ?_ ?_
        · intro w hSw
          have s0 : w.cell? ⟨w2.heap.size, 7, none⟩ = some (.int .i64 b.copy) := hSw
          go_simp
        simp only [Act.put, List.setIfInBounds_toArray, List.set_cons_zero, List.set_cons_succ]
        refine any_take 3 (some 34) (.bool true) rfl rfl (by kernel_rfl) (by kernel_rfl) (by kernel_rfl) (fun _ _ _ h => h) (by rfl) (HI.out.drew.cell 7 _ rfl) ?_ ?_
        · intro w hSw
          have s0 : w.cell? ⟨w2.heap.size, 7, none⟩ = some (.int .i64 b.copy) := hSw
          go_simp
        simp only [Act.put, List.setIfInBounds_toArray, List.set_cons_zero, List.set_cons_succ]
        refine any_take 4 (some 35) (.slice (some ⟨b0, off, none⟩) m cap) rfl rfl (by kernel_rfl) (by kernel_rfl) (by kernel_rfl) (fun _ _ _ h => h) (by rfl) (HI.out.drew.cell 7 _ rfl) ?_ ?_
        · intro w hSw
          have s0 : w.cell? ⟨w2.heap.size, 7, none⟩ = some (.int .i64 b.copy) := hSw
          go_simp
        simp only [Act.put, List.setIfInBounds_toArray, List.set_cons_zero, List.set_cons_succ]
        refine any_take 5 (some 36) (.slice (some ⟨b0, off, none⟩) 512 cap) rfl rfl (by kernel_rfl) (by kernel_rfl) (by kernel_rfl) (fun _ _ _ h => h) (by rfl) (HI.out.drew.cell 7 _ rfl) ?_ ?_
        · intro w hSw
          have s0 : w.cell? ⟨w2.heap.size, 7, none⟩ = some (.int .i64 b.copy) := hSw
          go_simp
        simp only [Act.put, List.setIfInBounds_toArray, List.set_cons_zero, List.set_cons_succ]
        refine any_take 6 (some 37) (.slice (some ⟨b0, off, none⟩) m cap) rfl rfl (by kernel_rfl) (by kernel_rfl) (by kernel_rfl) (fun _ _ _ h => h) (by rfl) (HI.out.drew.cell 7 _ rfl) ?_ ?_
        · intro w hSw
          have s0 : w.cell? ⟨w2.heap.size, 7, none⟩ = some (.int .i64 b.copy) := hSw
          go_simp
        simp only [Act.put, List.setIfInBounds_toArray, List.set_cons_zero, List.set_cons_succ]
        refine any_take 7 (some 38) (.pointer (some ⟨w2.heap.size, 7, none⟩)) rfl rfl (by kernel_rfl) (by kernel_rfl) (by kernel_rfl) (fun _ _ _ h => h) (by rfl) (HI.out.drew.cell 7 _ rfl) ?_ ?_
        · intro w hSw
          have s0 : w.cell? ⟨w2.heap.size, 7, none⟩ = some (.int .i64 b.copy) := hSw
          go_simp
        simp only [Act.put, List.setIfInBounds_toArray, List.set_cons_zero, List.set_cons_succ]
        refine any_take 8 (some 39) (.int .i64 b.copy) rfl rfl (by kernel_rfl) (by kernel_rfl) (by kernel_rfl) (fun _ _ _ h => h) (by rfl) (HI.out.drew.cell 7 _ rfl) ?_ ?_
        · intro w hSw
          have s0 : w.cell? ⟨w2.heap.size, 7, none⟩ = some (.int .i64 b.copy) := hSw
          go_simp
        simp only [Act.put, List.setIfInBounds_toArray, List.set_cons_zero, List.set_cons_succ]
        refine any_take 9 (some 40) (.int .i64 (cp : Int)) rfl rfl (by kernel_rfl) (by kernel_rfl) (by kernel_rfl) (fun _ _ _ h => h) (by rfl) (HI.out.drew.cell 7 _ rfl) ?_ ?_
        · intro w hSw
          have s0 : w.cell? ⟨w2.heap.size, 7, none⟩ = some (.int .i64 b.copy) := hSw
          go_simp
        simp only [Act.put, List.setIfInBounds_toArray, List.set_cons_zero, List.set_cons_succ]
        refine any_take 10 (some 41) (.pointer (some ⟨w2.heap.size, 7, none⟩)) rfl rfl (by kernel_rfl) (by kernel_rfl) (by kernel_rfl) (fun _ _ _ h => h) (by rfl) (HI.out.drew.cell 7 _ rfl) ?_ ?_
        · intro w hSw
          have s0 : w.cell? ⟨w2.heap.size, 7, none⟩ = some (.int .i64 b.copy) := hSw
          go_simp
        simp only [Act.put, List.setIfInBounds_toArray, List.set_cons_zero, List.set_cons_succ]
        refine any_take 11 (some 42) (.int .i64 b.copy) rfl rfl (by kernel_rfl) (by kernel_rfl) (by kernel_rfl) (fun _ _ _ h => h) (by rfl) (HI.out.drew.cell 7 _ rfl) ?_ ?_
        · intro w hSw
          have s0 : w.cell? ⟨w2.heap.size, 7, none⟩ = some (.int .i64 b.copy) := hSw
          go_simp
        simp only [Act.put, List.setIfInBounds_toArray, List.set_cons_zero, List.set_cons_succ]
        refine any_take 12 (some 43) (.int .i64 (cp : Int)) rfl rfl (by kernel_rfl) (by kernel_rfl) (by kernel_rfl) (fun _ _ _ h => h) (by rfl) (HI.out.drew.cell 7 _ rfl) ?_ ?_
        · intro w hSw
          have s0 : w.cell? ⟨w2.heap.size, 7, none⟩ = some (.int .i64 b.copy) := hSw
          go_simp
        simp only [Act.put, List.setIfInBounds_toArray, List.set_cons_zero, List.set_cons_succ]
        refine any_take 13 (some 44) (.int .i64 (cq : Int)) rfl rfl (by kernel_rfl) (by kernel_rfl) (by kernel_rfl) (fun _ _ _ h => h) (by rfl) (HI.out.drew.cell 7 _ rfl) ?_ ?_
        · intro w hSw
          have s0 : w.cell? ⟨w2.heap.size, 7, none⟩ = some (.int .i64 b.copy) := hSw
          go_simp
        simp only [Act.put, List.setIfInBounds_toArray, List.set_cons_zero, List.set_cons_succ]
        refine any_take 14 (some 45) (.slice (some ⟨b0, off + cp, none⟩) 512 (cap - cp)) rfl rfl (by kernel_rfl) (by kernel_rfl) (by kernel_rfl) (fun _ _ _ h => h) (by rfl) (HI.out.drew.cell 7 _ rfl) ?_ ?_
        · intro w hSw
          have s0 : w.cell? ⟨w2.heap.size, 7, none⟩ = some (.int .i64 b.copy) := hSw
          go_simp
        simp only [Act.put, List.setIfInBounds_toArray, List.set_cons_zero, List.set_cons_succ]
        refine wpAnyH_ready (rs := [15]) (by kernel_rfl) (by simp) ?_
        refine AllReadyH.cons (i := 15) rfl (fun K hK => ?_) AllReadyH.nil
        go_simp
        refine (HS0 _ _ HD.out.drew).out.mono ?_
        rintro e9 w5 ⟨rfl, h5⟩
        rw [h5]
        clear h5
        go_simp
        refine hK.out _ _ (HI.out.drew.cell 7 _ rfl) (fun _ => ?_)
        clear hK K
        try simp only [Act.put, List.setIfInBounds_toArray, List.set_cons_zero, List.set_cons_succ]
        refine any_take 16 (some 47) (.bool true) rfl rfl (by kernel_rfl) (by kernel_rfl) (by kernel_rfl) (fun _ _ _ h => h) (by rfl) (HI.out.drew.cell 7 _ rfl) ?_ ?_
        · intro w hSw
          have s0 : w.cell? ⟨w2.heap.size, 7, none⟩ = some (.int .i64 b.copy) := hSw
          go_simp
        simp only [Act.put, List.setIfInBounds_toArray, List.set_cons_zero, List.set_cons_succ]
        refine any_take 17 (some 48) (.bool true) rfl rfl (by kernel_rfl) (by kernel_rfl) (by kernel_rfl) (fun _ _ _ h => h) (by rfl) (HI.out.drew.cell 7 _ rfl) ?_ ?_
        · intro w hSw
          have s0 : w.cell? ⟨w2.heap.size, 7, none⟩ = some (.int .i64 b.copy) := hSw
          go_simp
        simp only [Act.put, List.setIfInBounds_toArray, List.set_cons_zero, List.set_cons_succ]
        refine wpAnyH_done (by kernel_rfl) ?_ _
        try go_wp2
        go_meet
        exact ⟨congrArg Value.bool HDD.out.symm, rfl⟩
  case rest =>
    obtain ⟨rfl, rfl⟩ := hcut
    by_cases hB8 : b.copy ≠ 0 ∧ secs d b.copy 1 ≠ secs d 0 1
    · have hdd : decide (b.copy ≠ 0 ∧ secs d b.copy 1 ≠ secs d 0 1) = true := by simpa using hB8
      have HE := hide (show opnE d = 11 by rw [HE0.out, if_pos hB8])
      rw [hdd]
      have HZ := hide HZ.out.drew
      have HB := hide HB.out.drew
      clear hB8 hdd
      have HBu : Hid (Tryd.prog.built 38 [(4, .int .i64 11)] = some #[.int .i64 0, .int .i64 0, .int .i64 0, .int .i64 0, .int .i64 0, .int .i64 0, .int .i64 0, .int .i64 0, .slice none 0 0, .int .i64 0, .int .i64 0, .int .i64 11]) := hide (by kernel_rfl)
      have H1c : Hid ((#[.int .i64 0, .int .i64 0, .int .i64 0, .int .i64 0, .int .i64 0, .int .i64 0, .int .i64 0, .int .i64 0, .slice none 0 0, .int .i64 0, .int .i64 0, .int .i64 11] : Array Value).all (·.oneCell') = true) := hide (by simp [Value.oneCell'])
      have H1i : Hid ((Tryd.prog.info? 38).map (·.size) = some (#[.int .i64 0, .int .i64 0, .int .i64 0, .int .i64 0, .int .i64 0, .int .i64 0, .int .i64 0, .int .i64 0, .slice none 0 0, .int .i64 0, .int .i64 0, .int .i64 11] : Array Value).size) := hide (by kernel_rfl)
      go_wp2_with (first | (refine wpList_at (.build 38 #[(4, .const (.int .i64 11))]) rfl ?_; refine wpList_built rfl 38 #[(4, .const (.int .i64 11))] rfl _ rfl _ HBu.out ?_) | (refine wpList_at (.store 38 (.tmp 2) (.tmp 49)) rfl ?_; refine wpList_store_row rfl 38 (.tmp 2) (.tmp 49) rfl w.heap.size #[.int .i64 0, .int .i64 0, .int .i64 0, .int .i64 0, .int .i64 0, .int .i64 0, .int .i64 0, .int .i64 0, .slice none 0 0, .int .i64 0, .int .i64 0, .int .i64 11] rfl rfl 38 #[.int .i64 0, .int .i64 0, .int .i64 0, .int .i64 0, .int .i64 0, .int .i64 0, .int .i64 0, .int .i64 0, .slice none 0 0, .int .i64 0, .int .i64 0, .int .i64 0] HZ.out H1i.out (by simp) H1c.out ?_))
      have hz9 := setrow_blk (cs := #[.int .i64 0, .int .i64 0, .int .i64 0, .int .i64 0, .int .i64 0, .int .i64 0, .int .i64 0, .int .i64 0, .slice none 0 0, .int .i64 0, .int .i64 0, .int .i64 11]) HZ.out
      have hb9 := setrow_below (cs := #[.int .i64 0, .int .i64 0, .int .i64 0, .int .i64 0, .int .i64 0, .int .i64 0, .int .i64 0, .int .i64 0, .slice none 0 0, .int .i64 0, .int .i64 0, .int .i64 11]) HB.out (Nat.le_refl _)
      exact bodyPost_ret (ret_rvol rfl _ _ w.heap.size _ rfl hz9 rfl) rfl ⟨Or.inr ⟨by rw [HE.out]; decide, by rw [HE.out]; rfl⟩, hb9⟩
    have hdd : decide (b.copy ≠ 0 ∧ secs d b.copy 1 ≠ secs d 0 1) = false := by simpa using hB8
    have HE0 := hide (HE0.out.trans (if_neg hB8))
    rw [hdd]
    clear hB8 hdd
    have HBv : Hid (Tryd.prog.built 38 [(0, .agg #[.int .i64 b.each, .int .i64 b.ahead, .int .i64 b.tabs, .int .i64 b.secs, .int .i64 b.long, .int .i64 b.root, .int .i64 b.info, .int .i64 b.copy])] = some #[.int .i64 b.each, .int .i64 b.ahead, .int .i64 b.tabs, .int .i64 b.secs, .int .i64 b.long, .int .i64 b.root, .int .i64 b.info, .int .i64 b.copy, .slice none 0 0, .int .i64 0, .int .i64 0, .int .i64 0]) := hide (by kernel_rfl)
    obtain ⟨w5, hw5⟩ : ∃ w5, w5 = (w3.alloc (.cells #[.int .i64 b.each, .int .i64 b.ahead, .int .i64 b.tabs, .int .i64 b.secs, .int .i64 b.long, .int .i64 b.root, .int .i64 b.info, .int .i64 b.copy, .slice none 0 0, .int .i64 0, .int .i64 0, .int .i64 0] 38)).drew := ⟨_, rfl⟩
    have hb5 : Below w3.heap.size w3 w5 := by rw [hw5]; exact ((Below.refl w3.heap.size w3).alloc (Nat.le_refl _) (.cells #[.int .i64 b.each, .int .i64 b.ahead, .int .i64 b.tabs, .int .i64 b.secs, .int .i64 b.long, .int .i64 b.root, .int .i64 b.info, .int .i64 b.copy, .slice none 0 0, .int .i64 0, .int .i64 0, .int .i64 0] 38)).drew
    have HV := hide (show Blk w5 w3.heap.size #[.int .i64 b.each, .int .i64 b.ahead, .int .i64 b.tabs, .int .i64 b.secs, .int .i64 b.long, .int .i64 b.root, .int .i64 b.info, .int .i64 b.copy, .slice none 0 0, .int .i64 0, .int .i64 0, .int .i64 0] 38 by rw [hw5]; exact (Blk.new w3 #[.int .i64 b.each, .int .i64 b.ahead, .int .i64 b.tabs, .int .i64 b.secs, .int .i64 b.long, .int .i64 b.root, .int .i64 b.info, .int .i64 b.copy, .slice none 0 0, .int .i64 0, .int .i64 0, .int .i64 0] 38).drew)
    obtain ⟨c0, c1, c2, c3, c4, c5, c6, c7⟩ := cells_of (b := b) HI.out
    have HI3 := HI
    have HI := hide (HI.out.below hb5)
    have HZ := hide (HZ.out.below hb5)
    have HD := hide (HD.out.below hb5)
    have HB := hide (HB.out.trans (hb5.mono HB.out.size))
    have HCo := HCo w5 HD.out
    have HLt := hide (show w2.heap.size < w3.heap.size from HI3.out.lt)
    have HLz := hide (show w.heap.size < w3.heap.size by have := HRR.out; have := HLt.out; omega)
    have e6 : (w3.alloc (.cells #[.int .i64 b.each, .int .i64 b.ahead, .int .i64 b.tabs, .int .i64 b.secs, .int .i64 b.long, .int .i64 b.root, .int .i64 b.info, .int .i64 b.copy, .slice none 0 0, .int .i64 0, .int .i64 0, .int .i64 0] 38)).cell? ⟨w2.heap.size, 6, none⟩ = some (.int .i64 b.info) := by have h9 := HI.out.cell 6 _ rfl; rw [hw5] at h9; exact h9
    have HW5 := hide hw5
    clear hb5 hw5
    go_wp2_with (refine wpList_at (.build 38 #[(0, .tmp 50)]) rfl ?_; refine wpList_built rfl 38 #[(0, .tmp 50)] rfl [(0, .agg #[.int .i64 b.each, .int .i64 b.ahead, .int .i64 b.tabs, .int .i64 b.secs, .int .i64 b.long, .int .i64 b.root, .int .i64 b.info, .int .i64 b.copy])] (by rfl) #[.int .i64 b.each, .int .i64 b.ahead, .int .i64 b.tabs, .int .i64 b.secs, .int .i64 b.long, .int .i64 b.root, .int .i64 b.info, .int .i64 b.copy, .slice none 0 0, .int .i64 0, .int .i64 0, .int .i64 0] HBv.out ?_)
    rw [← HW5.out]
    refine HCo.out.mono ?_
    rintro e9 w6 ⟨rfl, h6⟩
    rw [h6]
    clear h6 c0 c1 c2 c3 c4 c5 c6 c7 e6 HBv HW5 HCo HI3
    have v9 := HV.out.cell 9 _ rfl
    have v10 := HV.out.cell 10 _ rfl
    have g9 := HV.out.frozen 9
    have g10 := HV.out.frozen 10
    obtain ⟨w6, hw6⟩ : ∃ w6, w6 = (w5.setCell ⟨w3.heap.size, 9, none⟩ (.int .i64 f)).setCell ⟨w3.heap.size, 10, none⟩ (.int .i64 x) := ⟨_, rfl⟩
    have hc6 : Chg (fun i => i = w3.heap.size) w5 w6 := by rw [hw6]; exact ((Chg.refl (fun i => i = w3.heap.size) w5).setC w3.heap.size 9 (.int .i64 f) rfl).setC w3.heap.size 10 (.int .i64 x) rfl
    have hV6 : Blk w6 w3.heap.size #[.int .i64 b.each, .int .i64 b.ahead, .int .i64 b.tabs, .int .i64 b.secs, .int .i64 b.long, .int .i64 b.root, .int .i64 b.info, .int .i64 b.copy, .slice none 0 0, .int .i64 f, .int .i64 x, .int .i64 0] 38 := by rw [hw6]; exact (HV.out.set 9 (.int .i64 f)).set 10 (.int .i64 x)
    have HI := hide (HI.out.chg hc6 (by have := HLt.out; omega))
    have HZ := hide (HZ.out.chg hc6 (by have := HLz.out; omega))
    have HD := hide (HD.out.chg hc6 (by
      intro ad e
      have h1 := HLf.out
      have h3 := HLz.out
      cases e
      intro h2
      exact absurd (show b0 = w3.heap.size from h2) (by omega)))
    have HB := hide (HB.out.trans (Chg.below w.heap.size hc6 HB.out.size (fun i hi => by have := HLz.out; omega)))
    have HV := hide hV6
    have HW6 := hide hw6
    clear hc6 hV6 hw6
    by_cases hcz : cz = 0
    rotate_left
    · have HE := hide (show opnE d = cz by rw [HE0.out, if_pos hcz])
      have HNz := hide hcz
      have hzd : (cz != 0) = true := by simpa using hcz
      rw [HW6.out] at HZ HB
      clear hcz
      have HBu : Hid (Tryd.prog.built 38 [(4, .int .i64 cz)] = some #[.int .i64 0, .int .i64 0, .int .i64 0, .int .i64 0, .int .i64 0, .int .i64 0, .int .i64 0, .int .i64 0, .slice none 0 0, .int .i64 0, .int .i64 0, .int .i64 cz]) := hide (by kernel_rfl)
      have H1c : Hid ((#[.int .i64 0, .int .i64 0, .int .i64 0, .int .i64 0, .int .i64 0, .int .i64 0, .int .i64 0, .int .i64 0, .slice none 0 0, .int .i64 0, .int .i64 0, .int .i64 cz] : Array Value).all (·.oneCell') = true) := hide (by simp [Value.oneCell'])
      have H1i : Hid ((Tryd.prog.info? 38).map (·.size) = some (#[.int .i64 0, .int .i64 0, .int .i64 0, .int .i64 0, .int .i64 0, .int .i64 0, .int .i64 0, .int .i64 0, .slice none 0 0, .int .i64 0, .int .i64 0, .int .i64 cz] : Array Value).size) := hide (by kernel_rfl)
      go_wp2_with (first | (refine wpList_at (.build 38 #[(4, .tmp 70)]) rfl ?_; refine wpList_built rfl 38 #[(4, .tmp 70)] rfl _ rfl _ HBu.out ?_) | (refine wpList_at (.store 38 (.tmp 2) (.tmp 71)) rfl ?_; refine wpList_store_row rfl 38 (.tmp 2) (.tmp 71) rfl w.heap.size #[.int .i64 0, .int .i64 0, .int .i64 0, .int .i64 0, .int .i64 0, .int .i64 0, .int .i64 0, .int .i64 0, .slice none 0 0, .int .i64 0, .int .i64 0, .int .i64 cz] rfl rfl 38 #[.int .i64 0, .int .i64 0, .int .i64 0, .int .i64 0, .int .i64 0, .int .i64 0, .int .i64 0, .int .i64 0, .slice none 0 0, .int .i64 0, .int .i64 0, .int .i64 0] HZ.out H1i.out (by simp) H1c.out ?_))
      have hz9 := setrow_blk (cs := #[.int .i64 0, .int .i64 0, .int .i64 0, .int .i64 0, .int .i64 0, .int .i64 0, .int .i64 0, .int .i64 0, .slice none 0 0, .int .i64 0, .int .i64 0, .int .i64 cz]) HZ.out
      have hb9 := setrow_below (cs := #[.int .i64 0, .int .i64 0, .int .i64 0, .int .i64 0, .int .i64 0, .int .i64 0, .int .i64 0, .int .i64 0, .slice none 0 0, .int .i64 0, .int .i64 0, .int .i64 cz]) HB.out (Nat.le_refl _)
      exact bodyPost_ret (ret_rvol rfl _ _ w.heap.size _ rfl hz9 rfl) rfl ⟨Or.inr ⟨by rw [HE.out]; exact HNz.out, by rw [HE.out]; rfl⟩, hb9⟩
    have HE0 := hide (HE0.out.trans (if_neg (not_not_intro hcz)))
    have hzd : (cz != 0) = false := by simpa using hcz
    obtain ⟨FN, hFN⟩ : ∃ FN, FN = F + N := ⟨_, rfl⟩
    obtain ⟨N2, hN2⟩ : ∃ N2, N2 = 2 * N := ⟨_, rfl⟩
    obtain ⟨F2, hF2⟩ : ∃ F2, F2 = F + N2 := ⟨_, rfl⟩
    have hsz := HSz.out
    have hVlt := HV.out.lt
    have l1 : IntKind.i64.wrap (512 * b.long) = (N : Int) := by rw [IntKind.wrap_i64]; omega
    have l2 : IntKind.i64.wrap (512 * b.ahead) = (F : Int) := by rw [IntKind.wrap_i64]; omega
    have l3 : IntKind.i64.wrap ((F : Int) + (N : Int)) = (FN : Int) := by rw [IntKind.wrap_i64]; omega
    have l4 : IntKind.i64.wrap (2 * (N : Int)) = (N2 : Int) := by rw [IntKind.wrap_i64]; omega
    have l5 : IntKind.i64.wrap ((F : Int) + (N2 : Int)) = (F2 : Int) := by rw [IntKind.wrap_i64]; omega
    have l6 : FN - F = N := by omega
    have l13 : IntKind.i64.wrap (F : Int) = (F : Int) := by rw [IntKind.wrap_i64]; omega
    have l14 : IntKind.i64.wrap (N : Int) = (N : Int) := by rw [IntKind.wrap_i64]; omega
    have l15 : IntKind.i64.wrap (FN : Int) = (FN : Int) := by rw [IntKind.wrap_i64]; omega
    have l7 : ¬ (cap : Int) < (FN : Int) := by omega
    have l8 : ¬ (FN : Int) < (F : Int) := by omega
    have l9 : ¬ cap = F := by omega
    have l10 : F ≤ cap ∧ FN ≤ cap ∧ F ≤ FN := by omega
    obtain ⟨l10, l11, l12⟩ := l10
    have HFN := hide hFN
    have HTb : b.tabs = 1 ∨ (b.tabs = 2 ∧ F2 - FN = N ∧ F2 ≤ cap ∧ FN ≤ F2 ∧ ¬ cap = FN) := by omega
    have e1 : ((w5.setCell ⟨w3.heap.size, 9, none⟩ (.int .i64 f)).setCell ⟨w3.heap.size, 10, none⟩ (.int .i64 x)).cell? ⟨w2.heap.size, 1, none⟩ = some (.int .i64 b.ahead) := by have h9 := HI.out.cell 1 _ rfl; rw [HW6.out] at h9; exact h9
    have e2 : ((w5.setCell ⟨w3.heap.size, 9, none⟩ (.int .i64 f)).setCell ⟨w3.heap.size, 10, none⟩ (.int .i64 x)).cell? ⟨w2.heap.size, 2, none⟩ = some (.int .i64 b.tabs) := by have h9 := HI.out.cell 2 _ rfl; rw [HW6.out] at h9; exact h9
    have e4 : ((w5.setCell ⟨w3.heap.size, 9, none⟩ (.int .i64 f)).setCell ⟨w3.heap.size, 10, none⟩ (.int .i64 x)).cell? ⟨w2.heap.size, 4, none⟩ = some (.int .i64 b.long) := by have h9 := HI.out.cell 4 _ rfl; rw [HW6.out] at h9; exact h9
    have d2 := HI.out.cell 2 _ rfl
    clear hcz hsz hFN hN2 hF2
    go_upto_region 17 with fail
    rw [← HW6.out]
    clear e1 e2 e4 v9 v10 g9 g10
    go_cut [100] from 84 (fun v100 wx => v100 = .bool (decide (b.tabs ≠ 1 ∧ secs d (b.ahead + b.long) b.long ≠ secs d b.ahead b.long)) ∧ wx = w6)
    case first =>
      rcases HTb with ht | ⟨ht, t1, t2, t3, t4⟩
      · have hq : (b.tabs == 2) = false := by rw [ht]; rfl
        have HDD := hide (show decide (b.tabs ≠ 1 ∧ secs d (b.ahead + b.long) b.long ≠ secs d b.ahead b.long) = false by simp [ht])
        clear ht HSm2
        go_wp2
        go_meet
        exact ⟨congrArg Value.bool HDD.out.symm, rfl⟩
      · have hq : (b.tabs == 2) = true := by rw [ht]; rfl
        have HSx := (HSm2 ht w6 (cap - F) (cap - FN) HD.out).out
        rw [← HFN.out] at HSx
        have HDD := hide (show decide (b.tabs ≠ 1 ∧ secs d (b.ahead + b.long) b.long ≠ secs d b.ahead b.long) = !(decide (secs d b.ahead b.long = secs d (b.ahead + b.long) b.long)) by
          by_cases he : secs d b.ahead b.long = secs d (b.ahead + b.long) b.long
          · simp [he]
          · have he2 : ¬ secs d (b.ahead + b.long) b.long = secs d b.ahead b.long := fun e => he e.symm
            simp [he, he2, ht])
        obtain ⟨sm, hsm⟩ : ∃ sm, sm = decide (secs d b.ahead b.long = secs d (b.ahead + b.long) b.long) := ⟨_, rfl⟩
        rw [← hsm] at HSx HDD
        have HSx := hide HSx
        have k5 : ¬ (cap : Int) < (F2 : Int) := by omega
        have k6 : ¬ (F2 : Int) < (FN : Int) := by omega
        clear ht HSm2 hsm
        go_wp2_with fail
        refine HSx.out.mono ?_
        rintro e9 w7 ⟨rfl, h7⟩
        rw [h7]
        clear h7
        cases sm
        all_goals
          go_wp2
          go_meet
          exact ⟨congrArg Value.bool HDD.out.symm, rfl⟩
    case rest =>
      obtain ⟨rfl, hwc⟩ := hcut
      rw [hwc]
      clear hwc
      by_cases hB : b.tabs ≠ 1 ∧ secs d (b.ahead + b.long) b.long ≠ secs d b.ahead b.long
      · have hdd : decide (b.tabs ≠ 1 ∧ secs d (b.ahead + b.long) b.long ≠ secs d b.ahead b.long) = true := by simpa using hB
        have HE := hide (show opnE d = 11 by rw [HE0.out, if_pos hB])
        rw [hdd]
        clear hB hdd
        have HBu : Hid (Tryd.prog.built 38 [(4, .int .i64 11)] = some #[.int .i64 0, .int .i64 0, .int .i64 0, .int .i64 0, .int .i64 0, .int .i64 0, .int .i64 0, .int .i64 0, .slice none 0 0, .int .i64 0, .int .i64 0, .int .i64 11]) := hide (by kernel_rfl)
        have H1c : Hid ((#[.int .i64 0, .int .i64 0, .int .i64 0, .int .i64 0, .int .i64 0, .int .i64 0, .int .i64 0, .int .i64 0, .slice none 0 0, .int .i64 0, .int .i64 0, .int .i64 11] : Array Value).all (·.oneCell') = true) := hide (by simp [Value.oneCell'])
        have H1i : Hid ((Tryd.prog.info? 38).map (·.size) = some (#[.int .i64 0, .int .i64 0, .int .i64 0, .int .i64 0, .int .i64 0, .int .i64 0, .int .i64 0, .int .i64 0, .slice none 0 0, .int .i64 0, .int .i64 0, .int .i64 11] : Array Value).size) := hide (by kernel_rfl)
        go_wp2_with (first | (refine wpList_at (.build 38 #[(4, .const (.int .i64 11))]) rfl ?_; refine wpList_built rfl 38 #[(4, .const (.int .i64 11))] rfl _ rfl _ HBu.out ?_) | (refine wpList_at (.store 38 (.tmp 2) (.tmp 101)) rfl ?_; refine wpList_store_row rfl 38 (.tmp 2) (.tmp 101) rfl w.heap.size #[.int .i64 0, .int .i64 0, .int .i64 0, .int .i64 0, .int .i64 0, .int .i64 0, .int .i64 0, .int .i64 0, .slice none 0 0, .int .i64 0, .int .i64 0, .int .i64 11] rfl rfl 38 #[.int .i64 0, .int .i64 0, .int .i64 0, .int .i64 0, .int .i64 0, .int .i64 0, .int .i64 0, .int .i64 0, .slice none 0 0, .int .i64 0, .int .i64 0, .int .i64 0] HZ.out H1i.out (by simp) H1c.out ?_))
        have hz9 := setrow_blk (cs := #[.int .i64 0, .int .i64 0, .int .i64 0, .int .i64 0, .int .i64 0, .int .i64 0, .int .i64 0, .int .i64 0, .slice none 0 0, .int .i64 0, .int .i64 0, .int .i64 11]) HZ.out
        have hb9 := setrow_below (cs := #[.int .i64 0, .int .i64 0, .int .i64 0, .int .i64 0, .int .i64 0, .int .i64 0, .int .i64 0, .int .i64 0, .slice none 0 0, .int .i64 0, .int .i64 0, .int .i64 11]) HB.out (Nat.le_refl _)
        exact bodyPost_ret (ret_rvol rfl _ _ w.heap.size _ rfl hz9 rfl) rfl ⟨Or.inr ⟨by rw [HE.out]; decide, by rw [HE.out]; rfl⟩, hb9⟩
      have hdd : decide (b.tabs ≠ 1 ∧ secs d (b.ahead + b.long) b.long ≠ secs d b.ahead b.long) = false := by simpa using hB
      have HE0 := hide (HE0.out.trans (if_neg hB))
      rw [hdd]
      clear hB hdd HSm2
      obtain ⟨w7, hw7⟩ : ∃ w7, w7 = w6.alloc (.cells #[.int .i64 0, .int .i64 0] 2) := ⟨_, rfl⟩
      have hb7 : Below w6.heap.size w6 w7 := by rw [hw7]; exact (Below.refl _ _).alloc (Nat.le_refl _) _
      have HL7 := hide (show ∀ (j : Nat) z, ([0, 0] : List Int)[j]? = some z → w7.cell? ⟨w6.heap.size, j, none⟩ = some (.int .i64 z) by
        have hn := Blk.new w6 #[.int .i64 0, .int .i64 0] 2
        rw [← hw7] at hn
        intro j z hz
        match j with
        | 0 => simp at hz; rw [← hz]; exact hn.cell 0 _ rfl
        | 1 => simp at hz; rw [← hz]; exact hn.cell 1 _ rfl
        | j + 2 => simp at hz)
      have hv86 : w6.cell? ⟨w3.heap.size, 8, none⟩ = some (.slice none 0 0) := HV.out.cell 8 _ rfl
      have HV := hide (HV.out.below hb7)
      have HI := hide (HI.out.below hb7)
      have HZ := hide (HZ.out.below hb7)
      have HD := hide (HD.out.below hb7)
      have HB := hide (HB.out.trans (hb7.mono HB.out.size))
      have HW7 := hide hw7
      have HLv := hide (show w3.heap.size + 1 ≤ w6.heap.size by have := hVlt; omega)
      have hv8 : (w6.alloc (.cells #[.int .i64 0, .int .i64 0] 2)).cell? ⟨w3.heap.size, 8, none⟩ = some (.slice none 0 0) := by rw [← hw7]; exact HV.out.cell 8 _ rfl
      have HLw := hide (show w3.heap.size + 1 ≤ w7.heap.size by have := HLv.out; have := hb7.size; omega)
      clear hb7 hw7 hVlt
      go_wp2_with (at_builtin; rw [← HW7.out]; refine wpList_append_Cs rfl (.tmp 103) (.tmp 104) 25 rfl Tryd.underlying25 (w3.heap.size + 1) (.slice none 0 0) [] rfl (World.ownsRow_nil _ _ _ _) w6.heap.size 2 2 [0, 0] rfl rfl HL7.out (by simp) (by exact HLw.out) ?_; intro v8 w8 ho8 hg8; obtain ⟨a8, cc8, hv8e⟩ := OwnC.len (show OwnC w8 (w3.heap.size + 1) v8 [0, 0] from ho8); have hv8e : v8 = .slice a8 2 cc8 := hv8e; subst hv8e; have HO8 := hide (show OwnC w8 (w3.heap.size + 1) (.slice a8 2 cc8) [0, 0] from ho8); have HG8 := hide hg8; have z8 := (HV.out.chg (Chg.of_grown hg8) (by simp [Value.ownBlock])).cell 8 _ rfl; have f8 := (HV.out.chg (Chg.of_grown hg8) (by simp [Value.ownBlock])).frozen 8; clear ho8 hg8)
      have HLg := hide (show 2 ≤ 2 from Nat.le_refl _)
      obtain ⟨w9, hw9⟩ : ∃ w9, w9 = w8.setCell ⟨w3.heap.size, 8, none⟩ (.slice a8 2 cc8) := ⟨_, rfl⟩
      have hc8 : Chg (fun i => w3.heap.size ≤ i) w7 w9 := by rw [hw9]; exact ((Chg.of_grown HG8.out).mono (fun i _ e => by simp [Value.ownBlock] at e)).setC w3.heap.size 8 _ (Nat.le_refl _)
      have hV9 : Blk w9 w3.heap.size #[.int .i64 b.each, .int .i64 b.ahead, .int .i64 b.tabs, .int .i64 b.secs, .int .i64 b.long, .int .i64 b.root, .int .i64 b.info, .int .i64 b.copy, .slice a8 2 cc8, .int .i64 f, .int .i64 x, .int .i64 0] 38 := by rw [hw9]; exact (HV.out.chg (Chg.of_grown HG8.out) (by simp [Value.ownBlock])).set 8 (.slice a8 2 cc8)
      have hO9 : OwnC w9 (w3.heap.size + 1) (.slice a8 2 cc8) [0, 0] := by
        rw [hw9]
        exact HO8.out.chg ((Chg.refl (fun i => i = w3.heap.size) w8).setC w3.heap.size 8 _ rfl) (fun g hg e => by have := (World.ownsRow.lt HO8.out g hg).1; omega)
      have HI := hide (HI.out.chg hc8 (by have := HLt.out; omega))
      have HZ := hide (HZ.out.chg hc8 (by have := HLz.out; omega))
      have HD := hide (HD.out.chg hc8 (by
        intro ad e h2
        have h1 := HLf.out
        have h3 := HLz.out
        cases e
        have h4 : w3.heap.size ≤ b0 := h2
        omega))
      have HB := hide (HB.out.trans (Chg.below w.heap.size hc8 HB.out.size (fun i hi => by have := HLz.out; omega)))
      have HV := hide hV9
      have HO := hide hO9
      have HW9 := hide hw9
      clear hv86 hv8 z8 f8 hc8 hV9 hO9 hw9 HO8 HG8 HL7 HW7
      rw [← HW9.out]
      obtain ⟨TT, hTT⟩ : ∃ TT, TT = secs d b.ahead b.long := ⟨_, rfl⟩
      have HTl := hide (show TT.length = N by rw [hTT]; exact HTn.out)
      have HTb2 := hide (show Byts TT by rw [hTT]; exact HTy.out)
      have HTt := hide (show Lies w9 (some ⟨b0, off + F, none⟩) TT by rw [hTT]; have := HD.out.of_part F N; unfold secs; rw [HNF.out.1, HNF.out.2]; exact this)
      have HTT := hide hTT
      have HCl : ∀ u, Hid (Calls Tryd.prog 29 #[.agg #[.int .i64 b.each, .int .i64 b.ahead, .int .i64 b.tabs, .int .i64 b.secs, .int .i64 b.long, .int .i64 b.root, .int .i64 b.info, .int .i64 b.copy]] u fun e w' => e = .returned (.int .i64 (k : Int)) ∧ Below u.heap.size u w') := fun u => hide (by have h := rclus_any b u (Bt.form_near HFo.out).1; rw [hkk] at h; exact h)
      have HIn : ∀ (u : World) (q : Nat), Lies u (some ⟨b0, off + F, none⟩) TT → q + 4 ≤ N → Hid (Calls Tryd.prog 30 #[.slice (some ⟨b0, off + F, none⟩) N (cap - F), .int .i64 (q : Int), .int .i64 4] u fun e w' => e = .returned (.int .i64 (num TT q 4)) ∧ w' = u) := fun u q hu hq => hide (by
        have h := rint4 (some ⟨b0, off + F, none⟩) (cap - F) TT q u (by rw [HTl.out]; have := HSz.out; omega) HTb2.out hu (by rw [HTl.out]; exact hq)
        rw [HTl.out] at h
        exact h)
      have HKk := hide (show k ≤ 32768 ∧ 4 * (k + 2) ≤ N by have := HKn.out; have := HSz.out; omega)
      clear hTT hkk l13 l14 l15
      obtain ⟨i64i, hi64, hz64, hs64, hy64⟩ := info_parts info_c64
      go_loopw [9] (fun i wr => ∃ (j : Nat) (v : Value), j ≤ k ∧ i = .int .i64 (2 + (j : Int)) ∧ Blk wr w3.heap.size #[.int .i64 b.each, .int .i64 b.ahead, .int .i64 b.tabs, .int .i64 b.secs, .int .i64 b.long, .int .i64 b.root, .int .i64 b.info, .int .i64 b.copy, v, .int .i64 f, .int .i64 x, .int .i64 0] 38 ∧ OwnC wr (w3.heap.size + 1) v (0 :: 0 :: numsF TT j) ∧ Chg (fun i => w3.heap.size ≤ i) w9 wr) (fun i _ => k + 2 - (intOf i).toNat)
      case atStart => exact ⟨0, _, by omega, rfl, HV.out, HO.out, Chg.refl _ _⟩
      case round =>
        obtain ⟨j, v, hj, rfl, hV, hO, hC⟩ := hrel
        obtain ⟨a5, c5, hv5'⟩ := hO.len
        have hv5 : v = .slice a5 (j + 2) c5 := by rw [hv5']; simp [numsF]
        clear hv5'
        subst hv5
        have HVr := hide hV
        have HOr := hide hO
        have HCg := hide hC
        have HIr := hide (HI.out.chg hC (by have := HLt.out; omega))
        have HTr := hide (HTt.out.chg hC (by
          intro ad e h2
          have h1 := HLf.out
          have h3 := HLz.out
          cases e
          have h4 : w3.heap.size ≤ b0 := h2
          omega))
        clear hV hO hC
        by_cases hjk : j < k
        · obtain ⟨p, hp⟩ : ∃ p, p = 2 + j := ⟨_, rfl⟩
          obtain ⟨q, hq⟩ : ∃ q, q = (j + 2) * 4 := ⟨_, rfl⟩
          have hk4 := HKk.out
          have hj2 : (2 + (j : Int)) = ((p : Nat) : Int) := by omega
          rw [hj2]
          obtain ⟨z, hz⟩ : ∃ z, z = nxt TT j := ⟨_, rfl⟩
          obtain ⟨y, hy⟩ : ∃ y, y = num TT q 4 := ⟨_, rfl⟩
          have hyb : 0 ≤ y := by rw [hy]; exact (num_lt TT q HTb2.out 4).1
          have hyz : y.tmod 268435456 = z := by rw [Int.tmod_eq_emod_of_nonneg hyb, hz, hy, hq]; rfl
          have q1 : IntKind.i64.wrap ((k : Int) + 2) = (k : Int) + 2 := by rw [IntKind.wrap_i64]; omega
          have q2 : IntKind.i64.wrap (4 * (p : Int)) = (q : Int) := by rw [IntKind.wrap_i64]; omega
          have q3 : IntKind.i64.wrap ((p : Int) + 1) = (p : Int) + 1 := by rw [IntKind.wrap_i64]; omega
          have hlt : (p : Int) < (k : Int) + 2 := by omega
          have HIn := fun u hu => HIn u q hu (by omega)
          rw [← hy] at HIn
          have HP := hide hp
          have HZz := hide hz
          have HJ := hide hjk
          obtain ⟨c0, c1, c2, c3, c4, c5', c6, c7⟩ := cells_of (b := b) HIr.out
          clear hp hq hz hy hyb hj hj2 hjk hk4
          go_wp2_with fail
          refine (HCl _).out.mono ?_
          rintro e9 x1 ⟨rfl, hb1⟩
          have HVr := hide (HVr.out.below hb1)
          have HOr := hide (HOr.out.below hb1)
          have HTr := hide (HTr.out.below hb1)
          have HCg := hide (HCg.out.trans (Chg.of_below hb1))
          clear hb1 c0 c1 c2 c3 c4 c5' c6 c7
          go_wp2_with fail
          refine wp_region_held_drew (S := (fun _ => True)) (by kernel_rfl) trivial (fun _ => ?_)
          refine any_take 0 (some 114) (.pointer (some ⟨w3.heap.size, 8, none⟩)) rfl rfl (by kernel_rfl) (by kernel_rfl) (by kernel_rfl) (fun _ _ _ h => h) (by rfl) trivial ?_ ?_
          · intro u hSu
            go_simp
          simp only [Act.put, List.setIfInBounds_toArray, List.set_cons_zero, List.set_cons_succ]
          refine any_take 2 (some 116) (.slice (some ⟨b0, off + F, none⟩) N (cap - F)) rfl rfl (by kernel_rfl) (by kernel_rfl) (by kernel_rfl) (fun _ _ _ h => h) (by rfl) trivial ?_ ?_
          · intro u hSu
            go_simp
          simp only [Act.put, List.setIfInBounds_toArray, List.set_cons_zero, List.set_cons_succ]
          refine any_take 3 (some 117) (.int .i64 (p : Int)) rfl rfl (by kernel_rfl) (by kernel_rfl) (by kernel_rfl) (fun _ _ _ h => h) (by rfl) trivial ?_ ?_
          · intro u hSu
            go_simp
          simp only [Act.put, List.setIfInBounds_toArray, List.set_cons_zero, List.set_cons_succ]
          refine any_take 4 (some 118) (.int .i64 (q : Int)) rfl rfl (by kernel_rfl) (by kernel_rfl) (by kernel_rfl) (fun _ _ _ h => h) (by rfl) trivial ?_ ?_
          · intro u hSu
            go_simp
          simp only [Act.put, List.setIfInBounds_toArray, List.set_cons_zero, List.set_cons_succ]
          refine wpAnyH_ready (rs := [1, 5]) (by kernel_rfl) (by simp) ?_
          refine AllReadyH.cons (i := 1) rfl (fun K hK => ?_) (AllReadyH.cons (i := 5) rfl (fun K hK => ?_) AllReadyH.nil)
          · have cL := HVr.out.drew.cell 8 _ rfl
            go_simp
            refine hK.out _ _ trivial (fun _ => ?_)
            clear hK K
            try simp only [Act.put, List.setIfInBounds_toArray, List.set_cons_zero, List.set_cons_succ]
            clear cL
            refine wpAnyH_ready (rs := [5]) (by kernel_rfl) (by simp) ?_
            refine AllReadyH.cons (i := 5) rfl (fun K hK => ?_) AllReadyH.nil
            go_simp
            refine (HIn _ HTr.out.drew).out.mono ?_
            rintro e9 x2 ⟨rfl, h2⟩
            rw [h2]
            clear h2
            go_simp
            refine hK.out _ _ trivial (fun _ => ?_)
            clear hK K
            try simp only [Act.put, List.setIfInBounds_toArray, List.set_cons_zero, List.set_cons_succ]
            refine any_take 6 (some 120) (.int .i64 z) rfl rfl (by kernel_rfl) (by kernel_rfl) (by kernel_rfl) (fun _ _ _ h => h) (by rfl) trivial ?_ ?_
            · intro u hSu
              go_simp
            simp only [Act.put, List.setIfInBounds_toArray, List.set_cons_zero, List.set_cons_succ]
            refine wpAnyH_ready (rs := [7]) (by kernel_rfl) (by simp) ?_
            refine AllReadyH.cons (i := 7) rfl (fun K hK => ?_) AllReadyH.nil
            go_simp
            refine hK.out _ _ trivial (fun _ => ?_)
            clear hK K
            try simp only [Act.put, List.setIfInBounds_toArray, List.set_cons_zero, List.set_cons_succ]
            obtain ⟨x3, hx3⟩ : ∃ x3, x3 = (x1.alloc (.cells #[.int .i64 z] 2)).drew := ⟨_, rfl⟩
            have hb3 : Below x1.heap.size x1 x3 := by rw [hx3]; exact ((Below.refl x1.heap.size x1).alloc (Nat.le_refl _) _).drew
            have hn3 : ∀ (q : Nat) u, [Value.int .i64 z][q]? = some u → x3.cell? ((⟨x1.heap.size, 0, none⟩ : Addr).add q) = some u := by
              intro q u hu
              rw [hx3, Go.WideShapes.add_plain, Nat.zero_add]
              exact (Blk.new x1 #[.int .i64 z] 2).drew.cell q u (by simpa using hu)
            have hb0 : w3.heap.size + 1 ≤ x3.heap.size := by have h1 := HVr.out.lt; have h2 := hb3.size; omega
            rw [← hx3]
            clear hx3
            have ho3 := HOr.out.below hb3
            obtain ⟨v5, w5', hr5, ho5, hg5, _, _⟩ := run_append_own_at (P := Tryd.prog) (w := x3) (w3.heap.size + 1) 25 25 2 i64i (.int .i64 0) 1 8 Tryd.underlying25 hi64 hz64 hs64 hy64 rfl (by decide) (.slice a5 (j + 2) c5) (0 :: 0 :: numsF TT j).length ((0 :: 0 :: numsF TT j).map (fun x => Value.int .i64 x)) ho3 ⟨x1.heap.size, 0, none⟩ 1 1 [.int .i64 z] rfl hn3 (by simp [Value.oneCell']) (by have := HKk.out; have := HJ.out; simp [numsF]; unfold maxLen; omega) (by have := HKk.out; have := HJ.out; simp [numsF]; omega) hb0
            have ho6 : OwnC w5' (w3.heap.size + 1) v5 (0 :: 0 :: numsF TT (j + 1)) := by
              unfold OwnC
              have e : (0 :: 0 :: numsF TT (j + 1)) = (0 :: 0 :: numsF TT j) ++ [z] := by rw [HZz.out]; simp [numsF, List.range_succ]
              rw [e]
              simpa using ho5
            obtain ⟨a6, c6, hv6'⟩ := ho6.len
            have hv6 : v5 = .slice a6 (j + 3) c6 := by rw [hv6']; simp [numsF]
            clear hv6'
            subst hv6
            have hc5 : Chg (fun i => w3.heap.size ≤ i) x1 w5' := (Chg.of_below hb3).trans ((Chg.of_grown hg5).mono (fun i _ e => by have := (World.ownsRow.lt ho3 i e.symm).1; omega))
            have hV5 : Blk w5' w3.heap.size #[.int .i64 b.each, .int .i64 b.ahead, .int .i64 b.tabs, .int .i64 b.secs, .int .i64 b.long, .int .i64 b.root, .int .i64 b.info, .int .i64 b.copy, .slice a5 (j + 2) c5, .int .i64 f, .int .i64 x, .int .i64 0] 38 := (HVr.out.below hb3).chg (Chg.of_grown hg5) (fun e => by have := (World.ownsRow.lt ho3 _ e.symm).1; omega)
            have s8 := hV5.cell 8 _ rfl
            have f8 := hV5.frozen 8
            refine ready_valV 8 (some 122) (.slice a6 (j + 3) c6) w5' (by kernel_rfl) rfl rfl rfl (exec_appendV (s := .tmp 115) (x := .tmp 121) (t := 25) (v := .slice a5 (j + 2) c5) (q := .slice (some ⟨x1.heap.size, 0, none⟩) 1 1) rfl (by rfl) (by rfl) hr5) trivial ?_
            try simp only [Act.put, List.setIfInBounds_toArray, List.set_cons_zero, List.set_cons_succ]
            refine any_take 9 (some 123) (.pointer (some ⟨w3.heap.size, 8, none⟩)) rfl rfl (by kernel_rfl) (by kernel_rfl) (by kernel_rfl) (fun _ _ _ h => h) (by rfl) trivial ?_ ?_
            · intro u hSu
              go_simp
            simp only [Act.put, List.setIfInBounds_toArray, List.set_cons_zero, List.set_cons_succ]
            refine wpAnyH_ready (rs := [10]) (by kernel_rfl) (by simp) ?_
            refine AllReadyH.cons (i := 10) rfl (fun K hK => ?_) AllReadyH.nil
            have HO6 := hide (ho6.chg ((Chg.refl (fun i => i = w3.heap.size) w5').setC w3.heap.size 8 (.slice a6 (j + 3) c6) rfl) (fun g hg e => by have := (World.ownsRow.lt ho6 g hg).1; omega))
            have HV6 := hide (show Blk (w5'.setCell ⟨w3.heap.size, 8, none⟩ (.slice a6 (j + 3) c6)) w3.heap.size #[.int .i64 b.each, .int .i64 b.ahead, .int .i64 b.tabs, .int .i64 b.secs, .int .i64 b.long, .int .i64 b.root, .int .i64 b.info, .int .i64 b.copy, .slice a6 (j + 3) c6, .int .i64 f, .int .i64 x, .int .i64 0] 38 from hV5.set 8 (.slice a6 (j + 3) c6))
            have HC6 := hide (HCg.out.trans (hc5.setC w3.heap.size 8 (.slice a6 (j + 3) c6) (Nat.le_refl _)))
            clear hb3 hn3 hb0 ho3 hr5 ho5 hg5 ho6 hc5 hV5
            go_simp
            refine hK.out _ _ trivial (fun _ => ?_)
            clear hK K
            try simp only [Act.put, List.setIfInBounds_toArray, List.set_cons_zero, List.set_cons_succ]
            refine wpAnyH_done (by kernel_rfl) ?_ _
            clear s8 f8
            go_wp2_with fail
            exact ⟨⟨j + 1, _, by have := HJ.out; omega, by have := HP.out; rw [this]; congr 1, HV6.out, HO6.out, HC6.out⟩, by have := HJ.out; have := HP.out; simp [intOf]; omega⟩
          · go_simp
            refine (HIn _ HTr.out.drew).out.mono ?_
            rintro e9 x2 ⟨rfl, h2⟩
            rw [h2]
            clear h2
            go_simp
            refine hK.out _ _ trivial (fun _ => ?_)
            clear hK K
            try simp only [Act.put, List.setIfInBounds_toArray, List.set_cons_zero, List.set_cons_succ]
            refine any_take 6 (some 120) (.int .i64 z) rfl rfl (by kernel_rfl) (by kernel_rfl) (by kernel_rfl) (fun _ _ _ h => h) (by rfl) trivial ?_ ?_
            · intro u hSu
              go_simp
            simp only [Act.put, List.setIfInBounds_toArray, List.set_cons_zero, List.set_cons_succ]
            refine wpAnyH_ready (rs := [1, 7]) (by kernel_rfl) (by simp) ?_
            refine AllReadyH.cons (i := 1) rfl (fun K hK => ?_) (AllReadyH.cons (i := 7) rfl (fun K hK => ?_) AllReadyH.nil)
            · have cL := HVr.out.drew.cell 8 _ rfl
              go_simp
              refine hK.out _ _ trivial (fun _ => ?_)
              clear hK K
              try simp only [Act.put, List.setIfInBounds_toArray, List.set_cons_zero, List.set_cons_succ]
              clear cL
              refine wpAnyH_ready (rs := [7]) (by kernel_rfl) (by simp) ?_
              refine AllReadyH.cons (i := 7) rfl (fun K hK => ?_) AllReadyH.nil
              go_simp
              refine hK.out _ _ trivial (fun _ => ?_)
              clear hK K
              try simp only [Act.put, List.setIfInBounds_toArray, List.set_cons_zero, List.set_cons_succ]
              obtain ⟨x3, hx3⟩ : ∃ x3, x3 = (x1.alloc (.cells #[.int .i64 z] 2)).drew := ⟨_, rfl⟩
              have hb3 : Below x1.heap.size x1 x3 := by rw [hx3]; exact ((Below.refl x1.heap.size x1).alloc (Nat.le_refl _) _).drew
              have hn3 : ∀ (q : Nat) u, [Value.int .i64 z][q]? = some u → x3.cell? ((⟨x1.heap.size, 0, none⟩ : Addr).add q) = some u := by
                intro q u hu
                rw [hx3, Go.WideShapes.add_plain, Nat.zero_add]
                exact (Blk.new x1 #[.int .i64 z] 2).drew.cell q u (by simpa using hu)
              have hb0 : w3.heap.size + 1 ≤ x3.heap.size := by have h1 := HVr.out.lt; have h2 := hb3.size; omega
              rw [← hx3]
              clear hx3
              have ho3 := HOr.out.below hb3
              obtain ⟨v5, w5', hr5, ho5, hg5, _, _⟩ := run_append_own_at (P := Tryd.prog) (w := x3) (w3.heap.size + 1) 25 25 2 i64i (.int .i64 0) 1 8 Tryd.underlying25 hi64 hz64 hs64 hy64 rfl (by decide) (.slice a5 (j + 2) c5) (0 :: 0 :: numsF TT j).length ((0 :: 0 :: numsF TT j).map (fun x => Value.int .i64 x)) ho3 ⟨x1.heap.size, 0, none⟩ 1 1 [.int .i64 z] rfl hn3 (by simp [Value.oneCell']) (by have := HKk.out; have := HJ.out; simp [numsF]; unfold maxLen; omega) (by have := HKk.out; have := HJ.out; simp [numsF]; omega) hb0
              have ho6 : OwnC w5' (w3.heap.size + 1) v5 (0 :: 0 :: numsF TT (j + 1)) := by
                unfold OwnC
                have e : (0 :: 0 :: numsF TT (j + 1)) = (0 :: 0 :: numsF TT j) ++ [z] := by rw [HZz.out]; simp [numsF, List.range_succ]
                rw [e]
                simpa using ho5
              obtain ⟨a6, c6, hv6'⟩ := ho6.len
              have hv6 : v5 = .slice a6 (j + 3) c6 := by rw [hv6']; simp [numsF]
              clear hv6'
              subst hv6
              have hc5 : Chg (fun i => w3.heap.size ≤ i) x1 w5' := (Chg.of_below hb3).trans ((Chg.of_grown hg5).mono (fun i _ e => by have := (World.ownsRow.lt ho3 i e.symm).1; omega))
              have hV5 : Blk w5' w3.heap.size #[.int .i64 b.each, .int .i64 b.ahead, .int .i64 b.tabs, .int .i64 b.secs, .int .i64 b.long, .int .i64 b.root, .int .i64 b.info, .int .i64 b.copy, .slice a5 (j + 2) c5, .int .i64 f, .int .i64 x, .int .i64 0] 38 := (HVr.out.below hb3).chg (Chg.of_grown hg5) (fun e => by have := (World.ownsRow.lt ho3 _ e.symm).1; omega)
              have s8 := hV5.cell 8 _ rfl
              have f8 := hV5.frozen 8
              refine ready_valV 8 (some 122) (.slice a6 (j + 3) c6) w5' (by kernel_rfl) rfl rfl rfl (exec_appendV (s := .tmp 115) (x := .tmp 121) (t := 25) (v := .slice a5 (j + 2) c5) (q := .slice (some ⟨x1.heap.size, 0, none⟩) 1 1) rfl (by rfl) (by rfl) hr5) trivial ?_
              try simp only [Act.put, List.setIfInBounds_toArray, List.set_cons_zero, List.set_cons_succ]
              refine any_take 9 (some 123) (.pointer (some ⟨w3.heap.size, 8, none⟩)) rfl rfl (by kernel_rfl) (by kernel_rfl) (by kernel_rfl) (fun _ _ _ h => h) (by rfl) trivial ?_ ?_
              · intro u hSu
                go_simp
              simp only [Act.put, List.setIfInBounds_toArray, List.set_cons_zero, List.set_cons_succ]
              refine wpAnyH_ready (rs := [10]) (by kernel_rfl) (by simp) ?_
              refine AllReadyH.cons (i := 10) rfl (fun K hK => ?_) AllReadyH.nil
              have HO6 := hide (ho6.chg ((Chg.refl (fun i => i = w3.heap.size) w5').setC w3.heap.size 8 (.slice a6 (j + 3) c6) rfl) (fun g hg e => by have := (World.ownsRow.lt ho6 g hg).1; omega))
              have HV6 := hide (show Blk (w5'.setCell ⟨w3.heap.size, 8, none⟩ (.slice a6 (j + 3) c6)) w3.heap.size #[.int .i64 b.each, .int .i64 b.ahead, .int .i64 b.tabs, .int .i64 b.secs, .int .i64 b.long, .int .i64 b.root, .int .i64 b.info, .int .i64 b.copy, .slice a6 (j + 3) c6, .int .i64 f, .int .i64 x, .int .i64 0] 38 from hV5.set 8 (.slice a6 (j + 3) c6))
              have HC6 := hide (HCg.out.trans (hc5.setC w3.heap.size 8 (.slice a6 (j + 3) c6) (Nat.le_refl _)))
              clear hb3 hn3 hb0 ho3 hr5 ho5 hg5 ho6 hc5 hV5
              go_simp
              refine hK.out _ _ trivial (fun _ => ?_)
              clear hK K
              try simp only [Act.put, List.setIfInBounds_toArray, List.set_cons_zero, List.set_cons_succ]
              refine wpAnyH_done (by kernel_rfl) ?_ _
              clear s8 f8
              go_wp2_with fail
              exact ⟨⟨j + 1, _, by have := HJ.out; omega, by have := HP.out; rw [this]; congr 1, HV6.out, HO6.out, HC6.out⟩, by have := HJ.out; have := HP.out; simp [intOf]; omega⟩
            · go_simp
              refine hK.out _ _ trivial (fun _ => ?_)
              clear hK K
              try simp only [Act.put, List.setIfInBounds_toArray, List.set_cons_zero, List.set_cons_succ]
              obtain ⟨x3, hx3⟩ : ∃ x3, x3 = (x1.alloc (.cells #[.int .i64 z] 2)).drew := ⟨_, rfl⟩
              have hb3 : Below x1.heap.size x1 x3 := by rw [hx3]; exact ((Below.refl x1.heap.size x1).alloc (Nat.le_refl _) _).drew
              have hn3 : ∀ (q : Nat) u, [Value.int .i64 z][q]? = some u → x3.cell? ((⟨x1.heap.size, 0, none⟩ : Addr).add q) = some u := by
                intro q u hu
                rw [hx3, Go.WideShapes.add_plain, Nat.zero_add]
                exact (Blk.new x1 #[.int .i64 z] 2).drew.cell q u (by simpa using hu)
              have hb0 : w3.heap.size + 1 ≤ x3.heap.size := by have h1 := HVr.out.lt; have h2 := hb3.size; omega
              have HVr3 := hide (HVr.out.below hb3)
              rw [← hx3]
              clear hx3
              refine wpAnyH_ready (rs := [1]) (by kernel_rfl) (by simp) ?_
              refine AllReadyH.cons (i := 1) rfl (fun K hK => ?_) AllReadyH.nil
              have cL := HVr3.out.cell 8 _ rfl
              go_simp
              refine hK.out _ _ trivial (fun _ => ?_)
              clear hK K
              try simp only [Act.put, List.setIfInBounds_toArray, List.set_cons_zero, List.set_cons_succ]
              clear cL
              have ho3 := HOr.out.below hb3
              obtain ⟨v5, w5', hr5, ho5, hg5, _, _⟩ := run_append_own_at (P := Tryd.prog) (w := x3) (w3.heap.size + 1) 25 25 2 i64i (.int .i64 0) 1 8 Tryd.underlying25 hi64 hz64 hs64 hy64 rfl (by decide) (.slice a5 (j + 2) c5) (0 :: 0 :: numsF TT j).length ((0 :: 0 :: numsF TT j).map (fun x => Value.int .i64 x)) ho3 ⟨x1.heap.size, 0, none⟩ 1 1 [.int .i64 z] rfl hn3 (by simp [Value.oneCell']) (by have := HKk.out; have := HJ.out; simp [numsF]; unfold maxLen; omega) (by have := HKk.out; have := HJ.out; simp [numsF]; omega) hb0
              have ho6 : OwnC w5' (w3.heap.size + 1) v5 (0 :: 0 :: numsF TT (j + 1)) := by
                unfold OwnC
                have e : (0 :: 0 :: numsF TT (j + 1)) = (0 :: 0 :: numsF TT j) ++ [z] := by rw [HZz.out]; simp [numsF, List.range_succ]
                rw [e]
                simpa using ho5
              obtain ⟨a6, c6, hv6'⟩ := ho6.len
              have hv6 : v5 = .slice a6 (j + 3) c6 := by rw [hv6']; simp [numsF]
              clear hv6'
              subst hv6
              have hc5 : Chg (fun i => w3.heap.size ≤ i) x1 w5' := (Chg.of_below hb3).trans ((Chg.of_grown hg5).mono (fun i _ e => by have := (World.ownsRow.lt ho3 i e.symm).1; omega))
              have hV5 : Blk w5' w3.heap.size #[.int .i64 b.each, .int .i64 b.ahead, .int .i64 b.tabs, .int .i64 b.secs, .int .i64 b.long, .int .i64 b.root, .int .i64 b.info, .int .i64 b.copy, .slice a5 (j + 2) c5, .int .i64 f, .int .i64 x, .int .i64 0] 38 := (HVr.out.below hb3).chg (Chg.of_grown hg5) (fun e => by have := (World.ownsRow.lt ho3 _ e.symm).1; omega)
              have s8 := hV5.cell 8 _ rfl
              have f8 := hV5.frozen 8
              refine ready_valV 8 (some 122) (.slice a6 (j + 3) c6) w5' (by kernel_rfl) rfl rfl rfl (exec_appendV (s := .tmp 115) (x := .tmp 121) (t := 25) (v := .slice a5 (j + 2) c5) (q := .slice (some ⟨x1.heap.size, 0, none⟩) 1 1) rfl (by rfl) (by rfl) hr5) trivial ?_
              try simp only [Act.put, List.setIfInBounds_toArray, List.set_cons_zero, List.set_cons_succ]
              refine any_take 9 (some 123) (.pointer (some ⟨w3.heap.size, 8, none⟩)) rfl rfl (by kernel_rfl) (by kernel_rfl) (by kernel_rfl) (fun _ _ _ h => h) (by rfl) trivial ?_ ?_
              · intro u hSu
                go_simp
              simp only [Act.put, List.setIfInBounds_toArray, List.set_cons_zero, List.set_cons_succ]
              refine wpAnyH_ready (rs := [10]) (by kernel_rfl) (by simp) ?_
              refine AllReadyH.cons (i := 10) rfl (fun K hK => ?_) AllReadyH.nil
              have HO6 := hide (ho6.chg ((Chg.refl (fun i => i = w3.heap.size) w5').setC w3.heap.size 8 (.slice a6 (j + 3) c6) rfl) (fun g hg e => by have := (World.ownsRow.lt ho6 g hg).1; omega))
              have HV6 := hide (show Blk (w5'.setCell ⟨w3.heap.size, 8, none⟩ (.slice a6 (j + 3) c6)) w3.heap.size #[.int .i64 b.each, .int .i64 b.ahead, .int .i64 b.tabs, .int .i64 b.secs, .int .i64 b.long, .int .i64 b.root, .int .i64 b.info, .int .i64 b.copy, .slice a6 (j + 3) c6, .int .i64 f, .int .i64 x, .int .i64 0] 38 from hV5.set 8 (.slice a6 (j + 3) c6))
              have HC6 := hide (HCg.out.trans (hc5.setC w3.heap.size 8 (.slice a6 (j + 3) c6) (Nat.le_refl _)))
              clear hb3 hn3 hb0 ho3 hr5 ho5 hg5 ho6 hc5 hV5
              go_simp
              refine hK.out _ _ trivial (fun _ => ?_)
              clear hK K
              try simp only [Act.put, List.setIfInBounds_toArray, List.set_cons_zero, List.set_cons_succ]
              refine wpAnyH_done (by kernel_rfl) ?_ _
              clear s8 f8
              go_wp2_with fail
              exact ⟨⟨j + 1, _, by have := HJ.out; omega, by have := HP.out; rw [this]; congr 1, HV6.out, HO6.out, HC6.out⟩, by have := HJ.out; have := HP.out; simp [intOf]; omega⟩
        · obtain rfl : j = k := by omega
          have hnlt : ¬ (2 + (j : Int) < (j : Int) + 2) := by omega
          have q1 : IntKind.i64.wrap ((j : Int) + 2) = (j : Int) + 2 := by rw [IntKind.wrap_i64]; have := HKk.out; omega
          obtain ⟨c0, c1, c2, c3, c4, c5', c6, c7⟩ := cells_of (b := b) HIr.out
          clear hj hjk
          go_wp2_with fail
          refine (HCl _).out.mono ?_
          rintro e9 x1 ⟨rfl, hb1⟩
          have HB1 := hide (HB.out.trans ((Chg.below w.heap.size HCg.out HB.out.size (fun i hi e => by have := HLz.out; have h9 : w3.heap.size ≤ i := e; omega)).trans (hb1.mono (by have := HCg.out.size; have := HB.out.size; omega))))
          have HVr := hide (HVr.out.below hb1)
          have HOr := hide (HOr.out.below hb1)
          have HZ1 := hide ((HZ.out.chg HCg.out (by have := HLz.out; omega)).below hb1)
          clear hb1 c0 c1 c2 c3 c4 c5' c6 c7
          go_upto_region 24 with fail
          go_cut [134] from 124 (fun v134 wx => v134 = .bool (decide (f ≠ 4294967295 ∧ f ≠ frees (numsF TT j) j)) ∧ wx = x1.drew)
          case first =>
            have HFr : ∀ u, LiesC u (.slice a5 (j + 2) c5) (0 :: 0 :: numsF TT j) → Hid (Calls Tryd.prog 31 #[.slice a5 (j + 2) c5] u fun e w' => e = .returned (.int .i64 (frees (numsF TT j) j)) ∧ w' = u) := fun u hu => hide (rfree_any _ (numsF TT j) j u (numsF_len _ _) (by have := HKk.out; omega) hu)
            obtain ⟨fr, hfr⟩ : ∃ fr, fr = frees (numsF TT j) j := ⟨_, rfl⟩
            have HFe := hide hfr
            rw [← hfr] at HFr
            clear hfr
            by_cases hu : f = 4294967295
            · have hq : (f != 4294967295) = false := by simp [hu]
              have HDD := hide (show decide (f ≠ 4294967295 ∧ f ≠ frees (numsF TT j) j) = false by simp [hu])
              clear hu
              refine wp_region_held_drew (S := (fun u => u.cell? ⟨w3.heap.size, 8, none⟩ = some (.slice a5 (j + 2) c5) ∧ u.cell? ⟨w3.heap.size, 9, none⟩ = some (.int .i64 f))) (by kernel_rfl) ⟨HVr.out.drew.cell 8 _ rfl, HVr.out.drew.cell 9 _ rfl⟩ (fun _ => ?_)
              refine any_take 0 (some 124) (.pointer (some ⟨w3.heap.size, 9, none⟩)) rfl rfl (by kernel_rfl) (by kernel_rfl) (by kernel_rfl) (fun _ _ _ h => h) (by rfl) ⟨HVr.out.drew.cell 8 _ rfl, HVr.out.drew.cell 9 _ rfl⟩ ?_ ?_
              · intro w hSw
                obtain ⟨s0, s1⟩ := hSw
                go_simp
              simp only [Act.put, List.setIfInBounds_toArray, List.set_cons_zero, List.set_cons_succ]
              refine any_take 1 (some 125) (.int .i64 f) rfl rfl (by kernel_rfl) (by kernel_rfl) (by kernel_rfl) (fun _ _ _ h => h) (by rfl) ⟨HVr.out.drew.cell 8 _ rfl, HVr.out.drew.cell 9 _ rfl⟩ ?_ ?_
              · intro w hSw
                obtain ⟨s0, s1⟩ := hSw
                go_simp
              simp only [Act.put, List.setIfInBounds_toArray, List.set_cons_zero, List.set_cons_succ]
              refine any_take 2 (some 126) (.bool false) rfl rfl (by kernel_rfl) (by kernel_rfl) (by kernel_rfl) (fun _ _ _ h => h) (by rfl) ⟨HVr.out.drew.cell 8 _ rfl, HVr.out.drew.cell 9 _ rfl⟩ ?_ ?_
              · intro w hSw
                obtain ⟨s0, s1⟩ := hSw
                go_simp
              simp only [Act.put, List.setIfInBounds_toArray, List.set_cons_zero, List.set_cons_succ]
              refine any_take 3 (some 127) (.bool false) rfl rfl (by kernel_rfl) (by kernel_rfl) (by kernel_rfl) (fun _ _ _ h => h) (by rfl) ⟨HVr.out.drew.cell 8 _ rfl, HVr.out.drew.cell 9 _ rfl⟩ ?_ ?_
              · intro w hSw
                obtain ⟨s0, s1⟩ := hSw
                go_simp
              simp only [Act.put, List.setIfInBounds_toArray, List.set_cons_zero, List.set_cons_succ]
              refine any_skip 4 (some 128) rfl rfl (by kernel_rfl) (by kernel_rfl) (by kernel_rfl) (fun _ _ _ h => h) (by rfl) ⟨HVr.out.drew.cell 8 _ rfl, HVr.out.drew.cell 9 _ rfl⟩ ?_
              simp only [Act.put, List.setIfInBounds_toArray, List.set_cons_zero, List.set_cons_succ]
              refine any_skip 5 (some 129) rfl rfl (by kernel_rfl) (by kernel_rfl) (by kernel_rfl) (fun _ _ _ h => h) (by rfl) ⟨HVr.out.drew.cell 8 _ rfl, HVr.out.drew.cell 9 _ rfl⟩ ?_
              simp only [Act.put, List.setIfInBounds_toArray, List.set_cons_zero, List.set_cons_succ]
              refine any_skip 6 (some 130) rfl rfl (by kernel_rfl) (by kernel_rfl) (by kernel_rfl) (fun _ _ _ h => h) (by rfl) ⟨HVr.out.drew.cell 8 _ rfl, HVr.out.drew.cell 9 _ rfl⟩ ?_
              simp only [Act.put, List.setIfInBounds_toArray, List.set_cons_zero, List.set_cons_succ]
              refine any_skip 7 (some 131) rfl rfl (by kernel_rfl) (by kernel_rfl) (by kernel_rfl) (fun _ _ _ h => h) (by rfl) ⟨HVr.out.drew.cell 8 _ rfl, HVr.out.drew.cell 9 _ rfl⟩ ?_
              simp only [Act.put, List.setIfInBounds_toArray, List.set_cons_zero, List.set_cons_succ]
              refine any_skip 8 (some 132) rfl rfl (by kernel_rfl) (by kernel_rfl) (by kernel_rfl) (fun _ _ _ h => h) (by rfl) ⟨HVr.out.drew.cell 8 _ rfl, HVr.out.drew.cell 9 _ rfl⟩ ?_
              simp only [Act.put, List.setIfInBounds_toArray, List.set_cons_zero, List.set_cons_succ]
              refine any_skip 9 (some 133) rfl rfl (by kernel_rfl) (by kernel_rfl) (by kernel_rfl) (fun _ _ _ h => h) (by rfl) ⟨HVr.out.drew.cell 8 _ rfl, HVr.out.drew.cell 9 _ rfl⟩ ?_
              simp only [Act.put, List.setIfInBounds_toArray, List.set_cons_zero, List.set_cons_succ]
              refine any_take 10 (some 134) (.bool false) rfl rfl (by kernel_rfl) (by kernel_rfl) (by kernel_rfl) (fun _ _ _ h => h) (by rfl) ⟨HVr.out.drew.cell 8 _ rfl, HVr.out.drew.cell 9 _ rfl⟩ ?_ ?_
              · intro w hSw
                obtain ⟨s0, s1⟩ := hSw
                go_simp
              simp only [Act.put, List.setIfInBounds_toArray, List.set_cons_zero, List.set_cons_succ]
              refine wpAnyH_done (by kernel_rfl) ?_ _
              try go_wp2
              go_meet
              exact ⟨congrArg Value.bool HDD.out.symm, rfl⟩
            · have hq : (f != 4294967295) = true := by simpa using hu
              have HDD := hide (show decide (f ≠ 4294967295 ∧ f ≠ frees (numsF TT j) j) = (f != fr) by rw [HFe.out]; by_cases he : f = frees (numsF TT j) j <;> simp [hu, he])
              clear hu
              refine wp_region_held_drew (S := (fun u => u.cell? ⟨w3.heap.size, 8, none⟩ = some (.slice a5 (j + 2) c5) ∧ u.cell? ⟨w3.heap.size, 9, none⟩ = some (.int .i64 f))) (by kernel_rfl) ⟨HVr.out.drew.cell 8 _ rfl, HVr.out.drew.cell 9 _ rfl⟩ (fun _ => ?_)
              refine any_take 0 (some 124) (.pointer (some ⟨w3.heap.size, 9, none⟩)) rfl rfl (by kernel_rfl) (by kernel_rfl) (by kernel_rfl) (fun _ _ _ h => h) (by rfl) ⟨HVr.out.drew.cell 8 _ rfl, HVr.out.drew.cell 9 _ rfl⟩ ?_ ?_
              · intro w hSw
                obtain ⟨s0, s1⟩ := hSw
                go_simp
              simp only [Act.put, List.setIfInBounds_toArray, List.set_cons_zero, List.set_cons_succ]
              refine any_take 1 (some 125) (.int .i64 f) rfl rfl (by kernel_rfl) (by kernel_rfl) (by kernel_rfl) (fun _ _ _ h => h) (by rfl) ⟨HVr.out.drew.cell 8 _ rfl, HVr.out.drew.cell 9 _ rfl⟩ ?_ ?_
              · intro w hSw
                obtain ⟨s0, s1⟩ := hSw
                go_simp
              simp only [Act.put, List.setIfInBounds_toArray, List.set_cons_zero, List.set_cons_succ]
              refine any_take 2 (some 126) (.bool true) rfl rfl (by kernel_rfl) (by kernel_rfl) (by kernel_rfl) (fun _ _ _ h => h) (by rfl) ⟨HVr.out.drew.cell 8 _ rfl, HVr.out.drew.cell 9 _ rfl⟩ ?_ ?_
              · intro w hSw
                obtain ⟨s0, s1⟩ := hSw
                go_simp
              simp only [Act.put, List.setIfInBounds_toArray, List.set_cons_zero, List.set_cons_succ]
              refine any_take 3 (some 127) (.bool true) rfl rfl (by kernel_rfl) (by kernel_rfl) (by kernel_rfl) (fun _ _ _ h => h) (by rfl) ⟨HVr.out.drew.cell 8 _ rfl, HVr.out.drew.cell 9 _ rfl⟩ ?_ ?_
              · intro w hSw
                obtain ⟨s0, s1⟩ := hSw
                go_simp
              simp only [Act.put, List.setIfInBounds_toArray, List.set_cons_zero, List.set_cons_succ]
              refine any_take 4 (some 128) (.pointer (some ⟨w3.heap.size, 9, none⟩)) rfl rfl (by kernel_rfl) (by kernel_rfl) (by kernel_rfl) (fun _ _ _ h => h) (by rfl) ⟨HVr.out.drew.cell 8 _ rfl, HVr.out.drew.cell 9 _ rfl⟩ ?_ ?_
              · intro w hSw
                obtain ⟨s0, s1⟩ := hSw
                go_simp
              simp only [Act.put, List.setIfInBounds_toArray, List.set_cons_zero, List.set_cons_succ]
              refine any_take 5 (some 129) (.int .i64 f) rfl rfl (by kernel_rfl) (by kernel_rfl) (by kernel_rfl) (fun _ _ _ h => h) (by rfl) ⟨HVr.out.drew.cell 8 _ rfl, HVr.out.drew.cell 9 _ rfl⟩ ?_ ?_
              · intro w hSw
                obtain ⟨s0, s1⟩ := hSw
                go_simp
              simp only [Act.put, List.setIfInBounds_toArray, List.set_cons_zero, List.set_cons_succ]
              refine any_take 6 (some 130) (.pointer (some ⟨w3.heap.size, 8, none⟩)) rfl rfl (by kernel_rfl) (by kernel_rfl) (by kernel_rfl) (fun _ _ _ h => h) (by rfl) ⟨HVr.out.drew.cell 8 _ rfl, HVr.out.drew.cell 9 _ rfl⟩ ?_ ?_
              · intro w hSw
                obtain ⟨s0, s1⟩ := hSw
                go_simp
              simp only [Act.put, List.setIfInBounds_toArray, List.set_cons_zero, List.set_cons_succ]
              refine any_take 7 (some 131) (.slice a5 (j + 2) c5) rfl rfl (by kernel_rfl) (by kernel_rfl) (by kernel_rfl) (fun _ _ _ h => h) (by rfl) ⟨HVr.out.drew.cell 8 _ rfl, HVr.out.drew.cell 9 _ rfl⟩ ?_ ?_
              · intro w hSw
                obtain ⟨s0, s1⟩ := hSw
                go_simp
              simp only [Act.put, List.setIfInBounds_toArray, List.set_cons_zero, List.set_cons_succ]
              refine wpAnyH_ready (rs := [8]) (by kernel_rfl) (by simp) ?_
              refine AllReadyH.cons (i := 8) rfl (fun K hK => ?_) AllReadyH.nil
              go_simp
              refine (HFr _ (HOr.out.below (Below.refl _ _).drew).liesC).out.mono ?_
              rintro e9 x2 ⟨rfl, h2⟩
              rw [h2]
              clear h2
              go_simp
              refine hK.out _ _ ⟨HVr.out.drew.cell 8 _ rfl, HVr.out.drew.cell 9 _ rfl⟩ (fun _ => ?_)
              clear hK K
              try simp only [Act.put, List.setIfInBounds_toArray, List.set_cons_zero, List.set_cons_succ]
              refine any_take 9 (some 133) (.bool (f != fr)) rfl rfl (by kernel_rfl) (by kernel_rfl) (by kernel_rfl) (fun _ _ _ h => h) (by rfl) ⟨HVr.out.drew.cell 8 _ rfl, HVr.out.drew.cell 9 _ rfl⟩ ?_ ?_
              · intro w hSw
                obtain ⟨s0, s1⟩ := hSw
                go_simp
              simp only [Act.put, List.setIfInBounds_toArray, List.set_cons_zero, List.set_cons_succ]
              refine any_take 10 (some 134) (.bool (f != fr)) rfl rfl (by kernel_rfl) (by kernel_rfl) (by kernel_rfl) (fun _ _ _ h => h) (by rfl) ⟨HVr.out.drew.cell 8 _ rfl, HVr.out.drew.cell 9 _ rfl⟩ ?_ ?_
              · intro w hSw
                obtain ⟨s0, s1⟩ := hSw
                go_simp
              simp only [Act.put, List.setIfInBounds_toArray, List.set_cons_zero, List.set_cons_succ]
              refine wpAnyH_done (by kernel_rfl) ?_ _
              try go_wp2
              go_meet
              exact ⟨congrArg Value.bool HDD.out.symm, rfl⟩
          case rest =>
            obtain ⟨rfl, hwc⟩ := hcut
            rw [hwc]
            clear hwc
            have HZ := hide HZ1.out.drew
            have HB := hide HB1.out.drew
            by_cases hB : f ≠ 4294967295 ∧ f ≠ frees (numsF TT j) j
            · have hdd : decide (f ≠ 4294967295 ∧ f ≠ frees (numsF TT j) j) = true := by simpa using hB
              have HE := hide (show opnE d = 23 by rw [HE0.out, if_pos (by rw [← HTT.out]; exact hB)])
              rw [hdd]
              clear hB hdd
              have HBu : Hid (Tryd.prog.built 38 [(4, .int .i64 23)] = some #[.int .i64 0, .int .i64 0, .int .i64 0, .int .i64 0, .int .i64 0, .int .i64 0, .int .i64 0, .int .i64 0, .slice none 0 0, .int .i64 0, .int .i64 0, .int .i64 23]) := hide (by kernel_rfl)
              have H1c : Hid ((#[.int .i64 0, .int .i64 0, .int .i64 0, .int .i64 0, .int .i64 0, .int .i64 0, .int .i64 0, .int .i64 0, .slice none 0 0, .int .i64 0, .int .i64 0, .int .i64 23] : Array Value).all (·.oneCell') = true) := hide (by simp [Value.oneCell'])
              have H1i : Hid ((Tryd.prog.info? 38).map (·.size) = some (#[.int .i64 0, .int .i64 0, .int .i64 0, .int .i64 0, .int .i64 0, .int .i64 0, .int .i64 0, .int .i64 0, .slice none 0 0, .int .i64 0, .int .i64 0, .int .i64 23] : Array Value).size) := hide (by kernel_rfl)
              go_wp2_with (first | (refine wpList_at (.build 38 #[(4, .const (.int .i64 23))]) rfl ?_; refine wpList_built rfl 38 #[(4, .const (.int .i64 23))] rfl _ rfl _ HBu.out ?_) | (refine wpList_at (.store 38 (.tmp 2) (.tmp 135)) rfl ?_; refine wpList_store_row rfl 38 (.tmp 2) (.tmp 135) rfl w.heap.size #[.int .i64 0, .int .i64 0, .int .i64 0, .int .i64 0, .int .i64 0, .int .i64 0, .int .i64 0, .int .i64 0, .slice none 0 0, .int .i64 0, .int .i64 0, .int .i64 23] rfl rfl 38 #[.int .i64 0, .int .i64 0, .int .i64 0, .int .i64 0, .int .i64 0, .int .i64 0, .int .i64 0, .int .i64 0, .slice none 0 0, .int .i64 0, .int .i64 0, .int .i64 0] HZ.out H1i.out (by simp) H1c.out ?_; simp only [wpList, Exit.then]; (try apply_assumption); (try refine wp_ret ?_); (try simp only [Exit.then]); exact bodyPost_ret (ret_rvol rfl _ _ w.heap.size _ rfl (setrow_blk (cs := #[.int .i64 0, .int .i64 0, .int .i64 0, .int .i64 0, .int .i64 0, .int .i64 0, .int .i64 0, .int .i64 0, .slice none 0 0, .int .i64 0, .int .i64 0, .int .i64 23]) HZ.out) rfl) rfl ⟨Or.inr ⟨by rw [HE.out]; decide, by rw [HE.out]; rfl⟩, setrow_below (cs := #[.int .i64 0, .int .i64 0, .int .i64 0, .int .i64 0, .int .i64 0, .int .i64 0, .int .i64 0, .int .i64 0, .slice none 0 0, .int .i64 0, .int .i64 0, .int .i64 23]) HB.out (Nat.le_refl _)⟩))
            · have hdd : decide (f ≠ 4294967295 ∧ f ≠ frees (numsF TT j) j) = false := by simpa using hB
              have HE := hide (show opnE d = 0 by rw [HE0.out, if_neg (by rw [← HTT.out]; exact hB)])
              rw [hdd]
              clear hB hdd
              have HVd := hide HVr.out.drew
              have H1c : Hid ((#[.int .i64 b.each, .int .i64 b.ahead, .int .i64 b.tabs, .int .i64 b.secs, .int .i64 b.long, .int .i64 b.root, .int .i64 b.info, .int .i64 b.copy, .slice a5 (j + 2) c5, .int .i64 f, .int .i64 x, .int .i64 0] : Array Value).all (·.oneCell') = true) := hide (by simp [Value.oneCell'])
              have H1i : Hid ((Tryd.prog.info? 38).map (·.size) = some (#[.int .i64 b.each, .int .i64 b.ahead, .int .i64 b.tabs, .int .i64 b.secs, .int .i64 b.long, .int .i64 b.root, .int .i64 b.info, .int .i64 b.copy, .slice a5 (j + 2) c5, .int .i64 f, .int .i64 x, .int .i64 0] : Array Value).size) := hide (by kernel_rfl)
              have ho9 : OwnC (World.setRow x1.drew w.heap.size #[.int .i64 b.each, .int .i64 b.ahead, .int .i64 b.tabs, .int .i64 b.secs, .int .i64 b.long, .int .i64 b.root, .int .i64 b.info, .int .i64 b.copy, .slice a5 (j + 2) c5, .int .i64 f, .int .i64 x, .int .i64 0]) w.heap.size (.slice a5 (j + 2) c5) (0 :: 0 :: numsF (secs d (opnB d).ahead (opnB d).long) (opnK d)) := by
                rw [← HBx.out, HKd.out, ← HTT.out]
                refine OwnC.mono (OwnC.chg (X := fun i => i = w.heap.size) (show OwnC x1.drew (w3.heap.size + 1) (.slice a5 (j + 2) c5) (0 :: 0 :: numsF TT j) from HOr.out.below (Below.refl _ _).drew) ⟨rfl, rfl, rfl, by simp, fun k _ hk => setRow_other _ _ k _ hk⟩ (fun g hg e => by have := (World.ownsRow.lt HOr.out g hg).1; have := HLz.out; omega)) (by have := HLz.out; omega)
              have HO9 := hide ho9
              clear ho9
              go_wp2_with (first | (refine wpList_at (.load 38 (.tmp 5)) rfl ?_; refine wpList_load_row rfl 38 (.tmp 5) rfl w3.heap.size rfl 38 #[.int .i64 b.each, .int .i64 b.ahead, .int .i64 b.tabs, .int .i64 b.secs, .int .i64 b.long, .int .i64 b.root, .int .i64 b.info, .int .i64 b.copy, .slice a5 (j + 2) c5, .int .i64 f, .int .i64 x, .int .i64 0] (0, 0) _ HVd.out Tryd.underlying38 rfl H1i.out ?_) | (refine wpList_at (.store 38 (.tmp 2) (.tmp 136)) rfl ?_; refine wpList_store_row rfl 38 (.tmp 2) (.tmp 136) rfl w.heap.size #[.int .i64 b.each, .int .i64 b.ahead, .int .i64 b.tabs, .int .i64 b.secs, .int .i64 b.long, .int .i64 b.root, .int .i64 b.info, .int .i64 b.copy, .slice a5 (j + 2) c5, .int .i64 f, .int .i64 x, .int .i64 0] rfl rfl 38 #[.int .i64 0, .int .i64 0, .int .i64 0, .int .i64 0, .int .i64 0, .int .i64 0, .int .i64 0, .int .i64 0, .slice none 0 0, .int .i64 0, .int .i64 0, .int .i64 0] HZ.out H1i.out (by simp) H1c.out ?_; simp only [wpList, Exit.then]; (try apply_assumption); (try refine wp_ret ?_); (try simp only [Exit.then]); exact bodyPost_ret (ret_rvol rfl _ _ w.heap.size _ rfl (setrow_blk (cs := #[.int .i64 b.each, .int .i64 b.ahead, .int .i64 b.tabs, .int .i64 b.secs, .int .i64 b.long, .int .i64 b.root, .int .i64 b.info, .int .i64 b.copy, .slice a5 (j + 2) c5, .int .i64 f, .int .i64 x, .int .i64 0]) HZ.out) rfl) rfl ⟨Or.inl ⟨HE.out, _, by rw [← HBx.out, HCs.out]; rfl, HO9.out⟩, setrow_below (cs := #[.int .i64 b.each, .int .i64 b.ahead, .int .i64 b.tabs, .int .i64 b.secs, .int .i64 b.long, .int .i64 b.root, .int .i64 b.info, .int .i64 b.copy, .slice a5 (j + 2) c5, .int .i64 f, .int .i64 x, .int .i64 0]) HB.out (Nat.le_refl _)⟩))
end Go.Proofs.YtcbbaoiefdbcpaaDoor.Oct
