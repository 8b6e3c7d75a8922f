/- Where a partition of the given disk may end at most: Room. -/
import Derived.Test.YtjpdfchdgphdoaaGreatDoorPQpf
namespace Go.Proofs.YtjpdfchdgphdoaaGreatDoor.Oct
open Go.RowKit

set_option maxRecDepth 100000 in
set_option maxHeartbeats 1000000 in
theorem inner_one (w : World) (q1 q2 q3 p h : Value) : Calls Tryz.prog 29 #[.agg (mapC q1 q2 q3 p h)] w fun e w' => e = .returned (.bool false) ∧ Below w.heap.size w w' := by
  have hb : Below w.heap.size w (w.alloc (.cells (mapC q1 q2 q3 p h) 63)) := (Below.refl _ _).alloc (Nat.le_refl _) _
  have HB := hide hb
  have c6 : (w.alloc (.cells (mapC q1 q2 q3 p h) 63)).cell? ⟨w.heap.size, 6, none⟩ = some (.int .i64 0) := (Blk.new w (mapC q1 q2 q3 p h) 63).cell 6 _ rfl
  have c7 : (w.alloc (.cells (mapC q1 q2 q3 p h) 63)).cell? ⟨w.heap.size, 7, none⟩ = some (.int .i64 0) := (Blk.new w (mapC q1 q2 q3 p h) 63).cell 7 _ rfl
  have hgd := fun (u : World) (p q : Operand) => guard_X u .neq p q #[.int .i64 0, .int .i64 0] #[.int .i64 0, .int .i64 0]
  have hq := fun u : World => neq_X u (0, 0) (0, 0) true (by simp)
  dsimp only at hq
  generalize (mapC q1 q2 q3 p h) = M at *
  clear hb
  go_enter Tryz.func29, Tryz.ntmps29
  go_wp2_with fail
  go_ret
  exact ⟨rfl, HB.out⟩

set_option maxRecDepth 100000 in
set_option maxHeartbeats 1000000 in
theorem bound_one (w : World) (q1 q2 q3 p h : Value) : Calls Tryz.prog 34 #[.agg (mapC q1 q2 q3 p h), .int .i64 0, .int .i64 51200] w fun e w' => e = .returned (.int .i64 51200) ∧ Below w.heap.size w w' := by
  have hb : Below w.heap.size w (w.alloc (.cells (mapC q1 q2 q3 p h) 63)) := (Below.refl _ _).alloc (Nat.le_refl _) _
  have HB := hide hb
  have c0 : (w.alloc (.cells (mapC q1 q2 q3 p h) 63)).cell? ⟨w.heap.size, 0, none⟩ = some (.int .i64 1) := (Blk.new w (mapC q1 q2 q3 p h) 63).cell 0 _ rfl
  generalize (mapC q1 q2 q3 p h) = M at *
  clear hb
  go_enter Tryz.func34, Tryz.ntmps34
  go_wp2_with fail
  go_ret
  exact ⟨rfl, HB.out⟩

/-- A row of numbers of the call's own. -/
def OwnN64 (w : World) (B : Nat) (v : Value) (L : List Int) : Prop := w.ownsRow B 2 1 v L.length (L.map (fun x => Value.int .i64 x))

theorem OwnN64.mono {w : World} {B B' : Nat} {v : Value} {L : List Int} (h : OwnN64 w B v L) (hb : B' ≤ B) : OwnN64 w B' v L := by
  refine ⟨h.1, ?_⟩
  rcases h.2 with h2 | ⟨g, cap, cur, h3, h4, h5⟩
  · exact Or.inl h2
  · exact Or.inr ⟨g, cap, cur, h3, Nat.le_trans hb h4, h5⟩

theorem OwnN64.below {w w' : World} {B : Nat} {v : Value} {L : List Int} (h : OwnN64 w B v L) (hb : RowKit.Below w.heap.size w w') : OwnN64 w' B v L :=
  World.ownsRow.kept (row := none) h ⟨hb.os, hb.tape, hb.output, hb.size, fun k hk _ => hb.block k hk⟩ (by cases v.ownBlock <;> simp)

theorem info_n64 : (Tryz.prog.info? 2).map (fun i => (i.zero, i.size, i.bytes)) = some (some (.int .i64 0), 1, 8) := by kernel_rfl

theorem wpList_append_N {w : World} {ops : Array Oper} {rest : List Oper} {o : Oper} {a : Act} {Q : Exit → Act → World → Prop} (hgd : o.guard = none) (s x : Operand) (t : TypeId)
    (ho : o.op = .call { callee := .builtin .append, args := #[s, x], argTypes := #[t, t] }) (ht : Tryz.prog.underlying t = some (.slice 2)) (B : Nat) (v : Value) (O : List Int) (hs : a.eval s = v) (hown : OwnN64 w B v O)
    (b n : Nat) (z : Int) (hx : a.eval x = .slice (some ⟨b, 0, none⟩) 1 n) (hc : w.cell? ⟨b, 0, none⟩ = some (.int .i64 z)) (hlen : O.length ≤ 10000000) (hB : B ≤ w.heap.size)
    (h : ∀ v' w', OwnN64 w' B v' (O ++ [z]) → w.grownBy w' v.ownBlock → wpList Tryz.prog ops Q rest (a.put o.dst v') w') : wpList Tryz.prog ops Q (o :: rest) a w := by
  obtain ⟨i, hi, hz0, hz1, hz2⟩ := info_parts info_n64
  refine wpList_append_own_at _ hgd s x t ho B 2 i (.int .i64 0) 1 8 ht hi hz0 hz1 hz2 rfl (by decide) v O.length (O.map (fun x => Value.int .i64 x)) hs hown ⟨b, 0, none⟩ 1 n [.int .i64 z] hx rfl ?_ (by simp [Value.oneCell']) (by unfold maxLen; omega) (by omega) hB ?_
  · intro j u hj
    match j, hj with
    | 0, hj => simp at hj; rw [Go.WideShapes.add_plain, ← hj]; exact hc
    | j + 1, hj => simp at hj
  · intro v' w' h1 h2 _ _
    refine h v' w' ?_ h2
    unfold OwnN64
    simpa using h1

set_option maxRecDepth 100000 in
set_option maxHeartbeats 2000000 in
theorem begins_one (w : World) (a1 a2 : Option Addr) (c1 c2 : Nat) (q3 p h : Value) (hP : LiesP w a1 [(4096, 24576, 12, 0)]) (hH : LiesE w a2 [(0, 512)]) :
    Calls Tryz.prog 35 #[.agg (mapC (.slice a1 1 c1) (.slice a2 1 c2) q3 p h), .int .i64 0] w fun e w' => ∃ v, e = .returned v ∧ OwnN64 w' w.heap.size v [4096, 0] ∧ Below w.heap.size w w' := by
  rcases hP with hP | ⟨b1, o1, rfl, hb1, hP⟩
  · cases hP
  rcases hH with hH | ⟨b2, o2, rfl, hb2, hH⟩
  · cases hH
  obtain ⟨M, hM⟩ : ∃ M, M = mapC (.slice (some ⟨b1, o1, none⟩) 1 c1) (.slice (some ⟨b2, o2, none⟩) 1 c2) q3 p h := ⟨_, rfl⟩
  rw [← hM]
  have hb : Below w.heap.size w (w.alloc (.cells M 63)) := (Below.refl _ _).alloc (Nat.le_refl _) _
  have hk : Blk (w.alloc (.cells M 63)) w.heap.size M 63 := Blk.new _ _ _
  have k1 : (w.alloc (.cells M 63)).cell? ⟨w.heap.size, 1, none⟩ = some (.slice (some ⟨b1, o1, none⟩) 1 c1) := hk.cell 1 _ (by rw [hM]; rfl)
  have HM := hide hM
  have HB := hide hb
  have HK := hide hk
  have Hb1 := hide hb1
  have Hb2 := hide hb2
  have HP := hide hP
  have HH := hide hH
  clear hM hb hk hb1 hb2 hP hH
  go_enter Tryz.func35, Tryz.ntmps35
  go_wp2_with fail
  obtain ⟨w1, hw1⟩ : ∃ w1, w1 = w.alloc (.cells M 63) := ⟨_, rfl⟩
  rw [← hw1]
  rw [← hw1] at HB HK k1
  clear hw1
  go_loopw [5, 13] (fun v i wr => (i = .int .i64 0 ∧ v = .slice none 0 0 ∧ wr = w1) ∨ (i = .int .i64 1 ∧ OwnN64 wr w1.heap.size v [4096] ∧ Below w1.heap.size w1 wr)) (fun _ i _ => 1 - (intOf i).toNat)
  case atStart => exact Or.inl ⟨rfl, rfl, rfl⟩
  case round =>
    rcases hrel with ⟨rfl, rfl, hwr⟩ | ⟨rfl, ho, hbr⟩
    · have hwr2 := hwr.symm
      clear hwr
      subst hwr2
      have hP1 : LiesP w1 (some ⟨b1, o1, none⟩) [(4096, 24576, 12, 0)] := LiesP.below (w := w) (Or.inr ⟨b1, o1, rfl, Hb1.out, HP.out⟩) HB.out
      rcases hP1 with hP1 | ⟨bq, oq, he, hbq, hPq⟩
      · cases hP1
      cases he
      obtain ⟨x0, x1, x2, x3⟩ := hPq 0 (by simp)
      simp at x0 x1 x2 x3
      have hN := Blk.new w1 #[.int .i64 4096, .int .i64 24576, .int .i64 12, .int .i64 0] 74
      have y0 : (w1.alloc (.cells #[.int .i64 4096, .int .i64 24576, .int .i64 12, .int .i64 0] 74)).cell? ⟨w1.heap.size, 0, none⟩ = some (.int .i64 4096) := hN.cell 0 _ rfl
      have z0 : ((w1.alloc (.cells #[.int .i64 4096, .int .i64 24576, .int .i64 12, .int .i64 0] 74)).alloc (.cells #[.int .i64 4096] 2)).cell? ⟨w1.heap.size + 1, 0, none⟩ = some (.int .i64 4096) := by
        have := (Blk.new (w1.alloc (.cells #[.int .i64 4096, .int .i64 24576, .int .i64 12, .int .i64 0] 74)) #[.int .i64 4096] 2).cell 0 _ rfl
        rw [show (w1.alloc (.cells #[.int .i64 4096, .int .i64 24576, .int .i64 12, .int .i64 0] 74)).heap.size = w1.heap.size + 1 by simp] at this
        exact this
      have Z0 := hide z0
      have hbA : Below w1.heap.size w1 ((w1.alloc (.cells #[.int .i64 4096, .int .i64 24576, .int .i64 12, .int .i64 0] 74)).alloc (.cells #[.int .i64 4096] 2)) := ((Below.refl _ _).alloc (Nat.le_refl _) _).alloc (by simp) _
      have HbA := hide hbA
      have hsA := hbA.size
      clear hN z0 hbA hPq hbq
      go_wp2_with (at_builtin; refine wpList_append_N rfl (.tmp 17) (.tmp 21) 94 rfl Tryz.underlying94 w1.heap.size _ [] rfl (World.ownsRow_nil _ _ _ _) (w1.heap.size + 1) 1 4096 rfl Z0.out (by simp) (by exact hsA) ?_; intro v7 w7 ho7 hg7; have HO7 := hide ho7; have HG7 := hide (HbA.out.grown hg7 (by exact hsA) (fun x hx => by cases hx)); clear ho7 hg7)
      go_roundw
      case rel => exact Or.inr ⟨by go_num, HO7.out, HG7.out⟩
      case measure => simp [intOf]
    · have HO := hide ho
      have HBr := hide hbr
      have hk2 := HK.out.below hbr
      have k2 : wr.cell? ⟨w.heap.size, 2, none⟩ = some (.slice (some ⟨b2, o2, none⟩) 1 c2) := hk2.cell 2 _ (by rw [HM.out]; rfl)
      have HK2 := hide hk2
      clear ho hbr hk2
      go_wp2_with fail
      obtain ⟨w2, hw2⟩ : ∃ w2, w2 = wr := ⟨_, rfl⟩
      rw [← hw2]
      rw [← hw2] at HO HBr HK2 k2
      clear hw2
      obtain ⟨v5, hv5⟩ : ∃ v5, v5 = u5 := ⟨_, rfl⟩
      rw [← hv5]
      rw [← hv5] at HO
      clear hv5
      go_loopw [5, 27] (fun v i wr => (i = .int .i64 0 ∧ v = v5 ∧ wr = w2) ∨ (i = .int .i64 1 ∧ OwnN64 wr w1.heap.size v [4096, 0] ∧ Below w1.heap.size w1 wr)) (fun _ i _ => 1 - (intOf i).toNat)
      case atStart => exact Or.inl ⟨rfl, rfl, rfl⟩
      case round =>
        rcases hrel with ⟨rfl, hv, hwr⟩ | ⟨rfl, ho, hbr⟩
        · have hwr2 := hwr.symm
          have hv2 := hv.symm
          clear hwr hv
          subst hwr2 hv2
          have hb2' := HB.out.trans (HBr.out.mono HB.out.size)
          have hH1 : LiesE w2 (some ⟨b2, o2, none⟩) [(0, 512)] := LiesE.below (w := w) (Or.inr ⟨b2, o2, rfl, Hb2.out, HH.out⟩) hb2'
          rcases hH1 with hH1 | ⟨bq, oq, he, hbq, hPq⟩
          · cases hH1
          cases he
          obtain ⟨x0, x1⟩ := hPq 0 (by simp)
          simp at x0 x1
          have hN := Blk.new w2 #[.int .i64 0, .int .i64 512] 24
          have y0 : (w2.alloc (.cells #[.int .i64 0, .int .i64 512] 24)).cell? ⟨w2.heap.size, 0, none⟩ = some (.int .i64 0) := hN.cell 0 _ rfl
          have z0 : ((w2.alloc (.cells #[.int .i64 0, .int .i64 512] 24)).alloc (.cells #[.int .i64 0] 2)).cell? ⟨w2.heap.size + 1, 0, none⟩ = some (.int .i64 0) := by
            have := (Blk.new (w2.alloc (.cells #[.int .i64 0, .int .i64 512] 24)) #[.int .i64 0] 2).cell 0 _ rfl
            rw [show (w2.alloc (.cells #[.int .i64 0, .int .i64 512] 24)).heap.size = w2.heap.size + 1 by simp] at this
            exact this
          have Z0 := hide z0
          have hbA : Below w2.heap.size w2 ((w2.alloc (.cells #[.int .i64 0, .int .i64 512] 24)).alloc (.cells #[.int .i64 0] 2)) := ((Below.refl _ _).alloc (Nat.le_refl _) _).alloc (by simp) _
          have HO9 : Hid (OwnN64 ((w2.alloc (.cells #[.int .i64 0, .int .i64 512] 24)).alloc (.cells #[.int .i64 0] 2)) w1.heap.size v5 [4096]) := hide (OwnN64.below HO.out hbA)
          have hsA : w1.heap.size ≤ ((w2.alloc (.cells #[.int .i64 0, .int .i64 512] 24)).alloc (.cells #[.int .i64 0] 2)).heap.size := Nat.le_trans HBr.out.size hbA.size
          have HbA : Hid (Below w1.heap.size w1 ((w2.alloc (.cells #[.int .i64 0, .int .i64 512] 24)).alloc (.cells #[.int .i64 0] 2))) := hide (HBr.out.trans (hbA.mono HBr.out.size))
          clear hN z0 hbA hPq hbq hb2'
          go_wp2_with (at_builtin; refine wpList_append_N rfl (.tmp 31) (.tmp 34) 94 rfl Tryz.underlying94 w1.heap.size _ [4096] rfl HO9.out (w2.heap.size + 1) 1 0 rfl Z0.out (by simp) (by exact hsA) ?_; intro v7 w7 ho7 hg7; have HO7 := hide ho7; have HG7 := hide (HbA.out.grown hg7 (by exact hsA) (fun x hx => own_base HO9.out x hx)); clear ho7 hg7)
          go_roundw
          case rel => exact Or.inr ⟨by go_num, HO7.out, HG7.out⟩
          case measure => simp [intOf]
        · have HO8 := hide ho
          have HB8 := hide hbr
          have hk3 := HK.out.below hbr
          have k0 : wr.cell? ⟨w.heap.size, 0, none⟩ = some (.int .i64 1) := hk3.cell 0 _ (by rw [HM.out]; rfl)
          have HK3 := hide hk3
          have HIn := hide (inner_one wr (.slice (some ⟨b1, o1, none⟩) 1 c1) (.slice (some ⟨b2, o2, none⟩) 1 c2) q3 p h)
          rw [← HM.out] at HIn
          have HIs : Hid ((Tryz.prog.info? 63).map (·.size) = some M.size) := hide (by rw [HM.out]; kernel_rfl)
          clear ho hbr hk3
          go_wp2_with (refine wpList_at (.load 63 (.tmp 2)) rfl ?_; refine BigFrame.wpList_want rfl fun K hK => wp_load_row 63 (.tmp 2) rfl w.heap.size rfl 63 M (0, 0) _ HK3.out Tryz.underlying63 rfl HIs.out (hK _ _ ?_))
          refine HIn.out.mono ?_
          rintro e9 w9 ⟨rfl, hb9⟩
          have HO9 := hide (OwnN64.below HO8.out hb9)
          have HB9 := hide (HB8.out.trans (hb9.mono HB8.out.size))
          clear hb9
          go_wp2_with fail
          go_ret
          refine ⟨_, rfl, ?_, HB.out.trans (HB9.out.mono HB.out.size)⟩
          exact OwnN64.mono HO9.out HB.out.size

set_option maxRecDepth 100000 in
set_option maxHeartbeats 2000000 in
theorem room_one (w : World) (a1 a2 : Option Addr) (c1 c2 : Nat) (q3 p h : Value) (hP : LiesP w a1 [(4096, 24576, 12, 0)]) (hH : LiesE w a2 [(0, 512)]) :
    Calls Tryz.prog 19 #[.agg (mapC (.slice a1 1 c1) (.slice a2 1 c2) q3 p h), .agg #[.int .i64 4096, .int .i64 24576, .int .i64 12, .int .i64 0], .int .i64 51200] w fun e w' => e = .returned (.int .i64 51200) ∧ Below w.heap.size w w' := by
  have HBo := fun u => hide (bound_one u (.slice a1 1 c1) (.slice a2 1 c2) q3 p h)
  have HBe := fun u (hu : Below w.heap.size w u) => hide (begins_one u a1 a2 c1 c2 q3 p h (hP.below hu) (hH.below hu))
  obtain ⟨M, hM⟩ : ∃ M, M = mapC (.slice a1 1 c1) (.slice a2 1 c2) q3 p h := ⟨_, rfl⟩
  rw [← hM] at HBo HBe ⊢
  obtain ⟨w1, hw1⟩ : ∃ w1, w1 = (w.alloc (.cells M 63)).alloc (.cells #[.int .i64 4096, .int .i64 24576, .int .i64 12, .int .i64 0] 74) := ⟨_, rfl⟩
  have hb1 : Below w.heap.size w w1 := by rw [hw1]; exact ((Below.refl _ _).alloc (Nat.le_refl _) _).alloc (by simp) _
  have hk1 : Blk w1 w.heap.size M 63 := by rw [hw1]; exact (Blk.new _ _ _).below ((Below.refl _ _).alloc (Nat.le_refl _) _)
  have hp1 : Blk w1 (w.heap.size + 1) #[.int .i64 4096, .int .i64 24576, .int .i64 12, .int .i64 0] 74 := by
    rw [hw1]
    have := Blk.new (w.alloc (.cells M 63)) #[.int .i64 4096, .int .i64 24576, .int .i64 12, .int .i64 0] 74
    rw [show (w.alloc (.cells M 63)).heap.size = w.heap.size + 1 by simp] at this
    exact this
  have HIs : Hid ((Tryz.prog.info? 63).map (·.size) = some M.size) := hide (by rw [hM]; kernel_rfl)
  have x3 : ((w.alloc (.cells M 63)).alloc (.cells #[.int .i64 4096, .int .i64 24576, .int .i64 12, .int .i64 0] 74)).cell? ⟨w.heap.size + 1, 3, none⟩ = some (.int .i64 0) := by rw [← hw1]; exact hp1.cell 3 _ rfl
  have HK1 := hide hk1
  have HP1 := hide hp1
  have HB1 := hide hb1
  have HW1 := hide hw1
  have HK0 : Hid (Blk ((w.alloc (.cells M 63)).alloc (.cells #[.int .i64 4096, .int .i64 24576, .int .i64 12, .int .i64 0] 74)) w.heap.size M 63) := hide (by rw [← hw1]; exact hk1)
  clear hb1 hk1 hp1 hw1 hP hH hM
  go_enter Tryz.func19, Tryz.ntmps19
  go_wp2_with (refine wpList_at (.load 63 (.tmp 3)) rfl ?_; refine wpList_load_row rfl 63 (.tmp 3) rfl w.heap.size rfl 63 M (0, 0) _ HK0.out Tryz.underlying63 rfl HIs.out ?_)
  rw [← HW1.out]
  clear x3 HW1 HK0
  refine (HBo _).out.mono ?_
  rintro e9 w2 ⟨rfl, hb2⟩
  have hk2 := HK1.out.below hb2
  have hp2 := HP1.out.below hb2
  have x3 : w2.cell? ⟨w.heap.size + 1, 3, none⟩ = some (.int .i64 0) := hp2.cell 3 _ rfl
  have HK2 := hide hk2
  have HP2 := hide hp2
  have HB2 := hide (HB1.out.trans (hb2.mono HB1.out.size))
  clear hk2 hp2 hb2 HK1 HP1 HB1 HBo
  go_wp2_with (refine wpList_at (.load 63 (.tmp 3)) rfl ?_; refine wpList_load_row rfl 63 (.tmp 3) rfl w.heap.size rfl 63 M (0, 0) _ HK2.out Tryz.underlying63 rfl HIs.out ?_)
  refine (HBe _ HB2.out).out.mono ?_
  rintro e9 w3 ⟨v3, rfl, ho3, hb3⟩
  have hp3 := HP2.out.below hb3
  obtain ⟨g, cap, rfl⟩ := row_succM (n := 1) ho3
  have hcs := World.ownsRow.cells (g := g) ho3 rfl
  have y0 : w3.cell? ⟨g, 0, none⟩ = some (.int .i64 4096) := by
    have := hcs 0 _ rfl
    rw [Go.WideShapes.add_plain] at this
    exact this
  have y1 : w3.cell? ⟨g, 1, none⟩ = some (.int .i64 0) := by
    have := hcs 1 _ rfl
    rw [Go.WideShapes.add_plain] at this
    exact this
  have x1 : w3.cell? ⟨w.heap.size + 1, 1, none⟩ = some (.int .i64 24576) := hp3.cell 1 _ rfl
  have HB3 := hide (HB2.out.trans (hb3.mono HB2.out.size))
  clear hp3 hb3 hcs ho3 HBe x3 HK2 HP2 HB2
  go_wp2_with fail
  go_loopw [7, 20] (fun v i wr => v = .int .i64 51200 ∧ (i = .int .i64 0 ∨ i = .int .i64 1 ∨ i = .int .i64 2) ∧ wr = w3) (fun _ i _ => 2 - (intOf i).toNat)
  case atStart => exact ⟨rfl, Or.inl rfl, rfl⟩
  case round =>
    obtain ⟨rfl, hi, hwr⟩ := hrel
    have hwr2 := hwr.symm
    clear hwr
    subst hwr2
    rcases hi with rfl | rfl | rfl
    · go_wp2_with fail
      go_roundw
      case rel => exact ⟨rfl, Or.inr (Or.inl (by go_num)), trivial⟩
      case measure => simp [intOf]
    · go_wp2_with fail
      go_roundw
      case rel => exact ⟨rfl, Or.inr (Or.inr (by go_num)), trivial⟩
      case measure => simp [intOf]
    · go_wp2_with fail
      go_ret
      exact ⟨rfl, HB3.out⟩
end Go.Proofs.YtjpdfchdgphdoaaGreatDoor.Oct
