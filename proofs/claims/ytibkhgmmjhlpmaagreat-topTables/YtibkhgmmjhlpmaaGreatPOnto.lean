/- A copy of bytes; a write that is laid on bytes. -/
import Derived.Test.YtibkhgmmjhlpmaaGreatPAppChgDsk
import Derived.Lib.SliceRun
namespace Go.Proofs.YtibkhgmmjhlpmaaGreat.Oct
open Go.RowKit Go.Deep

theorem info5 : (Tryz.prog.info? 5).map (fun i => (i.zero, i.size, i.bytes)) = some (some (.int .u8 0), 1, 1) := by kernel_rfl

theorem Own.empty (w : World) : Own (w.alloc (.cells #[] 5)) w.heap.size (.slice (some ⟨w.heap.size, 0, none⟩) 0 0) [] := by
  have := Own.made w 0 (by simp)
  have e : madeCells #[.int .u8 0] 0 = #[] := by apply Array.eq_empty_of_size_eq_zero; rw [size_madeCells]
  rw [e] at this
  simpa using this

set_option maxHeartbeats 1000000 in
set_option maxRecDepth 100000 in
theorem clone_any (w : World) (a : Option Addr) (cap : Nat) (l : List Int) (hl : Lies w a l) (hlen : l.length ≤ 140737488355328) :
    Calls Tryz.prog 24 #[.slice a l.length cap] w fun e w' => ∃ v, e = .returned v ∧ Own w' w.heap.size v l ∧ Below w.heap.size w w' := by
  cases a with
  | none =>
    have h0 : l = [] := by
      rcases hl with h | ⟨b, off, h, _⟩
      · exact h
      · cases h
    subst h0
    clear hlen hl
    have hq := fun u : World => Lib.run_eql_slice_nil u 29 5 none 0 cap 0 0 Tryz.underlying29
    go_enter Tryz.func24, Tryz.ntmps24
    go_wp2
    go_ret
    exact ⟨_, rfl, Own.nil _ _, Below.refl _ _⟩
  | some x =>
    have HL := hide hl
    have HN := hide hlen
    clear hl hlen
    have hq := fun u : World => Lib.run_eql_slice_nil u 29 5 (some x) l.length cap 0 0 Tryz.underlying29
    go_enter Tryz.func24, Tryz.ntmps24
    go_wp2_with (refine wpList_append_bytes (by rfl) _ _ 29 (by rfl) Tryz.underlying29 info5 w.heap.size _ [] (by rfl) (Own.empty w) _ _ _ l (by rfl) rfl (HL.out.alloc _) (by have := HN.out; simp; omega) (by simp) ?_; intro v9 w9 ho9 hg9)
    go_ret
    refine ⟨_, rfl, by simpa using ho9, ?_⟩
    have := ((Below.refl w.heap.size w).alloc (Nat.le_refl _) (.cells #[] 5)).grown hg9 (by simp) (fun k hk => by simp [Value.ownBlock] at hk; omega)
    exact this

/-- A write: bytes at a place, or a length. -/
structure Wr where
  at_ : Nat
  a : Option Addr
  p : List Int
  cap : Nat
  cut : Bool

def Wr.cells (r : Wr) : List Value := [.int .i64 r.at_, .slice r.a r.p.length r.cap, .bool r.cut]

/-- Bytes behind a write. -/
def laid (r : Wr) (l : List Int) : List Int :=
  if r.cut = true ∧ r.at_ < l.length then l.take r.at_ else over (l ++ List.replicate (r.at_ + r.p.length - l.length) 0) r.at_ r.p

theorem step_copy_bytes {P : Program} {ops : Array Oper} {o : Oper} {a : Act} {w : World} {K : Act → World → Prop} {Q : Exit → Act → World → Prop} {E : Prop} (hgd : o.guard = none) (d s : Operand) (dT sT : TypeId)
    (ho : o.op = .call { callee := .builtin .copy, args := #[d, s], argTypes := #[dT, sT] }) (hu : P.underlying dT = some (.slice 5)) (hsz : (P.info? 5).map (·.size) = some 1)
    (dp sp : Option Addr) (dLen dCap sLen sCap : Nat) (hd : a.eval d = .slice dp dLen dCap) (hs : a.eval s = .slice sp sLen sCap)
    (B g off n cap : Nat) (l m : List Int) (hm : Own w B (.slice (some ⟨g, 0, none⟩) n cap) m) (hnm : n = m.length) (hl : Lies w sp l)
    (hdp : l ≠ [] → dp = some ⟨g, off, none⟩) (hdl : l.length = Nat.min sLen dLen) (hle : off + l.length ≤ m.length)
    (h : ∀ w', Own w' B (.slice (some ⟨g, 0, none⟩) n cap) (over m off l) → w.grownBy w' (some g) → K (a.put o.dst (goInt l.length)) w') : if Region.wanted o (yielded ops a.tmps) = true then Oper.wp P o a w K Q else E := by
  have hw : Region.wanted o (yielded ops a.tmps) = true := by simp [Region.wanted, hgd]
  rw [if_pos hw]
  obtain ⟨w', hrun, ho', hg⟩ := run_copy_part (ty := o.type) (sT := sT) hu hsz w B g off n cap dLen dCap sLen sCap dp sp l m hm hnm hl hdp hdl hle
  unfold Oper.wp
  simp [execOp, ho, resolve, invoke, builtin, hd, hs, hrun, Result.andThen]
  exact h w' ho' hg

theorem size5 : (Tryz.prog.info? 5).map (·.size) = some 1 := by kernel_rfl

theorem over_nil (m : List Int) (o : Nat) : over m o [] = m := by simp [over]

theorem Own.v_form {w : World} {B : Nat} {v : Value} {l : List Int} (h : Own w B v l) : (v = .slice none 0 0 ∧ l = []) ∨ ∃ g cap, v = .slice (some ⟨g, 0, none⟩) l.length cap ∧ l.length ≤ cap ∧ cap ≤ maxLen ∧ B ≤ g ∧ g < w.heap.size := by
  rcases h.2 with ⟨rfl, hn⟩ | ⟨g, cap, cur, rfl, hg, hh, hn, hcap, _, _⟩
  · exact Or.inl ⟨rfl, List.length_eq_zero_iff.1 hn⟩
  · exact Or.inr ⟨g, cap, rfl, hn, hcap, hg, (Array.getElem?_eq_some_iff.1 hh).1⟩

theorem box3 (w : World) (t : TypeId) (x y z : Value) : (w.alloc (.cells #[x, y, z] t)).cell? ⟨w.heap.size, 0, none⟩ = some x ∧ (w.alloc (.cells #[x, y, z] t)).cell? ⟨w.heap.size, 1, none⟩ = some y ∧ (w.alloc (.cells #[x, y, z] t)).cell? ⟨w.heap.size, 2, none⟩ = some z := by
  have h : (w.alloc (.cells #[x, y, z] t)).heap[w.heap.size]? = some (.cells #[x, y, z] t) := heap_alloc_new w _
  simp only [World.cell?, h]
  exact ⟨rfl, rfl, rfl⟩

theorem run_copy_any {P : Program} {dT sT ty : TypeId} (hu : P.underlying dT = some (.slice 5)) (hs : (P.info? 5).map (·.size) = some 1)
    (w : World) (B o dLen dCap sLen cap' : Nat) (dv : Value) (dp a : Option Addr) (l m : List Int) (hm : Own w B dv m) (hl : Lies w a l)
    (hdp : ∀ g, l ≠ [] → dv.ownBlock = some g → dp = some ⟨g, o, none⟩) (hdl : l.length = Nat.min sLen dLen) (hle : o + l.length ≤ m.length) :
    ∃ w', (Builtin.copy_ #[dT, sT] ty #[.slice dp dLen dCap, .slice a sLen cap']).run P w = .ok (goInt l.length) w' ∧
      Own w' B dv (over m o l) ∧ w.grownBy w' dv.ownBlock := by
  by_cases h0 : l = []
  · subst h0
    refine ⟨w, run_copy_none w dT sT ty 5 _ a _ dCap _ cap' hu hs hdl.symm, by simpa [over] using hm, World.grownBy.refl _ _⟩
  · have hlp := List.length_pos_iff.2 h0
    rcases hm.v_form with ⟨_, rfl⟩ | ⟨g, cap, rfl, _⟩
    · simp only [List.length_nil] at hle; omega
    · exact run_copy_part hu hs w B g o m.length cap dLen dCap sLen cap' dp a l m hm rfl hl (fun _ => hdp g h0 rfl) hdl hle

theorem step_copy_any {P : Program} {ops : Array Oper} {o : Oper} {a : Act} {w : World} {K : Act → World → Prop} {Q : Exit → Act → World → Prop} {E : Prop} (hgd : o.guard = none) (d s : Operand) (dT sT : TypeId)
    (ho : o.op = .call { callee := .builtin .copy, args := #[d, s], argTypes := #[dT, sT] }) (hu : P.underlying dT = some (.slice 5)) (hsz : (P.info? 5).map (·.size) = some 1)
    (dp sp : Option Addr) (dLen dCap sLen sCap : Nat) (hd : a.eval d = .slice dp dLen dCap) (hs : a.eval s = .slice sp sLen sCap)
    (B off : Nat) (dv : Value) (l m : List Int) (hm : Own w B dv m) (hl : Lies w sp l)
    (hdp : ∀ g, l ≠ [] → dv.ownBlock = some g → dp = some ⟨g, off, none⟩) (hdl : l.length = Nat.min sLen dLen) (hle : off + l.length ≤ m.length)
    (h : ∀ w', Own w' B dv (over m off l) → w.grownBy w' dv.ownBlock → K (a.put o.dst (goInt l.length)) w') : if Region.wanted o (yielded ops a.tmps) = true then Oper.wp P o a w K Q else E := by
  have hw : Region.wanted o (yielded ops a.tmps) = true := by simp [Region.wanted, hgd]
  rw [if_pos hw]
  obtain ⟨w', hrun, ho', hg⟩ := run_copy_any (ty := o.type) (sT := sT) hu hsz w B off dLen dCap sLen sCap dv dp sp l m hm hl hdp hdl hle
  unfold Oper.wp
  simp [execOp, ho, resolve, invoke, builtin, hd, hs, hrun, Result.andThen]
  exact h w' ho' hg

/-- Where the bytes lie behind a write. -/
def Went (w : World) (v v' : Value) : Prop := v'.ownBlock = v.ownBlock ∨ ∃ g, v'.ownBlock = some g ∧ w.heap.size ≤ g

set_option maxHeartbeats 2000000 in
set_option maxRecDepth 100000 in
theorem onto_own (w : World) (B : Nat) (v : Value) (l : List Int) (r : Wr) (hown : Own w B v l) (hB : B ≤ w.heap.size) (hp : Lies w r.a r.p) (hne : ∀ x, r.a = some x → v.ownBlock ≠ some x.block)
    (hat : r.at_ ≤ 100000000) (hpl : r.p.length ≤ 100000000) (hll : l.length ≤ 100000000) :
    Calls Tryz.prog 46 #[.agg r.cells.toArray, v] w fun e w' => ∃ v', e = .returned v' ∧ Own w' B v' (laid r l) ∧ w.grownBy w' v.ownBlock ∧ Went w v v' := by
  obtain ⟨at_, a, p, cap, cut⟩ := r
  simp only [Wr.cells] at *
  have HG := hide (World.grownBy_alloc w (.cells #[.int .i64 at_, .slice a p.length cap, .bool cut] 98) v.ownBlock)
  have HO := hide (hown.alloc (.cells #[.int .i64 at_, .slice a p.length cap, .bool cut] 98))
  have HP := hide (hp.alloc (.cells #[.int .i64 at_, .slice a p.length cap, .bool cut] 98))
  have HB : B ≤ (w.alloc (.cells #[.int .i64 at_, .slice a p.length cap, .bool cut] 98)).heap.size := by simp; omega
  have hlt := ownsRow_lt hown
  obtain ⟨b0, b1, b2⟩ := box3 w 98 (.int .i64 at_) (.slice a p.length cap) (.bool cut)
  obtain ⟨va, vcap, rfl, hsl, hg⟩ := hown.sl
  have hvc := hsl.le
  have hvm := hsl.max
  unfold maxLen at hvm
  have HHG := hide hg
  have HNE := hide hne
  clear hne hg hown hp hsl
  by_cases hc : cut = true ∧ at_ < l.length
  · obtain ⟨rfl, hc2⟩ := hc
    have hc3 : (at_ : Int) < (l.length : Int) := by omega
    have hc4 : (at_ : Int) ≤ (vcap : Int) := by omega
    go_enter Tryz.func46, Tryz.ntmps46
    generalize hw1 : w.alloc (.cells #[.int .i64 at_, .slice a p.length cap, .bool true] 98) = w1 at *
    go_wp2_with fail
    go_ret
    refine ⟨_, rfl, ?_, HG.out, Or.inl ?_⟩
    · unfold laid
      rw [if_pos ⟨rfl, hc2⟩]
      exact HO.out.cut at_ (by omega)
    · cases va <;> rfl
  · have hld : laid ⟨at_, a, p, cap, cut⟩ l = over (l ++ List.replicate (at_ + p.length - l.length) 0) at_ p := by unfold laid; rw [if_neg hc]
    obtain ⟨m, hm⟩ : ∃ m, m = l ++ List.replicate (at_ + p.length - l.length) (0 : Int) := ⟨_, rfl⟩
    have hml : m.length = l.length + (at_ + p.length - l.length) := by rw [hm]; simp
    rw [hld, ← hm]
    have HM := hide hm
    have hcut : cut = false ∨ (cut = true ∧ l.length ≤ at_) := by
      cases cut
      · exact Or.inl rfl
      · exact Or.inr ⟨rfl, by simp at hc; omega⟩
    clear hld hc hm
    by_cases hk : l.length < at_ + p.length
    · obtain ⟨k, hkk⟩ : ∃ k, at_ + p.length - l.length = k := ⟨_, rfl⟩
      have hk1 : 0 < (at_ : Int) + (p.length : Int) - (l.length : Int) := by omega
      have hke : (at_ : Int) + (p.length : Int) - (l.length : Int) = (k : Int) := by omega
      have HKE := hide hke
      have hk0 : 0 < k := by omega
      clear hke
      rcases hcut with rfl | ⟨rfl, hc2⟩
      all_goals
        try have hc3 : ¬ ((at_ : Int) < (l.length : Int)) := by omega
        go_enter Tryz.func46, Tryz.ntmps46
        generalize hw1 : w.alloc (.cells #[.int .i64 at_, .slice a p.length cap, .bool _] 98) = w1 at *
        go_wp2_with (refine wpList_append_zeros (by rfl) _ _ 29 2 (by rfl) Tryz.underlying29 Tryz.underlying2 info5 B _ l (by rfl) HO.out k _ _ (by rfl) HKE.out hk0 (by omega) HB ?_; intro v9 w9 ho9 hg9 hw9)
        rw [← hkk, ← HM.out] at ho9
        have c0 : w9.cell? ⟨w.heap.size, 0, none⟩ = some (.int .i64 at_) := hg9.cell b0 (fun e => Nat.lt_irrefl _ (hlt _ e.symm))
        have c1 : w9.cell? ⟨w.heap.size, 1, none⟩ = some (.slice a p.length cap) := hg9.cell b1 (fun e => Nat.lt_irrefl _ (hlt _ e.symm))
        have HP9 := hide (HP.out.grown hg9 (fun x hx e => HNE.out x hx e.symm))
        have HG9 := hide (HG.out.trans hg9)
        have hsz : w.heap.size ≤ w1.heap.size := HG.out.size
        have HW9 := hide (show Went w (.slice va l.length vcap) v9 from hw9.elim Or.inl (fun h => Or.inr ⟨_, h, hsz⟩))
        have HN1 : Hid (v9.ownBlock ≠ some w.heap.size) := hide (by
          intro e
          rcases hw9 with h | h
          · exact Nat.lt_irrefl _ (hlt _ (h.symm.trans e))
          · rw [h] at e
            have hsz1 : w1.heap.size = w.heap.size + 1 := by rw [← hw1]; simp
            simp at e
            omega)
        have HLT := hide hlt
        clear b0 b1 b2 hg9 hw9 hlt
        obtain ⟨x9, cap9, rfl, hs9, hgg9⟩ := ho9.sl
        have HGG := hide hgg9
        have HO9 := hide ho9
        have hn1 : (at_ : Int) ≤ (m.length : Int) := by omega
        have hn0 : (0 : Int) ≤ (at_ : Int) := by omega
        have hm9 := hs9.le
        have hx9 : ∀ g, (Value.slice x9 m.length cap9).ownBlock = some g → x9 = some ⟨g, 0, none⟩ := by
          intro g hg
          rcases ho9.v_form with ⟨e, _⟩ | ⟨g', c', e, _⟩
          · rw [e] at hg; cases hg
          · rw [e] at hg
            simp at e
            cases hg
            exact e.1
        have hl9 := ownsRow_lt ho9
        have HD1 : Hid (∀ g, p ≠ [] → (Value.slice x9 m.length cap9).ownBlock = some g → x9.map (fun x => x.add at_) = some ⟨g, at_, none⟩) := hide (fun g _ h => by rw [hx9 g h, Option.map_some, Go.WideShapes.add_plain, Nat.zero_add])
        have HD0 : Hid (cap9 = at_ → ∀ g, p ≠ [] → (Value.slice x9 m.length cap9).ownBlock = some g → x9 = some ⟨g, at_, none⟩) := hide (fun e g h _ => by have := List.length_pos_iff.2 h; omega)
        have HDL : Hid (p.length = Nat.min p.length (m.length - at_)) := hide ((Nat.min_eq_left (by omega)).symm)
        have HLE : Hid (at_ + p.length ≤ m.length) := hide (by omega)
        have HKE8 : Hid (∀ w8, w9.drew.grownBy w8 (Value.slice x9 m.length cap9).ownBlock → w8.cell? ⟨w.heap.size, 0, none⟩ = some (.int .i64 at_) ∧ w8.cell? ⟨w.heap.size, 1, none⟩ = some (.slice a p.length cap) ∧ w.grownBy w8 (Value.slice va l.length vcap).ownBlock) := hide (fun w8 h8 => by
          have hne : some w.heap.size ≠ (Value.slice x9 m.length cap9).ownBlock := by
            intro e
            rcases HW9.out with h | ⟨g, h, hg⟩
            · exact Nat.lt_irrefl _ (HLT.out _ (h.symm.trans e.symm))
            · rw [h] at e
              cases e
              exact HN1.out h
          refine ⟨h8.cell (a := ⟨w.heap.size, 0, none⟩) c0 hne, h8.cell (a := ⟨w.heap.size, 1, none⟩) c1 hne, ?_⟩
          refine ⟨h8.os.trans HG9.out.os, h8.tape.trans HG9.out.tape, h8.output.trans HG9.out.output, Nat.le_trans HG9.out.size h8.size, fun k hk hk2 => ?_⟩
          refine (h8.block k (Nat.lt_of_lt_of_le hk HG9.out.size) ?_).trans (HG9.out.block k hk hk2)
          intro e
          rcases HW9.out with h | ⟨g, h, hg⟩
          · exact hk2 (e.trans h)
          · rw [h] at e
            cases e
            omega)
        have HML := hide hml
        clear ho9 hgg9 hs9 HO HP HG hkk hml hw1 hx9 hl9 hm9 HHG HLT HNE HG9 hsz
        by_cases hca : cap9 = at_
        · have HD2 := hide (HD0.out hca)
          clear HD0 HD1 HKE hk1
          subst hca
          go_region_held3 (fun w' => w'.cell? ⟨w.heap.size, 0, none⟩ = some (.int .i64 cap9) ∧ w'.cell? ⟨w.heap.size, 1, none⟩ = some (.slice a p.length cap))
            (first | go_keep | exact ⟨HKC.out.1, HKC.out.2.1⟩)
            ((refine step_copy_any (by rfl) _ _ 29 29 (by rfl) Tryz.underlying29 size5 _ _ _ _ _ _ (by rfl) (by rfl) B cap9 _ p m HO9.out.drew HP9.out.drew HD2.out HDL.out HLE.out ?_; intro w8 ho8 hg8; have HKC := hide (HKE8.out w8 hg8); clear hg8))
          go_wp2_with fail
          go_ret
          exact ⟨_, rfl, ho8, HKC.out.2.2, HW9.out⟩
        · clear HD0 HKE hk1
          go_region_held3 (fun w' => w'.cell? ⟨w.heap.size, 0, none⟩ = some (.int .i64 at_) ∧ w'.cell? ⟨w.heap.size, 1, none⟩ = some (.slice a p.length cap))
            (first | go_keep | exact ⟨HKC.out.1, HKC.out.2.1⟩)
            ((refine step_copy_any (by rfl) _ _ 29 29 (by rfl) Tryz.underlying29 size5 _ _ _ _ _ _ (by rfl) (by rfl) B at_ _ p m HO9.out.drew HP9.out.drew HD1.out HDL.out HLE.out ?_; intro w8 ho8 hg8; have HKC := hide (HKE8.out w8 hg8); clear hg8))
          go_wp2_with fail
          go_ret
          exact ⟨_, rfl, ho8, HKC.out.2.2, HW9.out⟩
    · obtain rfl : m = l := by
        have := HM.out
        rw [show at_ + p.length - l.length = 0 by omega] at this
        simpa using this
      have hk1 : ¬ 0 < (at_ : Int) + (p.length : Int) - (m.length : Int) := by omega
      have hn1 : (at_ : Int) ≤ (m.length : Int) := by omega
      have hn0 : (0 : Int) ≤ (at_ : Int) := by omega
      have hx9 : ∀ g, (Value.slice va m.length vcap).ownBlock = some g → va = some ⟨g, 0, none⟩ := by
        intro g hg
        rcases HO.out.v_form with ⟨e, _⟩ | ⟨g', c', e, _⟩
        · rw [e] at hg; cases hg
        · rw [e] at hg
          simp at e
          cases hg
          exact e.1
      have HD1 : Hid (∀ g, p ≠ [] → (Value.slice va m.length vcap).ownBlock = some g → va.map (fun x => x.add at_) = some ⟨g, at_, none⟩) := hide (fun g _ h => by rw [hx9 g h, Option.map_some, Go.WideShapes.add_plain, Nat.zero_add])
      have HD0 : Hid (vcap = at_ → ∀ g, p ≠ [] → (Value.slice va m.length vcap).ownBlock = some g → va = some ⟨g, at_, none⟩) := hide (fun e g h _ => by have := List.length_pos_iff.2 h; omega)
      have HDL : Hid (p.length = Nat.min p.length (m.length - at_)) := hide ((Nat.min_eq_left (by omega)).symm)
      have HLE : Hid (at_ + p.length ≤ m.length) := hide (by omega)
      rcases hcut with rfl | ⟨rfl, hc2⟩
      all_goals
        try have hc3 : ¬ ((at_ : Int) < (m.length : Int)) := by omega
        try clear hc2
        clear hml HM
        go_enter Tryz.func46, Tryz.ntmps46
        generalize hw1 : w.alloc (.cells #[.int .i64 at_, .slice a p.length cap, .bool _] 98) = w1 at *
        go_wp2_with fail
        have HKE8 : Hid (∀ w8, w1.drew.grownBy w8 (Value.slice va m.length vcap).ownBlock → w8.cell? ⟨w.heap.size, 0, none⟩ = some (.int .i64 at_) ∧ w8.cell? ⟨w.heap.size, 1, none⟩ = some (.slice a p.length cap) ∧ w.grownBy w8 (Value.slice va m.length vcap).ownBlock) := hide (fun w8 h8 => by
          have hne : some w.heap.size ≠ (Value.slice va m.length vcap).ownBlock := fun e => Nat.lt_irrefl _ (hlt _ e.symm)
          refine ⟨h8.cell (a := ⟨w.heap.size, 0, none⟩) b0 hne, h8.cell (a := ⟨w.heap.size, 1, none⟩) b1 hne, ?_⟩
          exact ⟨h8.os.trans HG.out.os, h8.tape.trans HG.out.tape, h8.output.trans HG.out.output, Nat.le_trans HG.out.size h8.size, fun k hk hk2 => (h8.block k (Nat.lt_of_lt_of_le hk HG.out.size) hk2).trans (HG.out.block k hk hk2)⟩)
        clear HG hw1 hx9 HHG HNE hk1 hk hlt b2
        by_cases hca : vcap = at_
        · have HD2 := hide (HD0.out hca)
          have HDZ : Hid (p.length = Nat.min p.length 0) := hide (by have := HLE.out; rw [show p.length = 0 by omega]; rfl)
          clear HD0 HD1
          subst hca
          go_region_held3 (fun w' => w'.cell? ⟨w.heap.size, 0, none⟩ = some (.int .i64 vcap) ∧ w'.cell? ⟨w.heap.size, 1, none⟩ = some (.slice a p.length cap))
            (first | go_keep | exact ⟨HKC.out.1, HKC.out.2.1⟩)
            ((refine step_copy_any (by rfl) _ _ 29 29 (by rfl) Tryz.underlying29 size5 _ _ _ _ _ _ (by rfl) (by rfl) B vcap _ p m HO.out.drew HP.out.drew HD2.out HDZ.out HLE.out ?_; intro w8 ho8 hg8; have HKC := hide (HKE8.out w8 hg8); clear hg8))
          go_wp2_with fail
          go_ret
          exact ⟨_, rfl, ho8, HKC.out.2.2, Or.inl rfl⟩
        · clear HD0
          go_region_held3 (fun w' => w'.cell? ⟨w.heap.size, 0, none⟩ = some (.int .i64 at_) ∧ w'.cell? ⟨w.heap.size, 1, none⟩ = some (.slice a p.length cap))
            (first | go_keep | exact ⟨HKC.out.1, HKC.out.2.1⟩)
            ((refine step_copy_any (by rfl) _ _ 29 29 (by rfl) Tryz.underlying29 size5 _ _ _ _ _ _ (by rfl) (by rfl) B at_ _ p m HO.out.drew HP.out.drew HD1.out HDL.out HLE.out ?_; intro w8 ho8 hg8; have HKC := hide (HKE8.out w8 hg8); clear hg8))
          go_wp2_with fail
          go_ret
          exact ⟨_, rfl, ho8, HKC.out.2.2, Or.inl rfl⟩

end Go.Proofs.YtibkhgmmjhlpmaaGreat.Oct
