/- A copy of bytes; a write that is laid on bytes. -/
import Derived.Test.YtnfbhgahkajhnaaDsk
import Derived.Lib.SliceRun
namespace Go.Proofs.Ytnfbhgahkajhnaa.Oct
open Go.RowKit Go.Deep

theorem info5 : (Try.prog.info? 5).map (fun i => (i.zero, i.size, i.bytes)) = some (some (.int .u8 0), 1, 1) := by kernel_rfl

theorem Own.empty (w : World) : Own (w.alloc (.cells #[] 5)) w.heap.size (.slice (some ⟨w.heap.size, 0, none⟩) 0 0) [] := by
  have := Own.made w 0 (by simp)
  have e : madeCells #[.int .u8 0] 0 = #[] := by apply Array.eq_empty_of_size_eq_zero; rw [size_madeCells]
  rw [e] at this
  simpa using this

set_option maxHeartbeats 1000000 in
set_option maxRecDepth 100000 in
theorem clone_any (w : World) (a : Option Addr) (cap : Nat) (l : List Int) (hl : Lies w a l) (hlen : l.length ≤ 140737488355328) :
    Calls Try.prog 30 #[.slice a l.length cap] w fun e w' => ∃ v, e = .returned v ∧ Own w' w.heap.size v l ∧ Below w.heap.size w w' := by
  cases a with
  | none =>
    have h0 : l = [] := by
      rcases hl with h | ⟨b, off, h, _⟩
      · exact h
      · cases h
    subst h0
    clear hlen hl
    have hq := fun u : World => Lib.run_eql_slice_nil u 50 5 none 0 cap 0 0 Try.underlying50
    go_enter Try.func30, Try.ntmps30
    go_wp2
    go_ret
    exact ⟨_, rfl, Own.nil _ _, Below.refl _ _⟩
  | some x =>
    have HL := hide hl
    have HN := hide hlen
    clear hl hlen
    have hq := fun u : World => Lib.run_eql_slice_nil u 50 5 (some x) l.length cap 0 0 Try.underlying50
    go_enter Try.func30, Try.ntmps30
    go_wp2_with (refine wpList_append_bytes (by rfl) _ _ 50 (by rfl) Try.underlying50 info5 w.heap.size _ [] (by rfl) (Own.empty w) _ _ _ l (by rfl) rfl (HL.out.alloc _) (by have := HN.out; simp; omega) (by simp) ?_; intro v9 w9 ho9 hg9)
    go_ret
    refine ⟨_, rfl, by simpa using ho9, ?_⟩
    have := ((Below.refl w.heap.size w).alloc (Nat.le_refl _) (.cells #[] 5)).grown hg9 (by simp) (fun k hk => by simp [Value.ownBlock] at hk; omega)
    exact this

/-- A write: bytes at a place, or a length. -/
structure Wr where
  at_ : Nat
  a : Option Addr
  p : List Int
  cap : Nat
  cut : Bool

def Wr.cells (r : Wr) : List Value := [.int .i64 r.at_, .slice r.a r.p.length r.cap, .bool r.cut]

/-- Bytes behind a write. -/
def laid (r : Wr) (l : List Int) : List Int :=
  if r.cut = true ∧ r.at_ < l.length then l.take r.at_ else over (l ++ List.replicate (r.at_ + r.p.length - l.length) 0) r.at_ r.p

theorem step_copy_bytes {P : Program} {ops : Array Oper} {o : Oper} {a : Act} {w : World} {K : Act → World → Prop} {Q : Exit → Act → World → Prop} {E : Prop} (hgd : o.guard = none) (d s : Operand) (dT sT : TypeId)
    (ho : o.op = .call { callee := .builtin .copy, args := #[d, s], argTypes := #[dT, sT] }) (hu : P.underlying dT = some (.slice 5)) (hsz : (P.info? 5).map (·.size) = some 1)
    (dp sp : Option Addr) (dLen dCap sLen sCap : Nat) (hd : a.eval d = .slice dp dLen dCap) (hs : a.eval s = .slice sp sLen sCap)
    (B g off n cap : Nat) (l m : List Int) (hm : Own w B (.slice (some ⟨g, 0, none⟩) n cap) m) (hnm : n = m.length) (hl : Lies w sp l)
    (hdp : l ≠ [] → dp = some ⟨g, off, none⟩) (hdl : l.length = Nat.min sLen dLen) (hle : off + l.length ≤ m.length)
    (h : ∀ w', Own w' B (.slice (some ⟨g, 0, none⟩) n cap) (over m off l) → w.grownBy w' (some g) → K (a.put o.dst (goInt l.length)) w') : if Region.wanted o (yielded ops a.tmps) = true then Oper.wp P o a w K Q else E := by
  have hw : Region.wanted o (yielded ops a.tmps) = true := by simp [Region.wanted, hgd]
  rw [if_pos hw]
  obtain ⟨w', hrun, ho', hg⟩ := run_copy_part (ty := o.type) (sT := sT) hu hsz w B g off n cap dLen dCap sLen sCap dp sp l m hm hnm hl hdp hdl hle
  unfold Oper.wp
  simp [execOp, ho, resolve, invoke, builtin, hd, hs, hrun, Result.andThen]
  exact h w' ho' hg

theorem size5 : (Try.prog.info? 5).map (·.size) = some 1 := by kernel_rfl

theorem over_nil (m : List Int) (o : Nat) : over m o [] = m := by simp [over]

theorem Own.v_form {w : World} {B : Nat} {v : Value} {l : List Int} (h : Own w B v l) : (v = .slice none 0 0 ∧ l = []) ∨ ∃ g cap, v = .slice (some ⟨g, 0, none⟩) l.length cap ∧ l.length ≤ cap ∧ cap ≤ maxLen ∧ B ≤ g ∧ g < w.heap.size := by
  rcases h.2 with ⟨rfl, hn⟩ | ⟨g, cap, cur, rfl, hg, hh, hn, hcap, _, _⟩
  · exact Or.inl ⟨rfl, List.length_eq_zero_iff.1 hn⟩
  · exact Or.inr ⟨g, cap, rfl, hn, hcap, hg, (Array.getElem?_eq_some_iff.1 hh).1⟩

theorem box3 (w : World) (t : TypeId) (x y z : Value) : (w.alloc (.cells #[x, y, z] t)).cell? ⟨w.heap.size, 0, none⟩ = some x ∧ (w.alloc (.cells #[x, y, z] t)).cell? ⟨w.heap.size, 1, none⟩ = some y ∧ (w.alloc (.cells #[x, y, z] t)).cell? ⟨w.heap.size, 2, none⟩ = some z := by
  have h : (w.alloc (.cells #[x, y, z] t)).heap[w.heap.size]? = some (.cells #[x, y, z] t) := heap_alloc_new w _
  simp only [World.cell?, h]
  exact ⟨rfl, rfl, rfl⟩

theorem run_copy_any {P : Program} {dT sT ty : TypeId} (hu : P.underlying dT = some (.slice 5)) (hs : (P.info? 5).map (·.size) = some 1)
    (w : World) (B o dLen dCap sLen cap' : Nat) (dv : Value) (dp a : Option Addr) (l m : List Int) (hm : Own w B dv m) (hl : Lies w a l)
    (hdp : ∀ g, l ≠ [] → dv.ownBlock = some g → dp = some ⟨g, o, none⟩) (hdl : l.length = Nat.min sLen dLen) (hle : o + l.length ≤ m.length) :
    ∃ w', (Builtin.copy_ #[dT, sT] ty #[.slice dp dLen dCap, .slice a sLen cap']).run P w = .ok (goInt l.length) w' ∧
      Own w' B dv (over m o l) ∧ w.grownBy w' dv.ownBlock := by
  by_cases h0 : l = []
  · subst h0
    refine ⟨w, run_copy_none w dT sT ty 5 _ a _ dCap _ cap' hu hs hdl.symm, by simpa [over] using hm, World.grownBy.refl _ _⟩
  · have hlp := List.length_pos_iff.2 h0
    rcases hm.v_form with ⟨_, rfl⟩ | ⟨g, cap, rfl, _⟩
    · simp only [List.length_nil] at hle; omega
    · exact run_copy_part hu hs w B g o m.length cap dLen dCap sLen cap' dp a l m hm rfl hl (fun _ => hdp g h0 rfl) hdl hle

theorem step_copy_any {P : Program} {ops : Array Oper} {o : Oper} {a : Act} {w : World} {K : Act → World → Prop} {Q : Exit → Act → World → Prop} {E : Prop} (hgd : o.guard = none) (d s : Operand) (dT sT : TypeId)
    (ho : o.op = .call { callee := .builtin .copy, args := #[d, s], argTypes := #[dT, sT] }) (hu : P.underlying dT = some (.slice 5)) (hsz : (P.info? 5).map (·.size) = some 1)
    (dp sp : Option Addr) (dLen dCap sLen sCap : Nat) (hd : a.eval d = .slice dp dLen dCap) (hs : a.eval s = .slice sp sLen sCap)
    (B off : Nat) (dv : Value) (l m : List Int) (hm : Own w B dv m) (hl : Lies w sp l)
    (hdp : ∀ g, l ≠ [] → dv.ownBlock = some g → dp = some ⟨g, off, none⟩) (hdl : l.length = Nat.min sLen dLen) (hle : off + l.length ≤ m.length)
    (h : ∀ w', Own w' B dv (over m off l) → w.grownBy w' dv.ownBlock → K (a.put o.dst (goInt l.length)) w') : if Region.wanted o (yielded ops a.tmps) = true then Oper.wp P o a w K Q else E := by
  have hw : Region.wanted o (yielded ops a.tmps) = true := by simp [Region.wanted, hgd]
  rw [if_pos hw]
  obtain ⟨w', hrun, ho', hg⟩ := run_copy_any (ty := o.type) (sT := sT) hu hsz w B off dLen dCap sLen sCap dv dp sp l m hm hl hdp hdl hle
  unfold Oper.wp
  simp [execOp, ho, resolve, invoke, builtin, hd, hs, hrun, Result.andThen]
  exact h w' ho' hg

/-- Where the bytes lie behind a write. -/
def Went (w : World) (v v' : Value) : Prop := v'.ownBlock = v.ownBlock ∨ ∃ g, v'.ownBlock = some g ∧ w.heap.size ≤ g

end Go.Proofs.Ytnfbhgahkajhnaa.Oct
