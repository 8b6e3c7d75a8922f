/- Bytes: how many. -/
import Derived.RangeFuncNested
import Derived.RangeFuncBound
import Derived.RangeFuncCalls
import Derived.RangeFuncLeaves
import Derived.RangeFuncBox
import Derived.Shelf.Abstract
import Derived.Shelf.AbstractIn
import Derived.OwnWalkIn
import Derived.TacticsInMore
import Derived.LoopNIn
import Derived.LoopIn
import Derived.Test.YtbldkebolmellaaDoorNor
namespace Go.Proofs.YtbldkebolmellaaDoor.Oct
open Go.RowKit Go.Shelf

attribute [local go_sem] Oper.semAt_some

/-- The first so many, numbered. -/
def upto (N : List (Int × Int)) (k : Nat) : List (Nat × (Int × Int)) := (List.range k).map (fun j => (j, N.getD j (0, 0)))

theorem upto_succ (N : List (Int × Int)) (k : Nat) : upto N (k + 1) = upto N k ++ [(k, N.getD k (0, 0))] := by simp [upto, List.range_succ]
theorem upto_length (N : List (Int × Int)) (k : Nat) : (upto N k).length = k := by simp [upto]

/-- A block is kept. -/
def KeepB (g : Nat) (A B : World) : Prop := A.heap.size ≤ B.heap.size ∧ B.heap[g]? = A.heap[g]?

theorem KeepB.refl (g : Nat) (A : World) : KeepB g A A := ⟨Nat.le_refl _, rfl⟩
theorem KeepB.trans {g : Nat} {A B C : World} (h : KeepB g A B) (k : KeepB g B C) : KeepB g A C := ⟨Nat.le_trans h.1 k.1, k.2.trans h.2⟩
theorem KeepB.of_below {g n : Nat} {A B : World} (h : Below n A B) (hg : g < n) : KeepB g A B := ⟨h.size, h.block g hg⟩
theorem KeepB.cell {g o : Nat} {A B : World} (h : KeepB g A B) : B.cell? ⟨g, o, none⟩ = A.cell? ⟨g, o, none⟩ := World.cell?_of_block (a := ⟨g, o, none⟩) h.2
theorem KeepB.alloc {g : Nat} {A B : World} (h : KeepB g A B) (hg : g < A.heap.size) (o : Obj) : KeepB g A (B.alloc o) := by
  have h1 : Below B.heap.size B (B.alloc o) := (Below.refl _ _).alloc (Nat.le_refl _) _
  exact h.trans ⟨h1.size, h1.block g (Nat.lt_of_lt_of_le hg h.1)⟩

/-- Parts that lie in a block. -/
def LiesG (W : World) (a : Option Addr) (g : Nat) (N : List (Int × Int)) : Prop :=
  N = [] ∨ ∃ off, a = some ⟨g, off, none⟩ ∧ g < W.heap.size ∧ ∀ k, k < N.length → W.cell? ⟨g, off + k * 2, none⟩ = some (.int .i64 (N.getD k (0, 0)).1) ∧ W.cell? ⟨g, off + k * 2 + 1, none⟩ = some (.int .i64 (N.getD k (0, 0)).2)

theorem LiesG.keep {g : Nat} {A B : World} (h : KeepB g A B) {a : Option Addr} {N : List (Int × Int)} (hl : LiesG A a g N) : LiesG B a g N := by
  rcases hl with rfl | ⟨off, rfl, hlt, hc⟩
  · exact Or.inl rfl
  · exact Or.inr ⟨off, rfl, Nat.lt_of_lt_of_le hlt h.1, fun k hk => ⟨h.cell.trans (hc k hk).1, h.cell.trans (hc k hk).2⟩⟩

def encP (x : Nat × (Int × Int)) : Array Value := #[.int .i64 (x.1 : Int), .agg #[.int .i64 x.2.1, .int .i64 x.2.2]]

set_option maxRecDepth 100000 in
set_option maxHeartbeats 2000000 in
theorem all1_in (F : Fence) (n : Nat) (h8 : F.fn 64) (hro : F.round = none) (hn : 1 ≤ n) (l Bs g cap : Nat) (a : Option Addr) (N : List (Int × Int)) (hlen : N.length ≤ 1000000) (J Jx : List (Nat × (Int × Int)) → World → Prop) (W : World) (hJ : AbidesFrom W.heap.size J)
    (hY : ∀ pre x W, J pre W → pre.length < N.length → YieldAt F (n - 1) Tryd.prog l (encP x) W fun e W' =>
      (e = .returned (.bool true) ∧ J (pre ++ [x]) W' ∧ KeepB g W W') ∨ (e = .returned (.bool false) ∧ Jx (pre ++ [x]) W'))
    (hgW : g < W.heap.size) (hBs : W.cell? ⟨Bs, 0, none⟩ = some (.slice a N.length cap)) (hL : LiesG W a g N) (h0 : J [] W) :
    CallsIn F n Tryd.prog 64 #[.func (.yield l) #[] #[], .pointer (some ⟨Bs, 0, none⟩)] W fun e W' => (∃ v, e = .returned v) ∧
      ((∃ ys, ys = upto N N.length ∧ J ys W') ∨ (∃ pre, (∃ k, k ≤ N.length ∧ pre = upto N k) ∧ Jx pre W')) := by
  refine callsIn_of_wp Tryd.func64 rfl h8 ?_ hro
  simp only [Tryd.ntmps64, List.size_toArray, List.length_cons, List.length_nil, Nat.reduceAdd, Nat.reduceSub, Array.replicate_succ, Array.replicate_zero, List.push_toArray, List.append_toArray, List.nil_append, List.cons_append]
  gi_wp2
  gi_loopw [7] (fun i wr => ∃ k : Nat, k ≤ N.length ∧ i = .int .i64 k ∧ J (upto N k) wr ∧ KeepB g W wr) (fun i _ => N.length - (intOf i).toNat)
  case atStart => exact ⟨0, Nat.zero_le _, rfl, h0, KeepB.refl _ _⟩
  case round =>
    obtain ⟨k, hk, rfl, hJs, hnx⟩ := hrel
    by_cases hlt : k < N.length
    · rcases hL.keep hnx with hnil | ⟨off, ha, hb, hc⟩
      · rw [hnil] at hlt; simp at hlt
      subst ha
      obtain ⟨r0, r1⟩ := hc k hlt
      have hus := upto_succ N k
      have hul := upto_length N k
      obtain ⟨x, hx⟩ : ∃ x, x = N.getD k (0, 0) := ⟨_, rfl⟩
      rw [← hx] at r0 r1 hus
      obtain ⟨x1, x2⟩ := x
      dsimp only at r0 r1
      have hk0 : (0 : Int) ≤ (k : Int) := by omega
      have hk1 : (k : Int) < (N.length : Int) := by omega
      have hJ2 : J (upto N k) (wr.alloc (.cells #[.int .i64 x1, .int .i64 x2] 30)) := hJ _ _ _ none hJs (World.grownBy_alloc _ _ _) (fun r e => by cases e)
      have hB2 : KeepB g W (wr.alloc (.cells #[.int .i64 x1, .int .i64 x2] 30)) := hnx.alloc hgW _
      obtain ⟨fn, tmps, assign, body, hy, hR⟩ := hY _ (k, (x1, x2)) (wr.alloc (.cells #[.int .i64 x1, .int .i64 x2] 30)) hJ2 (by rw [hul]; exact hlt)
      dsimp only [encP] at hy
      clear hc hx hJs
      gi_wp2
      refine hR.mono ?_
      rintro e W3 (⟨rfl, hJ3, hk3⟩ | ⟨rfl, hJx3⟩)
      · gi_wp2
        go_roundw
        case rel => exact ⟨k + 1, by omega, by simp, by rw [hus]; exact hJ3, hB2.trans hk3⟩
        case measure => simp [intOf]; omega
      · gi_wp2
        refine bodyPost_ret (results_none rfl _ _ _) rfl ?_
        exact ⟨⟨_, rfl⟩, .inr ⟨_, ⟨k + 1, by omega, hus.symm⟩, hJx3⟩⟩
    · obtain rfl : k = N.length := by omega
      gi_wp2
      go_end0
      exact ⟨⟨_, rfl⟩, .inl ⟨_, rfl, hJs⟩⟩

/-- The iterator's contract. -/
theorem all_stops (F : Fence) (n : Nat) (h8 : F.fn 64) (hro : F.round = none) (hn : 1 ≤ n) (Bs g cap : Nat) (a : Option Addr) (N : List (Int × Int)) (hlen : N.length ≤ 1000000) (w : World) (hBs : Bs < w.heap.size) (hg : g < w.heap.size)
    (hc : w.cell? ⟨Bs, 0, none⟩ = some (.slice a N.length cap)) (hL : LiesG w a g N) :
    SeqStopsK F n Tryd.prog 64 #[.pointer (some ⟨Bs, 0, none⟩)] encP (KeepB g) (fun ys => ys = upto N N.length) (fun pre => ∃ k, k ≤ N.length ∧ pre = upto N k) N.length w := fun l J Jx W hW hJ _ hY h0 =>
  all1_in F n h8 hro hn l Bs g cap a N hlen J Jx W hJ hY (Nat.lt_of_lt_of_le hg hW.size) ((hW.cell (p := ⟨Bs, 0, none⟩) hBs).trans hc) (hL.keep (KeepB.of_below hW hg)) h0

/-- What All hands back: an iterator over the one form, which lies in a block of its own. -/
structure Gone (w w' : World) (L : List (Int × Int)) (Bs g : Nat) (a : Option Addr) (c : Nat) (N : List (Int × Int)) : Prop where
  box : w'.cell? ⟨Bs, 0, none⟩ = some (.slice a N.length c)
  lies : LiesG w' a g N
  norm : Normed L N
  bs : w.heap.size ≤ Bs ∧ Bs < w'.heap.size
  gs : w.heap.size ≤ g ∧ g < w'.heap.size
  below : Below w.heap.size w w'

set_option maxHeartbeats 1000000 in
theorem all_any (hS : SortSays) (w : World) (a : Option Addr) (c : Nat) (L : List (Int × Int)) (h : LiesE w a L) (hl : L.length ≤ 1000000) :
    Calls Tryd.prog 54 #[.slice a L.length c] w fun e w' => ∃ Bs g a' c' N, e = .returned (.func (.func 64) #[] #[.pointer (some ⟨Bs, 0, none⟩)]) ∧ Gone w w' L Bs g a' c' N := by
  have HN := hide (norm_any hS w a c L h hl)
  clear hS h
  go_enter Tryd.func54, Tryd.ntmps54
  go_wp2_with fail
  refine HN.out.mono ?_
  rintro e w1 ⟨v1, N, rfl, ho1, hn1, hb1⟩
  obtain ⟨a1, c1, rfl, hl1, _, _, hp1⟩ := ho1.form
  have hnew : (w1.alloc (.cells #[.slice a1 N.length c1] 62)).heap[w1.heap.size]? = some (.cells #[.slice a1 N.length c1] 62) := heap_alloc_new w1 _
  have hb2 : Below w1.heap.size w1 (w1.alloc (.cells #[.slice a1 N.length c1] 62)) := (Below.refl _ _).alloc (Nat.le_refl _) _
  have hs2 : (w1.alloc (.cells #[.slice a1 N.length c1] 62)).heap.size = w1.heap.size + 1 := by simp
  have hG : ∃ g, Gone w (w1.alloc (.cells #[.slice a1 N.length c1] 62)) L w1.heap.size g a1 c1 N := by
    have hs1 := hb1.size
    have hbox : (w1.alloc (.cells #[.slice a1 N.length c1] 62)).cell? ⟨w1.heap.size, 0, none⟩ = some (.slice a1 N.length c1) := by
      simp only [World.cell?, hnew]
      rfl
    have hbl : Below w.heap.size w (w1.alloc (.cells #[.slice a1 N.length c1] 62)) := hb1.alloc hb1.size _
    rcases hl1.below hb2 with rfl | ⟨b, off, rfl, hlt, hc⟩
    · exact ⟨w1.heap.size, hbox, Or.inl rfl, hn1, by omega, by omega, hbl⟩
    · have := hp1 _ rfl
      exact ⟨b, hbox, Or.inr ⟨off, rfl, hlt, hc⟩, hn1, by omega, ⟨this.1, hlt⟩, hbl⟩
  have HG := hide hG
  clear ho1 hn1 hb1 hl1 hp1 hnew hb2 hs2 hG HN
  go_wp2_with fail
  go_ret
  obtain ⟨g, hg⟩ := HG.out
  exact ⟨_, g, _, _, N, rfl, hg⟩

end Go.Proofs.YtbldkebolmellaaDoor.Oct

namespace Go.Proofs.YtbldkebolmellaaDoor.Oct
open Go.RowKit Go.Shelf

def NearB (L : List (Int × Int)) : Prop := ∀ p ∈ L, (-1125899906842624 ≤ p.1 ∧ p.1 ≤ 1125899906842624) ∧ (-1125899906842624 ≤ p.2 ∧ p.2 ≤ 1125899906842624)

theorem upto_map (N : List (Int × Int)) (f : Int × Int → Int × Int) : (upto N N.length).map (fun p => f p.2) = N.map f := by
  apply List.ext_getElem?
  intro k
  simp only [upto, List.map_map, List.getElem?_map]
  by_cases hk : k < N.length
  · rw [List.getElem?_range hk]
    simp [hk]
  · rw [List.getElem?_eq_none (by simpa using hk), List.getElem?_eq_none (by simpa using hk)]
    rfl

theorem Normed.nearB {L N : List (Int × Int)} (h : Normed L N) (hn : NearB L) : NearB N := by
  intro p hp
  obtain ⟨q, hq, e1⟩ := h.fst p hp
  obtain ⟨q', hq', e2⟩ := h.snd p hp
  have h1 := hn q hq
  have h2 := hn q' hq'
  omega

def sumW (acc : Int) (L : List (Int × Int)) : Int := L.foldl (fun s p => IntKind.i64.wrap (s + IntKind.i64.wrap (p.2 - p.1))) acc
def sumE (acc : Int) (L : List (Int × Int)) : Int := L.foldl (fun s p => s + (p.2 - p.1)) acc

theorem sumW_snoc (L : List (Int × Int)) (p : Int × Int) : sumW 0 (L ++ [p]) = IntKind.i64.wrap (sumW 0 L + IntKind.i64.wrap (p.2 - p.1)) := by simp [sumW]
theorem sumE_snoc (L : List (Int × Int)) (p : Int × Int) : sumE 0 (L ++ [p]) = sumE 0 L + (p.2 - p.1) := by simp [sumE]

theorem sum_near : ∀ (L : List (Int × Int)) (acc : Int) (b : Nat), NearB L → -(2251799813685248 * (b : Int)) ≤ acc → acc ≤ 2251799813685248 * (b : Int) → b + L.length ≤ 2000 →
    sumW acc L = sumE acc L ∧ -(2251799813685248 * ((b + L.length : Nat) : Int)) ≤ sumE acc L ∧ sumE acc L ≤ 2251799813685248 * ((b + L.length : Nat) : Int)
  | [], acc, b, _, h1, h2, _ => ⟨rfl, by simpa [sumE] using h1, by simpa [sumE] using h2⟩
  | p :: L, acc, b, hn, h1, h2, hb => by
    have hp := hn p (by simp)
    simp only [List.length_cons] at hb
    have e1 : IntKind.i64.wrap (p.2 - p.1) = p.2 - p.1 := by rw [IntKind.wrap_i64]; omega
    have e2 : IntKind.i64.wrap (acc + (p.2 - p.1)) = acc + (p.2 - p.1) := by rw [IntKind.wrap_i64]; omega
    have ih := sum_near L (acc + (p.2 - p.1)) (b + 1) (fun q hq => hn q (by simp [hq])) (by push_cast; omega) (by push_cast; omega) (by omega)
    have e3 : sumW acc (p :: L) = sumW (acc + (p.2 - p.1)) L := by
      show sumW (IntKind.i64.wrap (acc + IntKind.i64.wrap (p.2 - p.1))) L = _
      rw [e1, e2]
    have e4 : sumE acc (p :: L) = sumE (acc + (p.2 - p.1)) L := rfl
    have e5 : b + (p :: L).length = b + 1 + L.length := by simp; omega
    rw [e3, e4, e5]
    exact ih

section
attribute [local go_sem] Oper.semAt_some

set_option maxRecDepth 100000 in
set_option maxHeartbeats 4000000 in
theorem bytes_any (hS : SortSays) (w : World) (a : Option Addr) (c : Nat) (L : List (Int × Int)) (h : LiesE w a L) (hl : L.length ≤ 1000) (hne : NearB L) :
    Calls Tryd.prog 31 #[.slice a L.length c] w fun e w' => ∃ N, e = .returned (.int .i64 (sumE 0 N)) ∧ Normed L N ∧ Below w.heap.size w w' := by
  refine (callsIn_wide (n := 5)).1 ?_
  refine callsIn_of_wp_marks Tryd.func31 rfl trivial ?_ rfl
  simp only [Tryd.ntmps31, List.size_toArray, List.length_cons, List.length_nil, Nat.reduceAdd, Nat.reduceSub, Array.replicate_succ, Array.replicate_zero, List.push_toArray, List.append_toArray, List.nil_append, List.cons_append]
  have hb2 : Below w.heap.size w (w.alloc (.cells #[.int .i64 0] 2)) := (Below.refl _ w).alloc (Nat.le_refl _) _
  have bU := Boxed.new w 2 (.int .i64 0)
  have HA := hide (all_any hS _ a c L (h.below hb2) (by omega))
  gi_wp2_with (refine ⟨trivial, ?_⟩; gi_at_call 54; refine (callsIn_wide.2 HA.out).mono ?_; rintro e w3 ⟨Bs, g, a', c', N, rfl, hG⟩)
  have hsW : w.heap.size + 1 ≤ w3.heap.size := by have := hG.below.size; simp at this; omega
  have hgs : w.heap.size + 1 ≤ g ∧ g < w3.heap.size := by have := hG.gs; simp at this; exact this
  have hb3 : Below w.heap.size w w3 := hb2.trans (hG.below.mono (by simp))
  have bU3 : Boxed w3 w.heap.size 2 (.int .i64 0) := (hG.below.block _ (by simp)).trans bU
  clear HA bU hb2
  refine wpIn_rangeFunc_ownH rfl (by omega) (gf := 64) (lb := #[.pointer (some ⟨Bs, 0, none⟩)]) rfl trivial (enters_of Tryd.func64 (by kernel_rfl) rfl)
    (all_stops Fence.wide 4 trivial rfl (by omega) Bs g c' a' N (by have := hG.norm.len; omega) w3 hG.bs.2 hgs.2 hG.box hG.lies) KeepB.trans (fun W l o o' hl ho h1 h2 => KeepB.of_below (belowK_b (Nat.le_refl _) W l o o' hl ho h1 h2) hgs.2) (Below.refl _ _) (fun _ => rfl)
    (fun (pre : List (Nat × (Int × Int))) W => Boxed W w.heap.size 2 (.int .i64 (sumW 0 (pre.map (fun p => p.2)))) ∧ (Below w.heap.size w W ∧ w3.heap.size ≤ W.heap.size))
    (fun _ _ _ => False)
    (OwnFrom.and (Own.from (boxed_own _ _ _) _) (OwnFrom.and (ownFrom_below (Nat.le_refl _) (by omega)) (fun _ _ _ _ hs hg _ => Nat.le_trans hs hg.size)))
    (fun _ _ _ _ _ hs _ _ => hs)
    ⟨bU3, hb3, Nat.le_refl _⟩
    (fun x a' W => ∃ Bx, w3.heap.size ≤ Bx ∧ W.heap[Bx]? = some (.cells #[.int .i64 x.2.1, .int .i64 x.2.2] 30 (0, 0)) ∧ a' = { tmps := #[.slice a L.length c, undef, .int .i64 0, .pointer (some ⟨w.heap.size, 0, none⟩), undef, .pointer (some ⟨Bx, 0, none⟩), .slice a L.length c, .func (.func 64) #[] #[.pointer (some ⟨Bs, 0, none⟩)], .int .i64 x.1, .agg #[.int .i64 x.2.1, .int .i64 x.2.2], undef, undef, undef, undef, undef, undef, undef, undef], defers := [] })
    (fun x a' _ X Y row hs hg hr => by
      obtain ⟨Bx, h1, h2, h3⟩ := hs
      refine ⟨Bx, h1, (hg.block Bx (Array.getElem?_eq_some_iff.1 h2).1 (fun e => ?_)).trans h2, h3⟩
      obtain ⟨o, ho, hc⟩ := (hr Bx e.symm).2
      rw [h2] at ho
      cases ho
      cases hc)
    ?assign ?body ?done ?stop
  case assign =>
    rintro l pre x W K ⟨bU1, hB1, hs1⟩ hK
    obtain ⟨xi, x1, x2⟩ := x
    dsimp only [encP] at *
    gi_wp2
    exact hK _ _ ((KeepsOthers.alloc _ _).from _) ((KeepB.refl g W).alloc (by omega) _) ⟨bU1.alloc _, hB1.alloc hB1.size _, by simp; omega⟩ ⟨W.heap.size, hs1, World.alloc_heap_new W _, rfl⟩
  case body =>
    rintro l pre x a' W hl ⟨r, hr⟩ ⟨bU1, hB1, hs1⟩ ⟨Bx, hBx, bX, rfl⟩ hlt
    obtain ⟨xi, x1, x2⟩ := x
    dsimp only at bX ⊢
    obtain ⟨z, hz⟩ : ∃ z, z = sumW 0 (pre.map (fun p => p.2)) := ⟨_, rfl⟩
    rw [← hz] at bU1
    have HZ := hide hz
    obtain ⟨y, hy⟩ : ∃ y, IntKind.i64.wrap (x2 - x1) = y := ⟨_, rfl⟩
    obtain ⟨z', hz'⟩ : ∃ z', IntKind.i64.wrap (z + y) = z' := ⟨_, rfl⟩
    have HZ' : Hid (z' = sumW 0 ((pre ++ [(xi, (x1, x2))]).map (fun p => p.2))) := hide (by rw [List.map_append, List.map_singleton, sumW_snoc, ← hz, hy, hz'])
    have cU := bU1.cell
    have fU := bU1.frozen
    obtain ⟨cX0, cX1⟩ : W.cell? ⟨Bx, 0, none⟩ = some (.int .i64 x1) ∧ W.cell? ⟨Bx, 1, none⟩ = some (.int .i64 x2) := by simp only [World.cell?, bX]; exact ⟨rfl, rfl⟩
    have HP : Hid (KeepsFrom w3.heap.size W (W.setCell ⟨w.heap.size, 0, none⟩ (.int .i64 z')) ∧ KeepB g W (W.setCell ⟨w.heap.size, 0, none⟩ (.int .i64 z')) ∧ Boxed (W.setCell ⟨w.heap.size, 0, none⟩ (.int .i64 z')) w.heap.size 2 (.int .i64 z') ∧ Below w.heap.size w (W.setCell ⟨w.heap.size, 0, none⟩ (.int .i64 z')) ∧ w3.heap.size ≤ (W.setCell ⟨w.heap.size, 0, none⟩ (.int .i64 z')).heap.size) := by
      have hgg := grownBy_setCell' W w.heap.size (.int .i64 z')
      exact hide ⟨(KeepsOthers.setCell _ _ _).from _, ⟨hgg.size, hgg.block g (by omega) (by simp; omega)⟩, bU1.set _, hB1.setCell (p := ⟨w.heap.size, 0, none⟩) (Nat.le_refl _) _, Nat.le_trans hs1 hgg.size⟩
    clear bX bU1 hz
    gi_wp2
    have h1 := HP.out
    refine ⟨h1.1, h1.2.1, ?_, h1.2.2.2⟩
    rw [← HZ'.out]
    exact h1.2.2.1
  case done =>
    rintro D ys W hD rfl ⟨bU1, hB1, hs1⟩ hK
    have hsm := sum_near N 0 0 (hG.norm.nearB hne) (by simp) (by simp) (by have := hG.norm.len; omega)
    rw [show (upto N N.length).map (fun p => p.2) = N by rw [upto_map N (fun p => p)]; simp, hsm.1] at bU1
    have cO := bU1.cell
    gi_wp2
    refine ⟨by simp, .inl ⟨_, _, rfl, run_takeDeferred hK, ?_⟩⟩
    exact ⟨_, results_tmp rfl _ _ _, N, rfl, hG.norm, hB1.trans (belowK_b (w := w) (Nat.le_refl _) W D _ _ (by omega) hK rfl rfl)⟩
  case stop =>
    rintro D c pre W _ _ h _
    exact h.elim
end

--IF fettleref03.Bytes
end Go.Proofs.YtbldkebolmellaaDoor.Oct
