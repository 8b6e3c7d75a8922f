/- A region that draws its order, inside a round of a range over a function: walked as outside. -/
import Derived.RangeFuncNested
import Derived.RangeFuncBound
import Derived.RangeFuncCalls
import Derived.RangeFuncLeaves
import Derived.RangeFuncBox
import Derived.Shelf.Abstract
import Derived.Shelf.AbstractIn
import Derived.OwnWalkIn
import Derived.TacticsInMore
import Derived.LoopNIn
import Derived.LoopIn
import Derived.Test.YtjpdfchdgphdoaaGreatDoorPNor
import Derived.OrdersHeld
import Derived.OrdersIn
import Derived.TacticsIn
import Derived.Deep.RegionHeld3
import Derived.Maps.AppendAt
namespace Go.Proofs.YtjpdfchdgphdoaaGreatDoor.Oct
open Go.RowKit Go.Shelf

attribute [local go_sem] Oper.semAt_some

/-- The first so many, numbered. -/
def upto (N : List (Int × Int)) (k : Nat) : List (Nat × (Int × Int)) := (List.range k).map (fun j => (j, N.getD j (0, 0)))

theorem upto_succ (N : List (Int × Int)) (k : Nat) : upto N (k + 1) = upto N k ++ [(k, N.getD k (0, 0))] := by simp [upto, List.range_succ]
theorem upto_length (N : List (Int × Int)) (k : Nat) : (upto N k).length = k := by simp [upto]

/-- A block is kept. -/
def KeepB (g : Nat) (A B : World) : Prop := A.heap.size ≤ B.heap.size ∧ B.heap[g]? = A.heap[g]?

theorem KeepB.refl (g : Nat) (A : World) : KeepB g A A := ⟨Nat.le_refl _, rfl⟩
theorem KeepB.trans {g : Nat} {A B C : World} (h : KeepB g A B) (k : KeepB g B C) : KeepB g A C := ⟨Nat.le_trans h.1 k.1, k.2.trans h.2⟩
theorem KeepB.of_below {g n : Nat} {A B : World} (h : Below n A B) (hg : g < n) : KeepB g A B := ⟨h.size, h.block g hg⟩
theorem KeepB.cell {g o : Nat} {A B : World} (h : KeepB g A B) : B.cell? ⟨g, o, none⟩ = A.cell? ⟨g, o, none⟩ := World.cell?_of_block (a := ⟨g, o, none⟩) h.2
theorem KeepB.alloc {g : Nat} {A B : World} (h : KeepB g A B) (hg : g < A.heap.size) (o : Obj) : KeepB g A (B.alloc o) := by
  have h1 : Below B.heap.size B (B.alloc o) := (Below.refl _ _).alloc (Nat.le_refl _) _
  exact h.trans ⟨h1.size, h1.block g (Nat.lt_of_lt_of_le hg h.1)⟩

/-- Parts that lie in a block. -/
def LiesG (W : World) (a : Option Addr) (g : Nat) (N : List (Int × Int)) : Prop :=
  N = [] ∨ ∃ off, a = some ⟨g, off, none⟩ ∧ g < W.heap.size ∧ ∀ k, k < N.length → W.cell? ⟨g, off + k * 2, none⟩ = some (.int .i64 (N.getD k (0, 0)).1) ∧ W.cell? ⟨g, off + k * 2 + 1, none⟩ = some (.int .i64 (N.getD k (0, 0)).2)

theorem LiesG.keep {g : Nat} {A B : World} (h : KeepB g A B) {a : Option Addr} {N : List (Int × Int)} (hl : LiesG A a g N) : LiesG B a g N := by
  rcases hl with rfl | ⟨off, rfl, hlt, hc⟩
  · exact Or.inl rfl
  · exact Or.inr ⟨off, rfl, Nat.lt_of_lt_of_le hlt h.1, fun k hk => ⟨h.cell.trans (hc k hk).1, h.cell.trans (hc k hk).2⟩⟩

def encP (x : Nat × (Int × Int)) : Array Value := #[.int .i64 (x.1 : Int), .agg #[.int .i64 x.2.1, .int .i64 x.2.2]]

set_option maxRecDepth 100000 in
set_option maxHeartbeats 2000000 in
theorem all1_in (F : Fence) (n : Nat) (h8 : F.fn 95) (hro : F.round = none) (hn : 1 ≤ n) (l Bs g cap : Nat) (a : Option Addr) (N : List (Int × Int)) (hlen : N.length ≤ 1000000) (J Jx : List (Nat × (Int × Int)) → World → Prop) (W : World) (hJ : AbidesFrom W.heap.size J)
    (hY : ∀ pre x W, J pre W → pre.length < N.length → YieldAt F (n - 1) Tryz.prog l (encP x) W fun e W' =>
      (e = .returned (.bool true) ∧ J (pre ++ [x]) W' ∧ KeepB g W W') ∨ (e = .returned (.bool false) ∧ Jx (pre ++ [x]) W'))
    (hgW : g < W.heap.size) (hBs : W.cell? ⟨Bs, 0, none⟩ = some (.slice a N.length cap)) (hL : LiesG W a g N) (h0 : J [] W) :
    CallsIn F n Tryz.prog 95 #[.func (.yield l) #[] #[], .pointer (some ⟨Bs, 0, none⟩)] W fun e W' => (∃ v, e = .returned v) ∧
      ((∃ ys, ys = upto N N.length ∧ J ys W') ∨ (∃ pre, (∃ k, k ≤ N.length ∧ pre = upto N k) ∧ Jx pre W')) := by
  refine callsIn_of_wp Tryz.func95 rfl h8 ?_ hro
  simp only [Tryz.ntmps95, List.size_toArray, List.length_cons, List.length_nil, Nat.reduceAdd, Nat.reduceSub, Array.replicate_succ, Array.replicate_zero, List.push_toArray, List.append_toArray, List.nil_append, List.cons_append]
  gi_wp2
  gi_loopw [7] (fun i wr => ∃ k : Nat, k ≤ N.length ∧ i = .int .i64 k ∧ J (upto N k) wr ∧ KeepB g W wr) (fun i _ => N.length - (intOf i).toNat)
  case atStart => exact ⟨0, Nat.zero_le _, rfl, h0, KeepB.refl _ _⟩
  case round =>
    obtain ⟨k, hk, rfl, hJs, hnx⟩ := hrel
    by_cases hlt : k < N.length
    · rcases hL.keep hnx with hnil | ⟨off, ha, hb, hc⟩
      · rw [hnil] at hlt; simp at hlt
      subst ha
      obtain ⟨r0, r1⟩ := hc k hlt
      have hus := upto_succ N k
      have hul := upto_length N k
      obtain ⟨x, hx⟩ : ∃ x, x = N.getD k (0, 0) := ⟨_, rfl⟩
      rw [← hx] at r0 r1 hus
      obtain ⟨x1, x2⟩ := x
      dsimp only at r0 r1
      have hk0 : (0 : Int) ≤ (k : Int) := by omega
      have hk1 : (k : Int) < (N.length : Int) := by omega
      have hJ2 : J (upto N k) (wr.alloc (.cells #[.int .i64 x1, .int .i64 x2] 24)) := hJ _ _ _ none hJs (World.grownBy_alloc _ _ _) (fun r e => by cases e)
      have hB2 : KeepB g W (wr.alloc (.cells #[.int .i64 x1, .int .i64 x2] 24)) := hnx.alloc hgW _
      obtain ⟨fn, tmps, assign, body, hy, hR⟩ := hY _ (k, (x1, x2)) (wr.alloc (.cells #[.int .i64 x1, .int .i64 x2] 24)) hJ2 (by rw [hul]; exact hlt)
      dsimp only [encP] at hy
      clear hc hx hJs
      gi_wp2
      refine hR.mono ?_
      rintro e W3 (⟨rfl, hJ3, hk3⟩ | ⟨rfl, hJx3⟩)
      · gi_wp2
        go_roundw
        case rel => exact ⟨k + 1, by omega, by simp, by rw [hus]; exact hJ3, hB2.trans hk3⟩
        case measure => simp [intOf]; omega
      · gi_wp2
        refine bodyPost_ret (results_none rfl _ _ _) rfl ?_
        exact ⟨⟨_, rfl⟩, .inr ⟨_, ⟨k + 1, by omega, hus.symm⟩, hJx3⟩⟩
    · obtain rfl : k = N.length := by omega
      gi_wp2
      go_end0
      exact ⟨⟨_, rfl⟩, .inl ⟨_, rfl, hJs⟩⟩

/-- The iterator's contract. -/
theorem all_stops (F : Fence) (n : Nat) (h8 : F.fn 95) (hro : F.round = none) (hn : 1 ≤ n) (Bs g cap : Nat) (a : Option Addr) (N : List (Int × Int)) (hlen : N.length ≤ 1000000) (w : World) (hBs : Bs < w.heap.size) (hg : g < w.heap.size)
    (hc : w.cell? ⟨Bs, 0, none⟩ = some (.slice a N.length cap)) (hL : LiesG w a g N) :
    SeqStopsK F n Tryz.prog 95 #[.pointer (some ⟨Bs, 0, none⟩)] encP (KeepB g) (fun ys => ys = upto N N.length) (fun pre => ∃ k, k ≤ N.length ∧ pre = upto N k) N.length w := fun l J Jx W hW hJ _ hY h0 =>
  all1_in F n h8 hro hn l Bs g cap a N hlen J Jx W hJ hY (Nat.lt_of_lt_of_le hg hW.size) ((hW.cell (p := ⟨Bs, 0, none⟩) hBs).trans hc) (hL.keep (KeepB.of_below hW hg)) h0

/-- What All hands back: an iterator over the one form, which lies in a block of its own. -/
structure Gone (w w' : World) (L : List (Int × Int)) (Bs g : Nat) (a : Option Addr) (c : Nat) (N : List (Int × Int)) : Prop where
  box : w'.cell? ⟨Bs, 0, none⟩ = some (.slice a N.length c)
  lies : LiesG w' a g N
  norm : Normed L N
  bs : w.heap.size ≤ Bs ∧ Bs < w'.heap.size
  gs : w.heap.size ≤ g ∧ g < w'.heap.size
  below : Below w.heap.size w w'

set_option maxHeartbeats 1000000 in
theorem all_any (hS : SortSays) (w : World) (a : Option Addr) (c : Nat) (L : List (Int × Int)) (h : LiesE w a L) (hl : L.length ≤ 1000000) :
    Calls Tryz.prog 65 #[.slice a L.length c] w fun e w' => ∃ Bs g a' c' N, e = .returned (.func (.func 95) #[] #[.pointer (some ⟨Bs, 0, none⟩)]) ∧ Gone w w' L Bs g a' c' N := by
  have HN := hide (norm_any hS w a c L h hl)
  clear hS h
  go_enter Tryz.func65, Tryz.ntmps65
  go_wp2_with fail
  refine HN.out.mono ?_
  rintro e w1 ⟨v1, N, rfl, ho1, hn1, hb1⟩
  obtain ⟨a1, c1, rfl, hl1, _, _, hp1⟩ := ho1.form
  have hnew : (w1.alloc (.cells #[.slice a1 N.length c1] 55)).heap[w1.heap.size]? = some (.cells #[.slice a1 N.length c1] 55) := heap_alloc_new w1 _
  have hb2 : Below w1.heap.size w1 (w1.alloc (.cells #[.slice a1 N.length c1] 55)) := (Below.refl _ _).alloc (Nat.le_refl _) _
  have hs2 : (w1.alloc (.cells #[.slice a1 N.length c1] 55)).heap.size = w1.heap.size + 1 := by simp
  have hG : ∃ g, Gone w (w1.alloc (.cells #[.slice a1 N.length c1] 55)) L w1.heap.size g a1 c1 N := by
    have hs1 := hb1.size
    have hbox : (w1.alloc (.cells #[.slice a1 N.length c1] 55)).cell? ⟨w1.heap.size, 0, none⟩ = some (.slice a1 N.length c1) := by
      simp only [World.cell?, hnew]
      rfl
    have hbl : Below w.heap.size w (w1.alloc (.cells #[.slice a1 N.length c1] 55)) := hb1.alloc hb1.size _
    rcases hl1.below hb2 with rfl | ⟨b, off, rfl, hlt, hc⟩
    · exact ⟨w1.heap.size, hbox, Or.inl rfl, hn1, by omega, by omega, hbl⟩
    · have := hp1 _ rfl
      exact ⟨b, hbox, Or.inr ⟨off, rfl, hlt, hc⟩, hn1, by omega, ⟨this.1, hlt⟩, hbl⟩
  have HG := hide hG
  clear ho1 hn1 hb1 hl1 hp1 hnew hb2 hs2 hG HN
  go_wp2_with fail
  go_ret
  obtain ⟨g, hg⟩ := HG.out
  exact ⟨_, g, _, _, N, rfl, hg⟩

end Go.Proofs.YtjpdfchdgphdoaaGreatDoor.Oct

namespace Go.Proofs.YtjpdfchdgphdoaaGreatDoor.Oct
open Go.RowKit

/-- Nothing but the plain way out. -/
def Only (Q : Exit → Act → World → Prop) : Exit → Act → World → Prop
  | .normal, a, w => Q .normal a w
  | _, _, _ => False

theorem Only.imp {Q : Exit → Act → World → Prop} : ∀ (e : Exit) (a : Act) (w : World), Only Q e a w → Q e a w := fun e a w h => by
  cases e <;> first | exact h | exact (h : False).elim

def noDefer (ops : Array Oper) : Bool := ops.all fun o => match o.op with | .defer _ => false | _ => true

theorem noDefer_at {ops : Array Oper} (h : noDefer ops = true) {i : Nat} {o : Oper} (hi : ops[i]? = some o) (c : _) : o.op ≠ .defer c := by
  intro e
  rw [Array.getElem?_eq_some_iff] at hi
  obtain ⟨hlt, rfl⟩ := hi
  have h1 := (Array.all_eq_true.1 h) i hlt
  simp only [e] at h1
  cases h1

theorem rowsIn_round {l n : Nat} {P : Program} {row : String} {args : Array Value} {w : World} {R : Value → World → Prop} (h : Rows P row args w R) : RowsIn (Fence.wide.inRound l) n P row args w R :=
  fun c cs _ => let ⟨v, w', r, s⟩ := h c cs; ⟨v, w', r, stepsIn_wide.2 s⟩

theorem wpOpIn_round {l n : Nat} {P : Program} {ops : Array Oper} {Q : Exit → Act → World → Prop} (hd : noDefer ops = true) {i : Nat} {K K' : Act → World → Prop} (hK : ∀ a w, K a w → K' a w) {a : Act} {w : World}
    (h : wpOp P ops (Only Q) i K a w) : wpOpIn (Fence.wide.inRound l) n P ops (Only Q) i K' a w := by
  have hL : ¬ LetsOut (Only Q) := fun ⟨_, _, h⟩ => h
  unfold wpOp at h
  unfold wpOpIn
  cases ho : ops[i]? with
  | none => simp only [ho] at h ⊢; exact hK _ _ h
  | some o =>
    simp only [ho] at h ⊢
    have hda := noDefer_at hd ho
    by_cases hw : Region.wanted o (yielded ops a.tmps) = true
    · simp only [hw, if_true] at h ⊢
      rcases h with h | h
      · have h := Oper.wp_mono hK h
        unfold Oper.wp at h
        unfold Oper.wpIn
        refine ⟨fun _ _ => trivial, ?_⟩
        rw [Fence.inRound_round, Oper.semAt_some _ _ _ hda]
        generalize (execOp a.eval o).run P w = r at *
        cases r with
        | ok x w' =>
          cases x <;> simp only [Oper.upon] at h <;> simp only [Oper.uponIn]
          case value u => exact h
          case skip => exact h
          case defer d => exact h
          case enter f args => exact ⟨fun hh => by simp [Fence.wide] at hh, callsIn_wide.2 h⟩
          case row row args => exact ⟨fun hh => by simp [Fence.wide] at hh, rowsIn_round h⟩
        | halt x w' => cases x <;> simp only [Oper.upon] at h <;> simp only [Oper.uponIn] <;> exact h
      · exact absurd h.2 hL
    · simp only [hw] at h ⊢
      exact ⟨fun _ _ => trivial, hK _ _ h⟩

theorem wpAnyIn_round {l n : Nat} {P : Program} {md : Region.Mode} {ops : Array Oper} {Q : Exit → Act → World → Prop} (hd : noDefer ops = true) : ∀ (fuel : Nat) (listed : Array Bool) (a : Act) (w : World),
    wpAny P md ops (Only Q) fuel listed a w → wpAnyIn (Fence.wide.inRound l) n P md ops (Only Q) fuel listed a w
  | 0, _, _, _, h => h
  | fuel + 1, _, _, _, h => ⟨h.1, fun i hi => wpOpIn_round hd (fun a w hh => wpAnyIn_round hd fuel _ a w hh) (h.2 i hi)⟩

theorem Code.wpIn_mono' {F : Fence} {n : Nat} {P : Program} {c : Code} {Q Q' : Exit → Act → World → Prop} {a : Act} {w : World} (hq : ∀ e a w, Q e a w → Q' e a w) (h : c.wpIn F n P Q a w) : c.wpIn F n P Q' a w :=
  fun b k cs h1 h2 h3 => let ⟨e, a', w', q, r⟩ := h b k cs h1 h2 h3; ⟨e, a', w', hq _ _ _ q, r⟩

/-- The region in a round. -/
theorem region_round {l n : Nat} {P : Program} {id : Nat} {ops : Array Oper} {Q : Exit → Act → World → Prop} {a : Act} {w : World} (S : World → Prop) (hm : P.follows .mixedOrders = true) (hd : noDefer ops = true)
    (h : wpAnyH P .any ops (Only Q) S ops.size (Array.replicate ops.size false) a w.drew) : (Code.region id ops true).wpIn (Fence.wide.inRound l) n P Q a w :=
  Code.wpIn_mono' Only.imp (wpIn_region_any hm (wpAnyIn_round hd _ _ _ _ (wpAny_of_held _ _ _ _ h)))

/-- An operation is taken first. -/
theorem only_take {P : Program} {md : Region.Mode} {ops : Array Oper} {Q : Exit → Act → World → Prop} {S : World → Prop} {fuel : Nat} {listed : Array Bool} {a : Act} {w : World} (i : Nat) (v : Value) {oi : Oper} (hi : ops[i]? = some oi)
    (hs : Region.noSelect ops = true) (hf : Region.free md ops listed i = true) (hr : (Region.ready md ops listed).contains i = true) (hw : Region.wanted oi (yielded ops a.tmps) = true)
    (hS : S w) (hy : ∀ w, S w → (execOp a.eval oi).run P w = .ok (.value v) w)
    (h : wpAnyH P md ops (Only Q) S fuel (listed.setIfInBounds i true) (a.put oi.dst v) w) : wpAnyH P md ops (Only Q) S (fuel + 1) listed a w :=
  wpAnyH_take hi hs hf hr (fun _ _ _ h => h) (Or.inl ⟨hw, hy⟩) hS h

theorem step_append_row {P : Program} {ops : Array Oper} {o : Oper} {a : Act} {w : World} {K : Act → World → Prop} {Q : Exit → Act → World → Prop} {E : Prop} (hgd : o.guard = none) (s x : Operand) (t : TypeId)
    (ho : o.op = .call { callee := .builtin .append, args := #[s, x], argTypes := #[t, t] })
    (base : Nat) (e : TypeId) (i : TypeInfo) (z : Value) (size bytes : Nat) (ht : P.underlying t = some (.slice e)) (hi : P.info? e = some i) (hz : i.zero = some z)
    (hsize : i.size = size) (hby : i.bytes = bytes) (hzs : z.cells.size = size) (hsz : 0 < size)
    (v : Value) (n : Nat) (xs : List Value) (hs : a.eval s = v) (hown : w.ownsRow base e size v n xs)
    (ad : Addr) (m c : Nat) (news : List Value) (hx : a.eval x = .slice (some ad) m c) (hl : news.length = m * size) (hnews : ∀ j u, news[j]? = some u → w.cell? (ad.add j) = some u) (h1 : ∀ u ∈ news, u.oneCell' = true)
    (h63 : n + m ≤ maxLen) (hbytes : (n + m) * bytes ≤ 140737488355328) (hbase : base ≤ w.heap.size)
    (h : ∀ v' w', w'.ownsRow base e size v' (n + m) (xs ++ news) → w.grownBy w' v.ownBlock → (v'.ownBlock = v.ownBlock ∨ v'.ownBlock = some w.heap.size) → K (a.put o.dst v') w') : if Region.wanted o (yielded ops a.tmps) = true then Oper.wp P o a w K Q else E := by
  have hw : Region.wanted o (yielded ops a.tmps) = true := by simp [Region.wanted, hgd]
  rw [if_pos hw]
  obtain ⟨v', w', hr, h2, h3, h4, h5⟩ := run_append_own_at (P := P) w base t o.type e i z size bytes ht hi hz hsize hby hzs hsz v n xs hown ad m c news hl hnews h1 h63 hbytes hbase
  unfold Oper.wp
  simp [execOp, ho, resolve, invoke, builtin, hs, hx, hr, Result.andThen]
  exact h v' w' h2 h3 h5

/-- A part is added to a row that a box holds: the box lies below the row's base. -/
theorem Boxed.added {W w1 : World} {r₀ n₀ B g : Nat} {t e : TypeId} {size : Nat} {v v' : Value} {k m : Nat} {xs ys : List Value} {tmp : Obj}
    (hv : Boxed W B t v) (hte : t ≠ e) (hrow : W.ownsRow r₀ e size v k xs) (hr₀ : r₀ ≤ W.heap.size) (hB : n₀ ≤ B) (hn : n₀ ≤ r₀) (hg : g < r₀) (hgB : g ≠ B)
    (hown' : w1.ownsRow r₀ e size v' m ys) (hgrow : (W.alloc tmp).grownBy w1 v.ownBlock) :
    Boxed w1 B t v ∧ Boxed (w1.setCell ⟨B, 0, none⟩ v') B t v' ∧ (w1.setCell ⟨B, 0, none⟩ v').ownsRow r₀ e size v' m ys ∧ KeepsOthers W (w1.setCell ⟨B, 0, none⟩ v') ∧ Below n₀ W (w1.setCell ⟨B, 0, none⟩ v') ∧ KeepB g W (w1.setCell ⟨B, 0, none⟩ v') ∧
      ∀ B' t' u', Boxed W B' t' u' → t' ≠ e → B' ≠ B → Boxed (w1.setCell ⟨B, 0, none⟩ v') B' t' u' := by
  have hrw : ∀ j, v.ownBlock = some j → r₀ ≤ j := by
    intro j ej
    rcases hrow.2 with ⟨rfl, _⟩ | ⟨g, cap, cur, rfl, hb, _, _⟩
    · simp [Value.ownBlock] at ej
    · obtain rfl : g = j := by simpa [Value.ownBlock] using ej
      exact hb
  have hv1 : Boxed w1 B t v := (hv.alloc tmp).kept hgrow (hv.not_row hte hrow)
  refine ⟨hv1, hv1.set v', hown'.kept (grownBy_setCell' w1 B v') (.inr (hv1.not_row hte hown').symm), ?_, ?_, ?_, ?_⟩
  · refine ((KeepsOthers.alloc W tmp).trans (KeepsOthers.of_grownBy hgrow fun j o ej hj => ?_)).trans (KeepsOthers.setCell _ _ _)
    rcases (hrow.alloc tmp).2 with ⟨rfl, _⟩ | ⟨g, cap, cur, rfl, _, hgb, _⟩
    · simp [Value.ownBlock] at ej
    · obtain rfl : g = j := by simpa [Value.ownBlock] using ej
      rw [hgb] at hj; cases hj; rfl
  · exact (((Below.refl n₀ W).alloc (by omega) tmp).grown hgrow (by simp; omega) fun j ej => Nat.le_trans hn (hrw j ej)).setCell (p := ⟨B, 0, none⟩) hB v'
  · have h1 : Below r₀ W w1 := ((Below.refl r₀ W).alloc hr₀ tmp).grown hgrow (by simp; omega) hrw
    refine (KeepB.of_below h1 hg).trans ⟨(grownBy_setCell' w1 B v').size, (grownBy_setCell' w1 B v').block g ?_ (by simpa using hgB)⟩
    have := h1.size
    omega
  · intro B' t' u' hb hne hBB
    exact ((hb.alloc tmp).kept hgrow (hb.not_row hne hrow)).kept (grownBy_setCell' w1 B v') (by simpa using hBB)

end Go.Proofs.YtjpdfchdgphdoaaGreatDoor.Oct
