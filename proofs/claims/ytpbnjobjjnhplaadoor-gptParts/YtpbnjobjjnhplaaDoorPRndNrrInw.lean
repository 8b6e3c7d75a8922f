/- Inward: the whole units. -/
import Derived.OrdersHeld
import Derived.OrdersIn
import Derived.TacticsIn
import Derived.Deep.RegionHeld3
import Derived.RangeFuncBox
import Derived.Maps.AppendAt
import Derived.Test.YtpbnjobjjnhplaaDoorPHsrAll
import Derived.Test.YtpbnjobjjnhplaaDoorPMrkPcs
namespace Go.Proofs.YtpbnjobjjnhplaaDoor.Oct
open Go.RowKit

/-- Nothing but the plain way out. -/
def Only (Q : Exit → Act → World → Prop) : Exit → Act → World → Prop
  | .normal, a, w => Q .normal a w
  | _, _, _ => False

theorem Only.imp {Q : Exit → Act → World → Prop} : ∀ (e : Exit) (a : Act) (w : World), Only Q e a w → Q e a w := fun e a w h => by
  cases e <;> first | exact h | exact (h : False).elim

def noDefer (ops : Array Oper) : Bool := ops.all fun o => match o.op with | .defer _ => false | _ => true

theorem noDefer_at {ops : Array Oper} (h : noDefer ops = true) {i : Nat} {o : Oper} (hi : ops[i]? = some o) (c : _) : o.op ≠ .defer c := by
  intro e
  rw [Array.getElem?_eq_some_iff] at hi
  obtain ⟨hlt, rfl⟩ := hi
  have h1 := (Array.all_eq_true.1 h) i hlt
  simp only [e] at h1
  cases h1

theorem rowsIn_round {l n : Nat} {P : Program} {row : String} {args : Array Value} {w : World} {R : Value → World → Prop} (h : Rows P row args w R) : RowsIn (Fence.wide.inRound l) n P row args w R :=
  fun c cs _ => let ⟨v, w', r, s⟩ := h c cs; ⟨v, w', r, stepsIn_wide.2 s⟩

theorem wpOpIn_round {l n : Nat} {P : Program} {ops : Array Oper} {Q : Exit → Act → World → Prop} (hd : noDefer ops = true) {i : Nat} {K K' : Act → World → Prop} (hK : ∀ a w, K a w → K' a w) {a : Act} {w : World}
    (h : wpOp P ops (Only Q) i K a w) : wpOpIn (Fence.wide.inRound l) n P ops (Only Q) i K' a w := by
  have hL : ¬ LetsOut (Only Q) := fun ⟨_, _, h⟩ => h
  unfold wpOp at h
  unfold wpOpIn
  cases ho : ops[i]? with
  | none => simp only [ho] at h ⊢; exact hK _ _ h
  | some o =>
    simp only [ho] at h ⊢
    have hda := noDefer_at hd ho
    by_cases hw : Region.wanted o (yielded ops a.tmps) = true
    · simp only [hw, if_true] at h ⊢
      rcases h with h | h
      · have h := Oper.wp_mono hK h
        unfold Oper.wp at h
        unfold Oper.wpIn
        refine ⟨fun _ _ => trivial, ?_⟩
        rw [Fence.inRound_round, Oper.semAt_some _ _ _ hda]
        generalize (execOp a.eval o).run P w = r at *
        cases r with
        | ok x w' =>
          cases x <;> simp only [Oper.upon] at h <;> simp only [Oper.uponIn]
          case value u => exact h
          case skip => exact h
          case defer d => exact h
          case enter f args => exact ⟨fun hh => by simp [Fence.wide] at hh, callsIn_wide.2 h⟩
          case row row args => exact ⟨fun hh => by simp [Fence.wide] at hh, rowsIn_round h⟩
        | halt x w' => cases x <;> simp only [Oper.upon] at h <;> simp only [Oper.uponIn] <;> exact h
      · exact absurd h.2 hL
    · simp only [hw] at h ⊢
      exact ⟨fun _ _ => trivial, hK _ _ h⟩

theorem wpAnyIn_round {l n : Nat} {P : Program} {md : Region.Mode} {ops : Array Oper} {Q : Exit → Act → World → Prop} (hd : noDefer ops = true) : ∀ (fuel : Nat) (listed : Array Bool) (a : Act) (w : World),
    wpAny P md ops (Only Q) fuel listed a w → wpAnyIn (Fence.wide.inRound l) n P md ops (Only Q) fuel listed a w
  | 0, _, _, _, h => h
  | fuel + 1, _, _, _, h => ⟨h.1, fun i hi => wpOpIn_round hd (fun a w hh => wpAnyIn_round hd fuel _ a w hh) (h.2 i hi)⟩

theorem Code.wpIn_mono' {F : Fence} {n : Nat} {P : Program} {c : Code} {Q Q' : Exit → Act → World → Prop} {a : Act} {w : World} (hq : ∀ e a w, Q e a w → Q' e a w) (h : c.wpIn F n P Q a w) : c.wpIn F n P Q' a w :=
  fun b k cs h1 h2 h3 => let ⟨e, a', w', q, r⟩ := h b k cs h1 h2 h3; ⟨e, a', w', hq _ _ _ q, r⟩

/-- The region in a round. -/
theorem region_round {l n : Nat} {P : Program} {id : Nat} {ops : Array Oper} {Q : Exit → Act → World → Prop} {a : Act} {w : World} (S : World → Prop) (hm : P.follows .mixedOrders = true) (hd : noDefer ops = true)
    (h : wpAnyH P .any ops (Only Q) S ops.size (Array.replicate ops.size false) a w.drew) : (Code.region id ops true).wpIn (Fence.wide.inRound l) n P Q a w :=
  Code.wpIn_mono' Only.imp (wpIn_region_any hm (wpAnyIn_round hd _ _ _ _ (wpAny_of_held _ _ _ _ h)))

/-- An operation is taken first. -/
theorem only_take {P : Program} {md : Region.Mode} {ops : Array Oper} {Q : Exit → Act → World → Prop} {S : World → Prop} {fuel : Nat} {listed : Array Bool} {a : Act} {w : World} (i : Nat) (v : Value) {oi : Oper} (hi : ops[i]? = some oi)
    (hs : Region.noSelect ops = true) (hf : Region.free md ops listed i = true) (hr : (Region.ready md ops listed).contains i = true) (hw : Region.wanted oi (yielded ops a.tmps) = true)
    (hS : S w) (hy : ∀ w, S w → (execOp a.eval oi).run P w = .ok (.value v) w)
    (h : wpAnyH P md ops (Only Q) S fuel (listed.setIfInBounds i true) (a.put oi.dst v) w) : wpAnyH P md ops (Only Q) S (fuel + 1) listed a w :=
  wpAnyH_take hi hs hf hr (fun _ _ _ h => h) (Or.inl ⟨hw, hy⟩) hS h

theorem step_append_row {P : Program} {ops : Array Oper} {o : Oper} {a : Act} {w : World} {K : Act → World → Prop} {Q : Exit → Act → World → Prop} {E : Prop} (hgd : o.guard = none) (s x : Operand) (t : TypeId)
    (ho : o.op = .call { callee := .builtin .append, args := #[s, x], argTypes := #[t, t] })
    (base : Nat) (e : TypeId) (i : TypeInfo) (z : Value) (size bytes : Nat) (ht : P.underlying t = some (.slice e)) (hi : P.info? e = some i) (hz : i.zero = some z)
    (hsize : i.size = size) (hby : i.bytes = bytes) (hzs : z.cells.size = size) (hsz : 0 < size)
    (v : Value) (n : Nat) (xs : List Value) (hs : a.eval s = v) (hown : w.ownsRow base e size v n xs)
    (ad : Addr) (m c : Nat) (news : List Value) (hx : a.eval x = .slice (some ad) m c) (hl : news.length = m * size) (hnews : ∀ j u, news[j]? = some u → w.cell? (ad.add j) = some u) (h1 : ∀ u ∈ news, u.oneCell' = true)
    (h63 : n + m ≤ maxLen) (hbytes : (n + m) * bytes ≤ 140737488355328) (hbase : base ≤ w.heap.size)
    (h : ∀ v' w', w'.ownsRow base e size v' (n + m) (xs ++ news) → w.grownBy w' v.ownBlock → (v'.ownBlock = v.ownBlock ∨ v'.ownBlock = some w.heap.size) → K (a.put o.dst v') w') : if Region.wanted o (yielded ops a.tmps) = true then Oper.wp P o a w K Q else E := by
  have hw : Region.wanted o (yielded ops a.tmps) = true := by simp [Region.wanted, hgd]
  rw [if_pos hw]
  obtain ⟨v', w', hr, h2, h3, h4, h5⟩ := run_append_own_at (P := P) w base t o.type e i z size bytes ht hi hz hsize hby hzs hsz v n xs hown ad m c news hl hnews h1 h63 hbytes hbase
  unfold Oper.wp
  simp [execOp, ho, resolve, invoke, builtin, hs, hx, hr, Result.andThen]
  exact h v' w' h2 h3 h5

/-- A part is added to a row that a box holds: the box lies below the row's base. -/
theorem Boxed.added {W w1 : World} {r₀ n₀ B g : Nat} {t e : TypeId} {size : Nat} {v v' : Value} {k m : Nat} {xs ys : List Value} {tmp : Obj}
    (hv : Boxed W B t v) (hte : t ≠ e) (hrow : W.ownsRow r₀ e size v k xs) (hr₀ : r₀ ≤ W.heap.size) (hB : n₀ ≤ B) (hn : n₀ ≤ r₀) (hg : g < r₀) (hgB : g ≠ B)
    (hown' : w1.ownsRow r₀ e size v' m ys) (hgrow : (W.alloc tmp).grownBy w1 v.ownBlock) :
    Boxed w1 B t v ∧ Boxed (w1.setCell ⟨B, 0, none⟩ v') B t v' ∧ (w1.setCell ⟨B, 0, none⟩ v').ownsRow r₀ e size v' m ys ∧ KeepsOthers W (w1.setCell ⟨B, 0, none⟩ v') ∧ Below n₀ W (w1.setCell ⟨B, 0, none⟩ v') ∧ KeepB g W (w1.setCell ⟨B, 0, none⟩ v') ∧
      ∀ B' t' u', Boxed W B' t' u' → t' ≠ e → B' ≠ B → Boxed (w1.setCell ⟨B, 0, none⟩ v') B' t' u' := by
  have hrw : ∀ j, v.ownBlock = some j → r₀ ≤ j := by
    intro j ej
    rcases hrow.2 with ⟨rfl, _⟩ | ⟨g, cap, cur, rfl, hb, _, _⟩
    · simp [Value.ownBlock] at ej
    · obtain rfl : g = j := by simpa [Value.ownBlock] using ej
      exact hb
  have hv1 : Boxed w1 B t v := (hv.alloc tmp).kept hgrow (hv.not_row hte hrow)
  refine ⟨hv1, hv1.set v', hown'.kept (grownBy_setCell' w1 B v') (.inr (hv1.not_row hte hown').symm), ?_, ?_, ?_, ?_⟩
  · refine ((KeepsOthers.alloc W tmp).trans (KeepsOthers.of_grownBy hgrow fun j o ej hj => ?_)).trans (KeepsOthers.setCell _ _ _)
    rcases (hrow.alloc tmp).2 with ⟨rfl, _⟩ | ⟨g, cap, cur, rfl, _, hgb, _⟩
    · simp [Value.ownBlock] at ej
    · obtain rfl : g = j := by simpa [Value.ownBlock] using ej
      rw [hgb] at hj; cases hj; rfl
  · exact (((Below.refl n₀ W).alloc (by omega) tmp).grown hgrow (by simp; omega) fun j ej => Nat.le_trans hn (hrw j ej)).setCell (p := ⟨B, 0, none⟩) hB v'
  · have h1 : Below r₀ W w1 := ((Below.refl r₀ W).alloc hr₀ tmp).grown hgrow (by simp; omega) hrw
    refine (KeepB.of_below h1 hg).trans ⟨(grownBy_setCell' w1 B v').size, (grownBy_setCell' w1 B v').block g ?_ (by simpa using hgB)⟩
    have := h1.size
    omega
  · intro B' t' u' hb hne hBB
    exact ((hb.alloc tmp).kept hgrow (hb.not_row hne hrow)).kept (grownBy_setCell' w1 B v') (by simpa using hBB)

end Go.Proofs.YtpbnjobjjnhplaaDoor.Oct

namespace Go.Proofs.YtpbnjobjjnhplaaDoor.Oct
open Go.RowKit

/-- What the reference makes of a set. -/
structure Refd (L N : List (Int × Int)) : Prop where
  form : Form N
  set : ∀ x, InE N x ↔ InE L x

theorem Refd.same {L N N' : List (Int × Int)} (h : Refd L N) (h' : Normed L N') : N' = N := Form.unique _ _ h'.form h.form fun x => (h'.set x).trans (h.set x).symm

theorem lies_newS (w : World) (s : Row3) (h : LiesE w s.a s.L) : LiesS (w.alloc (.cells #[.slice s.a s.L.length s.c] 52)) (some ⟨w.heap.size, 0, none⟩) [s] := by
  have h1 : (w.alloc (.cells #[.slice s.a s.L.length s.c] 52)).heap[w.heap.size]? = some (.cells #[.slice s.a s.L.length s.c] 52) := heap_alloc_new w _
  refine Or.inr ⟨w.heap.size, 0, rfl, by simp, fun k hk => ?_⟩
  match k, hk with
  | 0, _ =>
    refine ⟨?_, h.below ((Below.refl _ _).alloc (Nat.le_refl _) _)⟩
    simp only [World.cell?, h1]
    rfl

end Go.Proofs.YtpbnjobjjnhplaaDoor.Oct

namespace Go.Proofs.YtpbnjobjjnhplaaDoor.Oct
open Go.RowKit Go.Shelf

attribute [local go_sem] Oper.semAt_some

def inwW (u : Int) (x : Int × Int) : Int × Int := (IntKind.i64.wrap (x.1 + IntKind.i64.wrap (-x.1) % u), IntKind.i64.wrap (x.2 - x.2 % u))

def inw (u : Int) (x : Int × Int) : Int × Int := (x.1 + (-x.1) % u, x.2 - x.2 % u)

def Near (L : List (Int × Int)) : Prop := ∀ p ∈ L, (-1125899906842624 ≤ p.1 ∧ p.1 ≤ 1125899906842624) ∧ (-1125899906842624 ≤ p.2 ∧ p.2 ≤ 1125899906842624)

theorem upto_map (N : List (Int × Int)) (f : Int × Int → Int × Int) : (upto N N.length).map (fun p => f p.2) = N.map f := by
  apply List.ext_getElem?
  intro k
  simp only [upto, List.map_map, List.getElem?_map]
  by_cases hk : k < N.length
  · rw [List.getElem?_range hk]
    simp [hk]
  · rw [List.getElem?_eq_none (by simpa using hk), List.getElem?_eq_none (by simpa using hk)]
    rfl

theorem Normed.near {L N : List (Int × Int)} (h : Normed L N) (hn : Near L) : Near N := by
  intro p hp
  obtain ⟨q, hq, e1⟩ := h.fst p hp
  obtain ⟨q', hq', e2⟩ := h.snd p hp
  have h1 := hn q hq
  have h2 := hn q' hq'
  omega

theorem inw_near {L : List (Int × Int)} (h : Near L) (u : Int) (hu : 1 ≤ u ∧ u ≤ 1125899906842624) : L.map (inwW u) = L.map (inw u) := by
  refine List.map_congr_left fun p hp => ?_
  have h1 := h p hp
  have h2 := Int.emod_nonneg (-p.1) (b := u) (by omega)
  have h3 := Int.emod_lt_of_pos (-p.1) (b := u) (by omega)
  have h4 := Int.emod_nonneg p.2 (b := u) (by omega)
  have h5 := Int.emod_lt_of_pos p.2 (b := u) (by omega)
  unfold inwW inw
  have e1 : IntKind.i64.wrap (-p.1) = -p.1 := by rw [IntKind.wrap_i64]; omega
  rw [e1]
  congr 1
  · rw [IntKind.wrap_i64]; omega
  · rw [IntKind.wrap_i64]; omega

end Go.Proofs.YtpbnjobjjnhplaaDoor.Oct
