/- The partitions' bytes. -/
import Derived.Test.YtpbnjobjjnhplaaDoorPGph
import Derived.Test.YtpbnjobjjnhplaaDoorPRis
namespace Go.Proofs.YtpbnjobjjnhplaaDoor.Oct
open Go.RowKit

theorem wpList_append_X {w : World} {ops : Array Oper} {rest : List Oper} {o : Oper} {a : Act} {Q : Exit → Act → World → Prop} (hgd : o.guard = none) (s x : Operand) (t : TypeId)
    (ho : o.op = .call { callee := .builtin .append, args := #[s, x], argTypes := #[t, t] }) (ht : Tryd.prog.underlying t = some (.slice 59)) (B : Nat) (v : Value) (O : List (Int × Int)) (hs : a.eval s = v) (hown : OwnE w B v O)
    (b n : Nat) (z : Int × Int) (hx : a.eval x = .slice (some ⟨b, 0, none⟩) 1 n) (hc : ∀ j u, (encE z)[j]? = some u → w.cell? ⟨b, j, none⟩ = some u) (hlen : O.length + 1 ≤ 10000000) (hB : B ≤ w.heap.size)
    (h : ∀ v' w', OwnE w' B v' (O ++ [z]) → w.grownBy w' v.ownBlock → wpList Tryd.prog ops Q rest (a.put o.dst v') w') : wpList Tryd.prog ops Q (o :: rest) a w := by
  obtain ⟨i, hi, hz0, hz1, hz2⟩ := info_parts info_E
  refine wpList_append_own_at _ hgd s x t ho B 59 i (.agg #[.int .i64 0, .int .i64 0]) 2 16 ht hi hz0 hz1 hz2 rfl (by decide) v O.length (O.flatMap encE) hs hown ⟨b, 0, none⟩ 1 n (encE z) hx rfl ?_ ?_ (by unfold maxLen; omega) (by omega) hB ?_
  · intro j u hj
    rw [Go.WideShapes.add_plain, Nat.zero_add]
    exact hc j u hj
  · intro u hu
    simp [encE] at hu
    rcases hu with rfl | rfl <;> rfl
  · intro v' w' ho' hg _ _
    refine h v' w' ?_ hg
    unfold OwnE
    rw [List.flatMap_append, List.length_append]
    simpa using ho'

def plcG (L : List M4) (k : Nat) : List (Int × Int) := (L.take k).map (fun p => (p.1, p.2.1))
theorem plcG_succ (L : List M4) (k : Nat) (x : M4) (h : L[k]? = some x) : plcG L (k + 1) = plcG L k ++ [(x.1, x.2.1)] := by
  unfold plcG
  rw [List.take_add_one, h, Option.toList_some, List.map_append]
  rfl
theorem plcG_len (L : List M4) (k : Nat) : (plcG L k).length ≤ k := by
  unfold plcG
  simp
  omega

theorem OwnE.baseG {w : World} {B : Nat} {v : Value} {L : List (Int × Int)} (h : OwnE w B v L) : ∀ g, v.ownBlock = some g → B ≤ g := fun g hg => (World.ownsRow.lt h g hg).1

theorem load_exG {w : World} {X : Nat} {c0 c1 c2 c3 : Value} (h : Blk w X #[c0, c1, c2, c3] 61) : (Instr.loadAt 59 (.pointer (some ⟨X, 0, none⟩))).run Tryd.prog w = .ok (.agg #[c0, c1]) w := by
  have hl := run_loadVar_part (P := Tryd.prog) w X 0 59 [c0, c1] _ (fun j v hv => by
    rw [Nat.zero_add]
    refine h.cell j v ?_
    match j, hv with
    | 0, hv => exact hv
    | 1, hv => exact hv) Tryd.underlying59 rfl (by kernel_rfl)
  simp [Instr.loadAt, Instr.sureAddr, hl]

set_option maxHeartbeats 8000000 in
set_option maxRecDepth 100000 in
theorem places_any (L : List M4) (a : Option Addr) (cap : Nat) (hlen : L.length ≤ 1000000) (w : World) (hl : LiesP w a L) :
    Calls Tryd.prog 29 #[.slice a L.length cap] w fun e w' => (∃ v, e = .returned v ∧ OwnE w' w.heap.size v (plcG L L.length)) ∧ Below w.heap.size w w' := by
  obtain ⟨n, hn⟩ : ∃ n, n = L.length := ⟨_, rfl⟩
  rw [← hn]
  have HLw := hide hl
  have HHn := hide hn
  have hln : n ≤ 1000000 := by omega
  clear hl hlen hn
  go_enter Tryd.func29, Tryd.ntmps29
  go_wp2_with fail
  go_loopw [3, 8] (fun v i wr => ∃ k : Nat, k ≤ n ∧ i = .int .i64 (k : Int) ∧ OwnE wr w.heap.size v (plcG L k) ∧ Below w.heap.size w wr) (fun _ i _ => n - (intOf i).toNat)
  case atStart => exact ⟨0, by omega, by simp, World.ownsRow_nil _ _ _ _, Below.refl _ _⟩
  case round =>
    obtain ⟨k, hk, rfl, how, hbe⟩ := hrel
    have HOw := hide how
    have HBe := hide hbe
    clear how hbe
    by_cases hlt : k < n
    case neg =>
      obtain rfl : k = n := by omega
      go_wp2_with fail
      go_ret
      exact ⟨⟨_, rfl, HOw.out⟩, HBe.out⟩
    obtain ⟨x, hx⟩ : ∃ x, L[k]? = some x := ⟨_, List.getElem?_eq_getElem (by rw [← HHn.out]; exact hlt)⟩
    have HPs := hide (plcG_succ L k x hx)
    have hgx : L.getD k zm4 = x := by rw [List.getD_eq_getElem?_getD, hx]; rfl
    rcases HLw.out.below HBe.out with hnil | ⟨b, off, rfl, hb, hc⟩
    · rw [hnil] at hx; simp at hx
    obtain ⟨q0, q1, q2, q3⟩ := hc k (by rw [← HHn.out]; exact hlt)
    rw [hgx] at q0 q1 q2 q3
    obtain ⟨x0, x1, x2, x3⟩ := x
    have hk0 : (0 : Int) ≤ (k : Int) := by omega
    have hk1 : (k : Int) < (n : Int) := by omega
    clear hc hb hx hgx
    simp only at q0 q1 q2 q3
    go_upto_region 5 with fail
    have hb4 : Below wr.heap.size wr (wr.alloc (.cells #[.int .i64 x0, .int .i64 x1, .int .i64 x2, .int .i64 x3] 61)) := (Below.refl _ _).alloc (Nat.le_refl _) _
    have hk4 := Blk.new wr #[.int .i64 x0, .int .i64 x1, .int .i64 x2, .int .i64 x3] 61
    have ho4 := OwnE.below HOw.out hb4
    have hbw4 := HBe.out.trans (hb4.mono HBe.out.size)
    obtain ⟨X, hX⟩ : ∃ X, X = wr.heap.size := ⟨_, rfl⟩
    obtain ⟨w4, hw4⟩ : ∃ w4, w4 = wr.alloc (.cells #[.int .i64 x0, .int .i64 x1, .int .i64 x2, .int .i64 x3] 61) := ⟨_, rfl⟩
    rw [← hw4] at hk4 ho4 hbw4
    rw [← hX] at hk4
    rw [← hw4, ← hX]
    have hb5 : Below w4.heap.size w4 (w4.alloc (.cells #[.int .i64 x0, .int .i64 x1] 59)) := (Below.refl _ _).alloc (Nat.le_refl _) _
    have HO5 := hide (OwnE.below ho4 hb5)
    have HB5 := hide (hbw4.trans (hb5.mono hbw4.size))
    have HN5 := hide (Blk.new w4 #[.int .i64 x0, .int .i64 x1] 59)
    have HK4 := hide hk4
    have HLn := hide (show (plcG L k).length + 1 ≤ 10000000 by have := plcG_len L k; omega)
    clear hw4 hX hb4 hk4 ho4 hbw4 hb5 q0 q1 q2 q3 HOw HBe
    go_wp2_with (first | (refine wpList_isop (.load 59 (.tmp 13)) rfl ?_; refine wpList_exec rfl (exec_ld rfl rfl (load_exG HK4.out)) ?_) | (refine wpList_isop (.call { callee := .builtin .append, args := #[.tmp 12, .tmp 15], argTypes := #[52, 52] }) rfl ?_; refine wpList_append_X rfl (.tmp 12) (.tmp 15) 52 rfl Tryd.underlying52 w.heap.size _ _ rfl HO5.out w4.heap.size 1 (x0, x1) rfl ?_ HLn.out HB5.out.size ?_; (· intro j u hj; exact HN5.out.cell j u (by simpa [encE] using hj)); intro v8 w8 h8 g8))
    have hbw : w.heap.size ≤ (w4.alloc (.cells #[.int .i64 x0, .int .i64 x1] 59)).heap.size := HB5.out.size
    have HB8 := hide (show Below w.heap.size w w8 from HB5.out.trans (Chg.below w.heap.size (Chg.of_grown g8) hbw (fun i hi e => by have := OwnE.baseG HO5.out i e.symm; omega)))
    go_roundw
    case rel => exact ⟨k + 1, by omega, by go_num, by rw [HPs.out]; exact h8, HB8.out⟩
    case measure => simp [intOf]; omega
end Go.Proofs.YtpbnjobjjnhplaaDoor.Oct
