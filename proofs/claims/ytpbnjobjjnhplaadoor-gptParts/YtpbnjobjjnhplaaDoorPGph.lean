/- A table's partitions. -/
import Derived.Test.YtpbnjobjjnhplaaDoorPGpg
namespace Go.Proofs.YtpbnjobjjnhplaaDoor.Oct
open Go.RowKit

/-- The partitions of the first entries. -/
def prtG (L : List E4) (k : Nat) : List M4 := (partsG (L.take k) 0).map partP

theorem prtG_zero (L : List E4) : prtG L 0 = [] := rfl
theorem prtG_succ (L : List E4) (k : Nat) (x : E4) (h : L[k]? = some x) : prtG L (k + 1) = prtG L k ++ (if x.none = true then [] else [partP (x.fi, x.la, k)]) := by
  have hk : k < L.length := (List.getElem?_eq_some_iff.1 h).1
  unfold prtG
  rw [List.take_add_one, h, Option.toList_some, partsG_snoc, List.map_append]
  congr 1
  rw [List.length_take, Nat.min_eq_left (by omega), Nat.zero_add]
  split <;> rfl
theorem prtG_len (L : List E4) (k : Nat) : (prtG L k).length ≤ k := by
  unfold prtG
  rw [List.length_map]
  have := partsG_len (L.take k) 0
  rw [List.length_take] at this
  omega

theorem load_ent {w : World} {b off : Nat} {x : E4} {xs : Array Value} (hx : x.ok) (hxs : xs = x.cells.toArray) (h : ∀ j v, x.cells[j]? = some v → w.cell? ⟨b, off + j, none⟩ = some v) :
    (Instr.loadAt 66 (.pointer (some ⟨b, off, none⟩))).run Tryd.prog w = .ok (.agg xs) w := by
  have hl := run_loadVar_part (P := Tryd.prog) w b off 66 x.cells _ h Tryd.underlying66 rfl (by rw [E4.cells_len hx]; kernel_rfl)
  rw [hxs]
  simp [Instr.loadAt, Instr.sureAddr, hl]

theorem loadE {w : World} {R : Nat} {xs : Array Value} (h : Blk w R xs 66) (hs : xs.size = 114) : (Instr.loadAt 66 (.pointer (some ⟨R, 0, none⟩))).run Tryd.prog w = .ok (.agg xs) w := by
  have := run_loadVar_row (P := Tryd.prog) w R 66 66 xs (0, 0) _ h Tryd.underlying66 rfl (by rw [hs]; kernel_rfl)
  simp [Instr.loadAt, Instr.sureAddr, this]

theorem OwnP.baseG {T : Nat} {w : World} {B : Nat} {v : Value} {L : List M4} (h : OwnP T w B v L) : ∀ g, v.ownBlock = some g → B ≤ g := fun g hg => (World.ownsRow.lt h g hg).1

theorem LiesEn.grownG {w w' : World} {b off : Nat} {L : List E4} {r : Option Nat} (h : LiesEn w (some ⟨b, off, none⟩) L) (hg : w.grownBy w' r) (hne : some b ≠ r) : LiesEn w' (some ⟨b, off, none⟩) L := by
  have hc := Chg.of_grown hg
  rcases h with h | ⟨b1, o1, h1, h2, h3⟩
  · exact Or.inl h
  · cases h1
    exact Or.inr ⟨b, off, rfl, Nat.lt_of_lt_of_le h2 hc.size, fun k x hk j v hv => hc.cell (h3 k x hk j v hv) hne⟩

theorem exec_st {P : Program} {a : Act} {o : Oper} {w : World} {ty : TypeId} {x y : Operand} (ho : o.op = .store ty x y) (g : Nat) (cells : Array Value) (hx : a.eval x = .pointer (some ⟨g, 0, none⟩)) (hy : a.eval y = .agg cells)
    (t : TypeId) (old : Array Value) (hg : w.heap[g]? = some (.cells old t (0, 0))) (hi : (P.info? ty).map (·.size) = some cells.size) (hold : old.size = cells.size) (h1 : cells.all (·.oneCell') = true) : (execOp a.eval o).run P w = .ok .skip (w.setRow g cells) := by
  unfold execOp
  simp only [ho, hx, hy, Instr.storeAt, Instr.sureAddr, Sem.run_bind, Sem.run_pure, Result.andThen_ok, run_storeVar_row w g t ty old cells hg hi hold h1]

theorem b_skip {P : Program} {md : Region.Mode} {ops : Array Oper} {Q : Exit → Act → World → Prop} {S : World → Prop} {F : Nat → Bool} {fuel : Nat} {listed : Array Bool} {a : Act} {w : World} (i : Nat) {oi : Oper} (w' : World)
    (hr : Region.ready md ops listed = [i]) (hi : ops[i]? = some oi) (hgd : oi.guard = none) (hd : oi.dst = none) (hrun : (execOp a.eval oi).run P w = .ok .skip w') (hS : F i = true → S w')
    (h : wpAnyB P md ops Q S F fuel (listed.setIfInBounds i true) a w') : wpAnyB P md ops Q S F (fuel + 1) listed a w := by
  refine b_ready (rs := [i]) hr (by simp) ?_
  refine AllReadyB.cons (i := i) hi (fun K hK => ?_) AllReadyB.nil
  have hw : Region.wanted oi (yielded ops a.tmps) = true := by simp [Region.wanted, hgd]
  rw [if_pos hw]
  unfold Oper.wp
  rw [hrun]
  refine hK.out _ _ hS ?_
  rw [hd]
  exact h

theorem one_ent {x : E4} : x.cells.toArray.all (·.oneCell') = true := by
  unfold E4.cells
  simp [Value.oneCell']

set_option maxHeartbeats 8000000 in
set_option maxRecDepth 100000 in
theorem Parts_any (t : Tb) (a : Option Addr) (cap : Nat) (cs : Array Value) (hcs : cs = (t.cells (.slice a t.L.length cap)).toArray) (hid : t.id.length = 16) (hok : ∀ x ∈ t.L, x.ok) (hnr : ∀ x ∈ t.L, x.none = false → nearG x.fi ∧ nearG x.la) (hlen : t.L.length ≤ 1000000) (w : World) (hl : LiesEn w a t.L) :
    Calls Tryd.prog 17 #[.agg cs] w fun e w' => (∃ v, e = .returned v ∧ OwnP 61 w' w.heap.size v (prtG t.L t.L.length)) ∧ Below w.heap.size w w' := by
  obtain ⟨n, hn⟩ : ∃ n, n = t.L.length := ⟨_, rfl⟩
  rw [← hn] at hcs ⊢
  obtain ⟨R, hR⟩ : ∃ R, R = w.heap.size := ⟨_, rfl⟩
  obtain ⟨h0, h1, h2, h3, h4, h5⟩ := tb_new w hcs hid
  rw [← hR] at h3
  obtain ⟨w1, hw1⟩ : ∃ w1, w1 = w.alloc (.cells cs 25) := ⟨_, rfl⟩
  rw [← hw1] at h3
  have hb1 : Below w.heap.size w w1 := by rw [hw1]; exact (Below.refl _ _).alloc (Nat.le_refl _) _
  have HB1 := hide hb1
  have HL1 := hide (hl.below hb1)
  have HLw := hide hl
  have HW1 := hide hw1
  have HHR := hide hR
  have HHn := hide hn
  have HOk := hide hok
  have HNr := hide hnr
  have hln : n ≤ 1000000 := by omega
  have HT3 := hide h3
  clear hcs hid h0 h1 h2 h4 h5 hw1 hb1 hl hok hnr hlen hn hR
  go_enter Tryd.func17, Tryd.ntmps17
  go_upto_region 2 with fail
  rw [← HHR.out, ← HW1.out]
  go_wp2_with fail
  go_loopw [3, 9] (fun v i wr => ∃ k : Nat, k ≤ n ∧ i = .int .i64 (k : Int) ∧ OwnP 61 wr w.heap.size v (prtG t.L k) ∧ Below w.heap.size w wr ∧ LiesEn wr a t.L) (fun _ i _ => n - (intOf i).toNat)
  case atStart => exact ⟨0, by omega, by simp, OwnP.nil _ _ _, HB1.out, HL1.out⟩
  case round =>
    obtain ⟨k, hk, rfl, how, hbe, hli⟩ := hrel
    have HOw := hide how
    have HBe := hide hbe
    have HLi := hide hli
    clear how hbe hli
    by_cases hlt : k < n
    case neg =>
      obtain rfl : k = n := by omega
      go_wp2_with fail
      go_ret
      exact ⟨⟨_, rfl, HOw.out⟩, HBe.out⟩
    obtain ⟨x, hx⟩ : ∃ x, t.L[k]? = some x := ⟨_, List.getElem?_eq_getElem (by rw [← HHn.out]; exact hlt)⟩
    have hxm : x ∈ t.L := List.mem_of_getElem? hx
    have HXo := hide (HOk.out x hxm)
    obtain ⟨xs, hxs⟩ : ∃ xs, xs = x.cells.toArray := ⟨_, rfl⟩
    have HXs := hide hxs
    have HSz := hide (show xs.size = 114 by rw [hxs]; exact E4.cells_len HXo.out)
    have HNn := hide (show x.none = false → nearG x.fi ∧ nearG x.la from HNr.out x hxm)
    have HPs := hide (prtG_succ t.L k x hx)
    have HNo := fun u => hide (show Calls Tryd.prog 41 #[.agg xs] u fun e w' => e = .returned (.bool x.none) ∧ Below u.heap.size u w' by rw [hxs]; exact none_any x HXo.out u)
    rcases HLi.out with hnil | ⟨b, off, rfl, hb, hc⟩
    · rw [hnil] at hx; simp at hx
    have HC := hide (hc k x hx)
    have HBb := hide (show b < w.heap.size by
      rcases HLw.out with h | ⟨b', o', e, h, _⟩
      · rw [h] at hx; simp at hx
      · cases e; exact h)
    have HBl := hide hb
    have hk0 : (0 : Int) ≤ (k : Int) := by omega
    have hk1 : (k : Int) < (n : Int) := by omega
    clear hc hb hx hxm hxs
    go_upto_region 4 with fail
    have HOn := hide (show xs.all (·.oneCell') = true by rw [HXs.out]; exact one_ent)
    go_upto_region 5 with (first | (refine wpList_isop (.load 66 (.tmp 12)) rfl ?_; refine wpList_exec rfl (exec_ld rfl rfl (load_ent HXo.out HXs.out HC.out)) ?_) | (refine wpList_isop (.store 66 (.tmp 5) (.tmp 13)) rfl ?_; refine wpList_store_row rfl 66 (.tmp 5) (.tmp 13) rfl wr.heap.size xs rfl rfl 66 _ (Blk.new _ _ _) (by rw [HSz.out]; kernel_rfl) (by rw [HSz.out]; kernel_rfl) HOn.out ?_))
    obtain ⟨X, hX⟩ : ∃ X, X = wr.heap.size := ⟨_, rfl⟩
    obtain ⟨w4, hw4⟩ : ∃ w4, w4 = (wr.alloc (.cells Tryd.zeroCells66 66)).setRow wr.heap.size xs := ⟨_, rfl⟩
    have hb4 : Below wr.heap.size wr w4 := by rw [hw4]; exact setrow_belowG ((Below.refl _ _).alloc (Nat.le_refl _) _) (Nat.le_refl _)
    have hk4 : Blk w4 X xs 66 := by rw [hw4, hX]; exact setRow_blk (Blk.new _ _ _) _
    rw [← hw4, ← hX]
    have HO4 := hide (OwnP.below HOw.out hb4)
    have HB4 := hide (HBe.out.trans (hb4.mono HBe.out.size))
    have HL4 := hide (HLi.out.below hb4)
    have HK4 := hide hk4
    clear hw4 hX hb4 hk4 h3 HT3 HL1 HLw HC HBl HLi HOw HBe
    go_wp2_with (first | (refine wpList_isop (.load 66 (.tmp 5)) rfl ?_; refine wpList_exec rfl (exec_ld rfl rfl (loadE HK4.out HSz.out)) ?_))
    refine (HNo _).out.mono ?_
    rintro e9 w5 ⟨rfl, h5⟩
    have HO5 := hide (OwnP.below HO4.out h5)
    have HB5 := hide (HB4.out.trans (h5.mono HB4.out.size))
    have HL5 := hide (HL4.out.below h5)
    have HE5 := hide (entE HXs.out HXo.out (HK4.out.below h5))
    clear h5 HO4 HB4 HL4 HK4
    by_cases hnn : x.none = true
    · rw [hnn]
      have HP := hide (show prtG t.L (k + 1) = prtG t.L k by rw [HPs.out, if_pos hnn, List.append_nil])
      clear hnn
      go_wp2_with fail
      go_roundw
      case rel => exact ⟨k + 1, by omega, by go_num, by rw [HP.out]; exact HO5.out, HB5.out, HL5.out⟩
      case measure => simp [intOf]; omega
    · have hnf : x.none = false := by simpa using hnn
      obtain ⟨n1, n2⟩ := HNn.out hnf
      have HSp := fun u => hide (span_any x.fi x.la u n1 n2)
      rw [hnf]
      have HP := hide (show prtG t.L (k + 1) = prtG t.L k ++ [partP (x.fi, x.la, k)] by rw [HPs.out, if_neg hnn])
      have HLn := hide (show (prtG t.L k).length + 1 ≤ 10000000 by have := prtG_len t.L k; omega)
      clear hnn hnf n1 n2
      obtain ⟨e0, e1⟩ := HE5.out
      go_wp2_with fail
      refine (HSp _).out.mono ?_
      rintro e9 w6 ⟨rfl, h6⟩
      have HO6 := hide (OwnP.below HO5.out h6)
      have HB6 := hide (HB5.out.trans (h6.mono HB5.out.size))
      have HL6 := hide (HL5.out.below h6)
      clear h6 HO5 HB5 HL5 HE5 e0 e1
      have hb7 : Below w6.heap.size w6 (w6.alloc (.cells #[.int .i64 (x.fi * 512), .int .i64 ((x.la + 1) * 512), .int .i64 0, .int .i64 (k : Int)] 61)) := (Below.refl _ _).alloc (Nat.le_refl _) _
      have HO7 := hide (OwnP.below HO6.out hb7)
      have HB7 := hide (HB6.out.trans (hb7.mono HB6.out.size))
      have HL7 := hide (HL6.out.below hb7)
      have HN7 := hide (Blk.new w6 #[.int .i64 (x.fi * 512), .int .i64 ((x.la + 1) * 512), .int .i64 0, .int .i64 (k : Int)] 61)
      clear hb7
      go_wp2_with (first | (refine wpList_isop (.call { callee := .builtin .append, args := #[.tmp 17, .tmp 25], argTypes := #[48, 48] }) rfl ?_; refine wpList_append_P rfl (.tmp 17) (.tmp 25) 48 rfl Tryd.underlying48 w.heap.size _ _ rfl HO7.out w6.heap.size 1 (partP (x.fi, x.la, k)) rfl ?_ HLn.out HB7.out.size ?_; (· intro j u hj; exact HN7.out.cell j u (by simpa [encPm, partP] using hj)); intro v8 w8 h8 g8))
      have hbw : w.heap.size ≤ (w6.alloc (.cells #[.int .i64 (x.fi * 512), .int .i64 ((x.la + 1) * 512), .int .i64 0, .int .i64 (k : Int)] 61)).heap.size := HB7.out.size
      have HB8 := hide (show Below w.heap.size w w8 from HB7.out.trans (Chg.below w.heap.size (Chg.of_grown g8) hbw (fun i hi e => by have := OwnP.baseG HO7.out i e.symm; omega)))
      have HL8 := hide (show LiesEn w8 (some ⟨b, off, none⟩) t.L from HL7.out.grownG g8 (fun e => by have := OwnP.baseG HO7.out b e.symm; have := HBb.out; omega))
      go_roundw
      case rel => exact ⟨k + 1, by omega, by go_num, by rw [HP.out]; exact h8, HB8.out, HL8.out⟩
      case measure => simp [intOf]; omega
end Go.Proofs.YtpbnjobjjnhplaaDoor.Oct
