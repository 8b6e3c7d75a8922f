/- (with either mark) What lay makes of changes: bytes become others. -/
import Derived.Test.YtibkhgmmjhlpmaaGreatPTxc
import Derived.WalkSpells
namespace Go.Proofs.YtibkhgmmjhlpmaaGreat.Oct
open Go.RowKit Go.Deep

theorem ready_val {P : Program} {md : Region.Mode} {ops : Array Oper} {Q : Exit → Act → World → Prop} {S : World → Prop} {fuel : Nat} {listed : Array Bool} {a : Act} {w : World} (i : Nat) {oi : Oper} (dst : Option Tmp) (v : Value) (w' : World)
    (hr : Region.ready md ops listed = [i]) (hi : ops[i]? = some oi) (hgd : oi.guard = none) (hd : oi.dst = dst) (hrun : (execOp a.eval oi).run P w = .ok (.value v) w') (hS : S w')
    (h : wpAnyH P md ops Q S fuel (listed.setIfInBounds i true) (a.put dst v) w') : wpAnyH P md ops Q S (fuel + 1) listed a w := by
  refine wpAnyH_ready (rs := [i]) hr (by simp) ?_
  refine AllReadyH.cons (i := i) hi (fun K hK => ?_) AllReadyH.nil
  have hw : Region.wanted oi (yielded ops a.tmps) = true := by simp [Region.wanted, hgd]
  rw [if_pos hw]
  unfold Oper.wp
  rw [hrun]
  subst hd
  exact hK.out _ _ hS (fun _ => h)

theorem ready_skip {P : Program} {md : Region.Mode} {ops : Array Oper} {Q : Exit → Act → World → Prop} {S : World → Prop} {fuel : Nat} {listed : Array Bool} {a : Act} {w : World} (i : Nat) {oi : Oper} (w' : World)
    (hr : Region.ready md ops listed = [i]) (hi : ops[i]? = some oi) (hgd : oi.guard = none) (hd : oi.dst = none) (hrun : (execOp a.eval oi).run P w = .ok .skip w') (hS : S w')
    (h : wpAnyH P md ops Q S fuel (listed.setIfInBounds i true) a w') : wpAnyH P md ops Q S (fuel + 1) listed a w := by
  refine wpAnyH_ready (rs := [i]) hr (by simp) ?_
  refine AllReadyH.cons (i := i) hi (fun K hK => ?_) AllReadyH.nil
  have hw : Region.wanted oi (yielded ops a.tmps) = true := by simp [Region.wanted, hgd]
  rw [if_pos hw]
  unfold Oper.wp
  rw [hrun]
  refine hK.out _ _ hS (fun _ => ?_)
  rw [hd]
  exact h

theorem exec_load {P : Program} {a : Act} {o : Oper} {t : TypeId} {x : Operand} {v q : Value} {w : World} (ho : o.op = .load t x) (hx : a.eval x = q) (h : (Instr.loadAt t q).run P w = .ok v w) : (execOp a.eval o).run P w = .ok (.value v) w := by
  unfold execOp
  simp only [ho, hx, Sem.run_bind, h, Result.andThen_ok, Sem.run_pure]
theorem exec_entry {P : Program} {a : Act} {o : Oper} {t : TypeId} {m k : Operand} {v q r : Value} {w w' : World} (ho : o.op = .mapEntry t m k) (hm : a.eval m = q) (hk : a.eval k = r) (h : (Instr.mapEntry t q r).run P w = .ok v w') : (execOp a.eval o).run P w = .ok (.value v) w' := by
  unfold execOp
  simp only [ho, hm, hk, Sem.run_bind, h, Result.andThen_ok, Sem.run_pure]
theorem exec_entryStore {P : Program} {a : Act} {o : Oper} {t : TypeId} {m s x : Operand} {q r v : Value} {w w' : World} (ho : o.op = .entryStore t m s x) (hm : a.eval m = q) (hs : a.eval s = r) (hx : a.eval x = v) (h : (Instr.entryStore t q r v).run P w = .ok () w') : (execOp a.eval o).run P w = .ok .skip w' := by
  unfold execOp
  simp only [ho, hm, hs, hx, Sem.run_bind, h, Result.andThen_ok, Sem.run_pure]

theorem load98 {w : World} {X : Nat} {l : List Int} (h : Sec w X 146 l) : (Instr.loadAt 146 (.pointer (some ⟨X, 0, none⟩))).run Tryz.prog w = .ok (sec l) w := by
  have := run_loadVar_row (P := Tryz.prog) w X 146 146 (secC l) (0, 0) _ h.at_ arr98 rfl (by rw [secC_size, h.len]; exact size98)
  simp [Instr.loadAt, Instr.sureAddr, this, sec]
theorem load99 {w : World} {X : Nat} {l : List Int} (h : Sec w X 147 l) : (Instr.loadAt 147 (.pointer (some ⟨X, 0, none⟩))).run Tryz.prog w = .ok (sec l) w := by
  have := run_loadVar_row (P := Tryz.prog) w X 147 147 (secC l) (0, 0) _ h.at_ arr99 rfl (by rw [secC_size, h.len]; exact size99)
  simp [Instr.loadAt, Instr.sureAddr, this, sec]

/-- A sector's bytes with others laid over from a place on. -/
def overS (l : List Int) (o : Nat) (m : List Int) : List Int := l.take o ++ m ++ l.drop (o + m.length)

theorem overS_len (l : List Int) (o : Nat) (m : List Int) (h : o + m.length ≤ l.length) : (overS l o m).length = l.length := by
  unfold overS
  simp
  omega

theorem overS_get (l : List Int) (o : Nat) (m : List Int) (h : o + m.length ≤ l.length) (j : Nat) : (overS l o m).getD j 0 = if o ≤ j ∧ j < o + m.length then m.getD (j - o) 0 else l.getD j 0 := by
  unfold overS
  rw [List.getD_eq_getElem?_getD, List.append_assoc, List.getElem?_append]
  have e1 : (l.take o).length = o := by simp; omega
  rw [e1]
  by_cases h1 : j < o
  · rw [if_pos h1, if_neg (by omega), List.getElem?_take, if_pos h1, List.getD_eq_getElem?_getD]
  · rw [if_neg h1, List.getElem?_append]
    by_cases h2 : j - o < m.length
    · rw [if_pos h2, if_pos (by omega), List.getD_eq_getElem?_getD]
    · rw [if_neg h2, if_neg (by omega), List.getElem?_drop, List.getD_eq_getElem?_getD]
      congr 2
      omega

theorem copy98 (w : World) (X fr : Nat) (b pl : List Int) (hs : Sec w X 146 b) (pb po k N cap : Nat) (hN : N = pl.length) (hk : k < N) (hf : fr < 512) (n : Nat) (hn : n = min (N - k) (512 - fr))
    (hc : ∀ j, j < pl.length → w.cell? ⟨pb, po + j, none⟩ = some (.int .u8 (pl.getD j 0))) :
    (Builtin.copy_ #[29, 29] 3 #[.slice (some ⟨X, fr, none⟩) (512 - fr) (512 - fr), .slice (some ⟨pb, po + k, none⟩) (N - k) (cap - k)]).run Tryz.prog w = .ok (.int .i64 (n : Int)) (w.setRow X (secC (overS b fr ((pl.drop k).take n)))) := by
  have hnl : ((pl.drop k).take n).length = n := by simp; omega
  have h := run_copy_row (P := Tryz.prog) w 29 29 3 5 X fr (512 - fr) (512 - fr) ⟨pb, po + k, none⟩ (N - k) (cap - k) (secC b) 146 (((pl.drop k).take n).map (Value.int .u8)) Tryz.underlying29 size5 hs.at_ (by rw [List.length_map, hnl, hn])
    (fun j v hj => by
      have hjn : j < n := by
        rcases Nat.lt_or_ge j n with h | h
        · exact h
        · rw [List.getElem?_eq_none (by rw [List.length_map, hnl]; exact h)] at hj; cases hj
      rw [Go.WideShapes.add_plain, Nat.add_assoc, hc (k + j) (by omega)]
      rw [List.getElem?_map, List.getElem?_take, if_pos hjn, List.getElem?_drop] at hj
      have hl : k + j < pl.length := by omega
      rw [List.getElem?_eq_getElem hl] at hj
      simp at hj
      simp [hl, ← hj]) (by rw [List.length_map, hnl, secC_size, hs.len]; omega) (by intro v hv; obtain ⟨x, _, rfl⟩ := List.mem_map.1 hv; rfl)
  rw [h]
  have e1 : goInt ((((pl.drop k).take n).map (Value.int .u8)).length : Int) = .int .i64 (n : Int) := by rw [List.length_map, hnl]; rfl
  have e2 : ((secC b).toList.take fr ++ ((pl.drop k).take n).map (Value.int .u8) ++ (secC b).toList.drop (fr + (((pl.drop k).take n).map (Value.int .u8)).length)).toArray = secC (overS b fr ((pl.drop k).take n)) := by
    rw [List.length_map, hnl]
    unfold overS secC
    rw [hnl]
    simp only [List.map_append, List.map_take, List.map_drop]
  rw [e1, e2]

theorem upd_sec (f : Int → List Int) (s : Int) (l : List Int) : upd (fun k => sec (f k)) s (sec l) = fun k => sec ((fun k => if k = s then l else f k) k) := by
  funext k
  unfold upd
  by_cases h : k = s
  · simp [h]
  · simp [h]

theorem valT_laid {B1 M1 : Int → List Int} {sn fr n : Nat} {seg mi : List Int} (hb : (B1 (sn : Int)).length = 512) (hsl : seg.length = n) (hf : fr + n ≤ 512) (hm : ∀ j, fr ≤ j → j < fr + n → mi.getD j 0 ≠ 0) (hm2 : ∀ j, ¬ (fr ≤ j ∧ j < fr + n) → mi.getD j 0 = (M1 (sn : Int)).getD j 0) (q : Nat) (x : Int) :
    valT (fun k => if k = (sn : Int) then overS (B1 (sn : Int)) fr seg else B1 k) (fun k => if k = (sn : Int) then mi else M1 k) q x = if sn * 512 + fr ≤ q ∧ q < sn * 512 + fr + n then seg.getD (q - (sn * 512 + fr)) 0 else valT B1 M1 q x := by
  unfold valT
  by_cases hq : q / 512 = sn
  · have hq2 : ((q / 512 : Nat) : Int) = (sn : Int) := by omega
    simp only [hq2, if_true]
    rw [overS_get _ _ _ (by rw [hsl, hb]; exact hf), hsl]
    by_cases h1 : fr ≤ q % 512 ∧ q % 512 < fr + n
    · rw [if_neg (hm _ h1.1 h1.2), if_pos h1, if_pos (by omega)]
      congr 1
      omega
    · rw [hm2 _ h1, if_neg h1, if_neg (show ¬ (sn * 512 + fr ≤ q ∧ q < sn * 512 + fr + n) by omega)]
  · have hq2 : ¬ ((q / 512 : Nat) : Int) = (sn : Int) := by omega
    simp only [hq2, if_false]
    rw [if_neg (show ¬ (sn * 512 + fr ≤ q ∧ q < sn * 512 + fr + n) by omega)]

theorem Txs.drewN {w : World} {T J : Nat} {vb vm va : Value} {d : Bool} (h : Txs w T J vb vm va d) (n : Nat) : Txs (w.drewN n) T J vb vm va d := h
theorem Chg.drewN' {X : Nat → Prop} {w w' : World} {n : Nat} (h : Chg X w w') : Chg X w (w'.drewN n) := ⟨h.os, h.tape, h.output, h.size, h.block⟩

/-- The mark of a byte. -/
def mkT (M : Int → List Int) (q : Nat) : Int := (M ((q / 512 : Nat) : Int)).getD (q % 512) 0

/-- Bytes laid from a place on, with their marks. -/
def Laid (B M B1 M1 : Int → List Int) (at_ k : Nat) (pl : List Int) (by_ : Int) : Prop :=
  (∀ q x, valT B1 M1 q x = if at_ ≤ q ∧ q < at_ + k then pl.getD (q - at_) 0 else valT B M q x) ∧
  (∀ q, mkT M1 q = if at_ ≤ q ∧ q < at_ + k then max (mkT M q) by_ else mkT M q) ∧ (∀ s : Int, ¬ (0 ≤ s ∧ s < 8192) → M1 s = M s)

theorem Laid.start (B M : Int → List Int) (at_ : Nat) (pl : List Int) (by_ : Int) : Laid B M B M at_ 0 pl by_ :=
  ⟨fun q x => by rw [if_neg (by omega)], fun q => by rw [if_neg (by omega)], fun _ _ => rfl⟩

theorem Laid.step {B M B1 M1 : Int → List Int} {at_ k p : Nat} {pl : List Int} {by_ : Int} {sn fr n : Nat} {seg mi : List Int} (h : Laid B M B1 M1 at_ k pl by_) (hb : (B1 (sn : Int)).length = 512) (hsl : seg.length = n) (hf : fr + n ≤ 512) (hby : 1 ≤ by_)
    (hm : ∀ j, fr ≤ j → j < fr + n → mi.getD j 0 = max ((M1 (sn : Int)).getD j 0) by_) (hm2 : ∀ j, ¬ (fr ≤ j ∧ j < fr + n) → mi.getD j 0 = (M1 (sn : Int)).getD j 0) (hs : sn < 8192) (hp : p = at_ + k) (hsp : sn * 512 + fr = p) (hg : ∀ j, j < n → seg.getD j 0 = pl.getD (k + j) 0) :
    Laid B M (fun s => if s = (sn : Int) then overS (B1 (sn : Int)) fr seg else B1 s) (fun s => if s = (sn : Int) then mi else M1 s) at_ (k + n) pl by_ := by
  refine ⟨fun q x => ?_, fun q => ?_, fun s hs2 => ?_⟩
  · rw [valT_laid hb hsl hf (fun j h1 h2 => by rw [hm j h1 h2]; omega) hm2 q x, h.1 q x, hsp]
    by_cases h1 : p ≤ q ∧ q < p + n
    · rw [if_pos h1, if_pos (by omega), hg (q - p) (by omega)]
      congr 1
      omega
    · rw [if_neg h1]
      by_cases h2 : at_ ≤ q ∧ q < at_ + k
      · rw [if_pos h2, if_pos (by omega)]
      · rw [if_neg h2, if_neg (by omega)]
  · have e : mkT (fun s => if s = (sn : Int) then mi else M1 s) q = if q / 512 = sn then mi.getD (q % 512) 0 else mkT M1 q := by
      unfold mkT
      by_cases hq : q / 512 = sn
      · rw [if_pos hq, hq]
        show (if (sn : Int) = (sn : Int) then mi else M1 sn).getD (q % 512) 0 = _
        rw [if_pos rfl]
      · rw [if_neg hq]
        show (if ((q / 512 : Nat) : Int) = (sn : Int) then mi else M1 ((q / 512 : Nat) : Int)).getD (q % 512) 0 = _
        rw [if_neg (by omega)]
    have h1 := h.2.1 q
    rw [e]
    by_cases hq : q / 512 = sn
    · rw [if_pos hq]
      have e2 : mkT M1 q = (M1 (sn : Int)).getD (q % 512) 0 := by unfold mkT; rw [hq]
      rw [e2] at h1
      by_cases hj : fr ≤ q % 512 ∧ q % 512 < fr + n
      · rw [hm _ hj.1 hj.2, if_pos (by omega), h1, if_neg (by omega)]
      · rw [hm2 _ hj, h1]
        by_cases h2 : at_ ≤ q ∧ q < at_ + k
        · rw [if_pos h2, if_pos (by omega)]
        · rw [if_neg h2, if_neg (by omega)]
    · rw [if_neg hq, h1]
      by_cases h2 : at_ ≤ q ∧ q < at_ + k
      · rw [if_pos h2, if_pos (by omega)]
      · rw [if_neg h2, if_neg (by omega)]
  · show (if s = (sn : Int) then mi else M1 s) = M s
    rw [if_neg (by omega)]
    exact h.2.2 s hs2

set_option maxRecDepth 100000 in
set_option maxHeartbeats 16000000 in
theorem lay_by (by_ : Int) (hby : 1 ≤ by_) (w : World) (T J : Nat) (vb vm va : Value) (d : Bool) (B M : Int → List Int) (ht : Txs w T J vb vm va d) (ho : Ovr w vb vm B M) (hmm : (vb = .map none ∧ vm = .map none) ∨ ∃ r1 r2, vb = .map (some r1) ∧ vm = .map (some r2) ∧ r1 ≠ r2)
    (a : Option Addr) (cap N : Nat) (pl : List Int) (hN : N = pl.length) (hl : Lies w a pl) (hcap : N ≤ cap ∧ cap ≤ 9223372036854775807) (hlT : 0 < N → ∀ x, a = some x → x.block ≠ T ∧ ∀ r, vb = .map (some r) ∨ vm = .map (some r) → x.block ≠ r) (at_ : Nat) (hat : at_ + N ≤ 4194304) :
    Calls Tryz.prog 64 #[.pointer (some ⟨T, 0, none⟩), .int .i64 at_, .slice a N cap, .int .u8 by_] w fun e w' => e = .returned (.tuple #[]) ∧ (∃ r1 r2 B' M', Txs w' T J (.map (some r1)) (.map (some r2)) va d ∧ Ovr w' (.map (some r1)) (.map (some r2)) B' M' ∧ r1 ≠ r2 ∧ (∀ r, r = r1 ∨ r = r2 → (vb = .map (some r) ∨ vm = .map (some r)) ∨ w.heap.size ≤ r) ∧
      Laid B M B' M' at_ N pl by_) ∧ Chg (fun k => k = T ∨ vb = .map (some k) ∨ vm = .map (some k)) w w' := by
  have hpo : ∃ pb po, 0 < N → a = some ⟨pb, po, none⟩ ∧ pb < w.heap.size ∧ pb ≠ T ∧ (∀ r, vb = .map (some r) ∨ vm = .map (some r) → pb ≠ r) ∧ ∀ j, j < pl.length → w.cell? ⟨pb, po + j, none⟩ = some (.int .u8 (pl.getD j 0)) := by
    rcases hl with h | ⟨pb, po, ha, hb, hc⟩
    · exact ⟨0, 0, fun h0 => by rw [h] at hN; simp at hN; omega⟩
    · exact ⟨pb, po, fun h0 => ⟨ha, hb, (hlT h0 _ ha).1, (hlT h0 _ ha).2, hc⟩⟩
  obtain ⟨pb, po, hpo⟩ := hpo
  have HPo := hide hpo
  have HNl := hide hN
  clear hl hlT hpo hN
  rcases hmm with ⟨rfl, rfl⟩ | ⟨r1, r2, rfl, rfl, hr12⟩
  · have hTl := ht.lt
    have hBz : ∀ s, sec (B s) = sec Z5 := by
      rcases ho.b with h | ⟨r, e, _⟩
      · exact h.2
      · cases e
    have hMz : ∀ s, sec (M s) = sec Z5 := by
      rcases ho.m with h | ⟨r, e, _⟩
      · exact h.2
      · cases e
    have hnil : (binOp .eql 88 (.map none) (.map none)).run Tryz.prog w = .ok (.bool true) w := run_eql_map_nil w 88 _ _ none Tryz.underlying88
    have hmk1 : (Instr.makeMap 88 none).run Tryz.prog w = .ok (.map (some w.heap.size)) (w.alloc (.map #[] 0)) := rfl
    have hmk2 : (Instr.makeMap 89 none).run Tryz.prog (w.alloc (.map #[] 0)) = .ok (.map (some (w.heap.size + 1))) ((w.alloc (.map #[] 0)).alloc (.map #[] 0)) := by
      have h : (Instr.makeMap 89 none).run Tryz.prog (w.alloc (.map #[] 0)) = .ok (.map (some (w.alloc (.map #[] 0)).heap.size)) ((w.alloc (.map #[] 0)).alloc (.map #[] 0)) := rfl
      rw [World.size_alloc] at h
      exact h
    obtain ⟨c0, c1, c2, c3, c4⟩ := ht.cell
    have hfz : ∀ i, w.frozen? ⟨T, i, none⟩ = false := fun i => by
      have := ht
      unfold Txs at this
      simp [World.frozen?, this]
    have f1 := hfz 1
    have f2 := hfz 2
    have h1 : Txs (w.setCell ⟨T, 1, none⟩ (.map (some w.heap.size))) T J (.map (some w.heap.size)) (.map none) va d := heap_setCell_same _ T 1 _ _ (.map (some w.heap.size)) ht
    have h2 : Txs ((w.setCell ⟨T, 1, none⟩ (.map (some w.heap.size))).setCell ⟨T, 2, none⟩ (.map (some (w.heap.size + 1)))) T J (.map (some w.heap.size)) (.map (some (w.heap.size + 1))) va d := heap_setCell_same _ T 2 _ _ (.map (some (w.heap.size + 1))) h1
    have h1a : Txs (((w.setCell ⟨T, 1, none⟩ (.map (some w.heap.size))).alloc (.map #[] 0)).alloc (.map #[] 0)) T J (.map (some w.heap.size)) (.map none) va d := (h1.below ((Below.refl _ _).alloc (Nat.le_refl _) _)).below ((Below.refl _ _).alloc (Nat.le_refl _) _)
    have f3 : (((w.setCell ⟨T, 1, none⟩ (.map (some w.heap.size))).alloc (.map #[] 0)).alloc (.map #[] 0)).frozen? ⟨T, 2, none⟩ = false := by
      have := h1a
      unfold Txs at this
      simp [World.frozen?, this]
    have h0a : Txs ((w.alloc (.map #[] 0)).alloc (.map #[] 0)) T J (.map none) (.map none) va d := (ht.below ((Below.refl _ _).alloc (Nat.le_refl _) _)).below ((Below.refl _ _).alloc (Nat.le_refl _) _)
    have f4 : ((w.alloc (.map #[] 0)).alloc (.map #[] 0)).frozen? ⟨T, 1, none⟩ = false := by
      have := h0a
      unfold Txs at this
      simp [World.frozen?, this]
    obtain ⟨wa, hwa⟩ : ∃ wa, wa = (w.setCell ⟨T, 1, none⟩ (.map (some w.heap.size))).setCell ⟨T, 2, none⟩ (.map (some (w.heap.size + 1))) := ⟨_, rfl⟩
    have hca : Chg (fun k => k = T ∨ (Value.map none) = .map (some k) ∨ (Value.map none) = .map (some k)) w wa := by
      rw [hwa]
      exact ((Chg.refl _ _).setCell T 1 _ (fun _ => Or.inl rfl)).setCell T 2 _ (fun _ => Or.inl rfl)
    have hsa : wa.heap.size = w.heap.size := by rw [hwa]; simp
    rw [← hwa] at h2
    have HTa : Hid (Txs ((wa.alloc (.map #[] 0)).alloc (.map #[] 0)) T J (.map (some w.heap.size)) (.map (some (w.heap.size + 1))) va d) := hide ((h2.below ((Below.refl _ _).alloc (Nat.le_refl _) _)).below ((Below.refl _ _).alloc (Nat.le_refl _) _))
    have HOa : Hid (Ovr ((wa.alloc (.map #[] 0)).alloc (.map #[] 0)) (.map (some w.heap.size)) (.map (some (w.heap.size + 1))) B M) := hide (by
      refine ⟨Or.inr ⟨_, rfl, ?_⟩, Or.inr ⟨_, rfl, ?_⟩, ho.bl, ho.ml⟩
      · have e : (fun s => sec (B s)) = fun _ => sec Z5 := funext hBz
        rw [e]
        have h9 := (MapR.made wa (sec Z5)).same (w' := (wa.alloc (.map #[] 0)).alloc (.map #[] 0)) (Below.heap_alloc _ _ _ (by simp))
        rw [hsa] at h9
        exact h9
      · have e : (fun s => sec (M s)) = fun _ => sec Z5 := funext hMz
        rw [e]
        have h9 := MapR.made (wa.alloc (.map #[] 0)) (sec Z5)
        rw [World.size_alloc, hsa] at h9
        exact h9)
    have HCa : Hid (Chg (fun k => k = T ∨ (Value.map none) = .map (some k) ∨ (Value.map none) = .map (some k)) w ((wa.alloc (.map #[] 0)).alloc (.map #[] 0))) := hide ((hca.alloc _).alloc _)
    go_enter Tryz.func64, Tryz.ntmps64
    go_wp2_with fail
    obtain ⟨r1, hr1⟩ : ∃ r1, r1 = w.heap.size := ⟨_, rfl⟩
    obtain ⟨r2, hr2⟩ : ∃ r2, r2 = w.heap.size + 1 := ⟨_, rfl⟩
    have hr12 : r1 ≠ r2 := by omega
    rw [← hr2, ← hr1] at HTa HOa
    try rw [← hr2]
    try rw [← hr1]
    rw [← hr2, ← hr1] at hwa
    rw [← hwa]
    generalize (wa.alloc (.map #[] 0)).alloc (.map #[] 0) = w1 at *
    have HT1 := HTa
    have HO1 := HOa
    have HCw := HCa
    have HRr : Hid (∀ r, r = r1 ∨ r = r2 → ((Value.map none) = .map (some r) ∨ (Value.map none) = .map (some r)) ∨ w.heap.size ≤ r) := hide (fun r hr => by omega)
    have HX : Hid (∀ q, (q = r1 ∨ q = r2) → q < w.heap.size → (q = T ∨ (Value.map none) = .map (some q) ∨ (Value.map none) = .map (some q))) := hide (fun q hq h => by omega)
    have HCl : Hid (0 < N → ∀ j, j < pl.length → w1.cell? ⟨pb, po + j, none⟩ = some (.int .u8 (pl.getD j 0))) := hide (fun h0 j hj => HCa.out.cell ((HPo.out h0).2.2.2.2 j hj) (by have := (HPo.out h0).2.2.1; simp; omega))
    have HPn : Hid (0 < N → pb < w1.heap.size ∧ pb ≠ r1 ∧ pb ≠ r2) := hide (fun h0 => by have := (HPo.out h0).2.1; have := HCa.out.size; omega)
    clear ht ho h1 h2 h1a h0a f1 f2 f3 f4 hwa hca hsa hfz hBz hMz hmk1 hmk2 hnil hr1 hr2 c0 c1 c2 c3 c4 hTl
    go_loopw [1, 2] (fun v1 v2 wr => ∃ (k : Nat) (ad : Option Addr) (B1 M1 : Int → List Int), k ≤ N ∧ v1 = .int .i64 ((at_ + k : Nat) : Int) ∧ v2 = .slice ad (N - k) (cap - k) ∧ (k < N → ad = some ⟨pb, po + k, none⟩) ∧ Txs wr T J (.map (some r1)) (.map (some r2)) va d ∧ Ovr wr (.map (some r1)) (.map (some r2)) B1 M1 ∧ Laid B M B1 M1 at_ k pl by_ ∧ Chg (fun q => q = r1 ∨ q = r2) w1 wr) (fun v1 _ _ => at_ + N - (intOf v1).toNat)
    case atStart => exact ⟨0, a, B, M, by omega, rfl, rfl, fun h => (HPo.out h).1, HT1.out, HO1.out, Laid.start _ _ _ _ _, Chg.refl _ _⟩
    case round =>
      obtain ⟨k, ad, B1, M1, hk, rfl, rfl, had, htx, hov, hval, hchg⟩ := hrel
      by_cases hlt : k < N
      · obtain rfl := had hlt
        obtain ⟨w3, hw3⟩ : ∃ w3, w3 = wr := ⟨_, rfl⟩
        subst hw3
        have hd0 : decide ((0 : Int) < ((N - k : Nat) : Int)) = true := by simp; omega
        have HT3 := hide htx
        have HO3 := hide hov
        have HV3 := hide hval
        have HC3 := hide hchg
        obtain ⟨p, hp⟩ : ∃ p, p = at_ + k := ⟨_, rfl⟩
        rw [← hp]
        have hpb : p < 4194304 := by omega
        have HP := hide hp
        clear hp
        obtain ⟨fr, hfr⟩ : ∃ fr, fr = p % 512 := ⟨_, rfl⟩
        obtain ⟨sn, hsn⟩ : ∃ sn, sn = p / 512 := ⟨_, rfl⟩
        have hr1 : ((p : Nat) : Int).tmod 512 = (fr : Int) := by rw [Int.tmod_eq_emod_of_nonneg (by omega)]; omega
        have hr2 : ((p : Nat) : Int).tdiv 512 = (sn : Int) := by rw [Int.tdiv_eq_ediv_of_nonneg (by omega)]; omega
        have hr3 : ((p : Nat) : Int) % 512 = (fr : Int) := by omega
        have hr4 : ((p : Nat) : Int) / 512 = (sn : Int) := by omega
        have hfb : fr < 512 := by omega
        have hsb : sn < 8192 := by omega
        have HFr := hide hfr
        have HSn := hide hsn
        have hr1l : r1 < w3.heap.size := (hov.b.lt r1 rfl).1
        have hr2l : r2 < w3.heap.size := (hov.m.lt r2 rfl).1
        have hTw : T < w3.heap.size := htx.lt
        have hTr : T ≠ r1 ∧ T ≠ r2 := by
          obtain ⟨_, es1, c1, e1⟩ := hov.b.lt r1 rfl
          obtain ⟨_, es2, c2, e2⟩ := hov.m.lt r2 rfl
          have e3 : w3.heap[T]? = _ := htx
          refine ⟨fun e => ?_, fun e => ?_⟩
          · subst e
            rw [e1] at e3
            cases e3
          · subst e
            rw [e2] at e3
            cases e3
        clear hfr hsn htx hov hval hchg had
        go_wp2_with fail
        have hH : (fun u => u.cell? ⟨T, 1, none⟩ = some (.map (some r1)) ∧ u.cell? ⟨T, 2, none⟩ = some (.map (some r2)) ∧ Ovr u (.map (some r1)) (.map (some r2)) B1 M1) w3.drew := ⟨HT3.out.cell.2.1, HT3.out.cell.2.2.1, HO3.out.chg (Chg.refl (fun _ => False) w3).drew (fun _ _ h => h)⟩
        refine wp_region_held_drew (S := (fun u => u.cell? ⟨T, 1, none⟩ = some (.map (some r1)) ∧ u.cell? ⟨T, 2, none⟩ = some (.map (some r2)) ∧ Ovr u (.map (some r1)) (.map (some r2)) B1 M1)) (by kernel_rfl) hH (fun _ => ?_)
        refine any_take 0 (some 34) (.pointer (some ⟨T, 0, none⟩)) rfl rfl (by kernel_rfl) (by kernel_rfl) (by kernel_rfl) (fun _ _ _ h => h) (by rfl) hH ?_ ?_
        · intro u hSu
          obtain ⟨q0, q1, q2⟩ := hSu
          go_simp
        simp only [Act.put, List.setIfInBounds_toArray, List.set_cons_zero, List.set_cons_succ]
        refine any_take 1 (some 35) (.pointer (some ⟨T, 0, none⟩)) rfl rfl (by kernel_rfl) (by kernel_rfl) (by kernel_rfl) (fun _ _ _ h => h) (by rfl) hH ?_ ?_
        · intro u hSu
          obtain ⟨q0, q1, q2⟩ := hSu
          go_simp
        simp only [Act.put, List.setIfInBounds_toArray, List.set_cons_zero, List.set_cons_succ]
        refine any_take 2 (some 36) (.pointer (some ⟨T, 1, none⟩)) rfl rfl (by kernel_rfl) (by kernel_rfl) (by kernel_rfl) (fun _ _ _ h => h) (by rfl) hH ?_ ?_
        · intro u hSu
          obtain ⟨q0, q1, q2⟩ := hSu
          go_simp
        simp only [Act.put, List.setIfInBounds_toArray, List.set_cons_zero, List.set_cons_succ]
        refine any_take 3 (some 37) (.map (some r1)) rfl rfl (by kernel_rfl) (by kernel_rfl) (by kernel_rfl) (fun _ _ _ h => h) (by rfl) hH ?_ ?_
        · intro u hSu
          obtain ⟨q0, q1, q2⟩ := hSu
          go_simp
        simp only [Act.put, List.setIfInBounds_toArray, List.set_cons_zero, List.set_cons_succ]
        refine any_take 4 (some 38) (.int .i64 (sn : Int)) rfl rfl (by kernel_rfl) (by kernel_rfl) (by kernel_rfl) (fun _ _ _ h => h) (by rfl) hH ?_ ?_
        · intro u hSu
          obtain ⟨q0, q1, q2⟩ := hSu
          go_simp
        simp only [Act.put, List.setIfInBounds_toArray, List.set_cons_zero, List.set_cons_succ]
        refine any_take 5 (some 39) (sec (B1 (sn : Int))) rfl rfl (by kernel_rfl) (by kernel_rfl) (by kernel_rfl) (fun _ _ _ h => h) (by rfl) hH ?_ ?_
        · intro u hSu
          obtain ⟨q0, q1, q2⟩ := hSu
          have hlk := look98 q2 (sn : Int)
          go_simp
        simp only [Act.put, List.setIfInBounds_toArray, List.set_cons_zero, List.set_cons_succ]
        refine any_take 6 (some 40) (.pointer (some ⟨T, 0, none⟩)) rfl rfl (by kernel_rfl) (by kernel_rfl) (by kernel_rfl) (fun _ _ _ h => h) (by rfl) hH ?_ ?_
        · intro u hSu
          obtain ⟨q0, q1, q2⟩ := hSu
          go_simp
        simp only [Act.put, List.setIfInBounds_toArray, List.set_cons_zero, List.set_cons_succ]
        refine any_take 7 (some 41) (.pointer (some ⟨T, 0, none⟩)) rfl rfl (by kernel_rfl) (by kernel_rfl) (by kernel_rfl) (fun _ _ _ h => h) (by rfl) hH ?_ ?_
        · intro u hSu
          obtain ⟨q0, q1, q2⟩ := hSu
          go_simp
        simp only [Act.put, List.setIfInBounds_toArray, List.set_cons_zero, List.set_cons_succ]
        refine any_take 8 (some 42) (.pointer (some ⟨T, 2, none⟩)) rfl rfl (by kernel_rfl) (by kernel_rfl) (by kernel_rfl) (fun _ _ _ h => h) (by rfl) hH ?_ ?_
        · intro u hSu
          obtain ⟨q0, q1, q2⟩ := hSu
          go_simp
        simp only [Act.put, List.setIfInBounds_toArray, List.set_cons_zero, List.set_cons_succ]
        refine any_take 9 (some 43) (.map (some r2)) rfl rfl (by kernel_rfl) (by kernel_rfl) (by kernel_rfl) (fun _ _ _ h => h) (by rfl) hH ?_ ?_
        · intro u hSu
          obtain ⟨q0, q1, q2⟩ := hSu
          go_simp
        simp only [Act.put, List.setIfInBounds_toArray, List.set_cons_zero, List.set_cons_succ]
        refine any_take 10 (some 44) (.int .i64 (sn : Int)) rfl rfl (by kernel_rfl) (by kernel_rfl) (by kernel_rfl) (fun _ _ _ h => h) (by rfl) hH ?_ ?_
        · intro u hSu
          obtain ⟨q0, q1, q2⟩ := hSu
          go_simp
        simp only [Act.put, List.setIfInBounds_toArray, List.set_cons_zero, List.set_cons_succ]
        refine any_take 11 (some 45) (sec (M1 (sn : Int))) rfl rfl (by kernel_rfl) (by kernel_rfl) (by kernel_rfl) (fun _ _ _ h => h) (by rfl) hH ?_ ?_
        · intro u hSu
          obtain ⟨q0, q1, q2⟩ := hSu
          have hlk := look99 q2 (sn : Int)
          go_simp
        simp only [Act.put, List.setIfInBounds_toArray, List.set_cons_zero, List.set_cons_succ]
        refine wpAnyH_ready (rs := [12, 13]) (by kernel_rfl) (by simp) ?_
        refine AllReadyH.cons (i := 12) rfl (fun K hK => ?_) (AllReadyH.cons (i := 13) rfl (fun K hK => ?_) AllReadyH.nil)
        · have hz1 : (zeroValue 146).run Tryz.prog w3.drew = .ok (.agg (secC Z5)) w3.drew := zero98 _
          have hz2 : (zeroValue 147).run Tryz.prog (w3.alloc (.cells (secC Z5) 146)).drew = .ok (.agg (secC Z5)) (w3.alloc (.cells (secC Z5) 146)).drew := zero99 _
          have hb1 : Below w3.drew.heap.size w3.drew (w3.drew.alloc (.cells (secC Z5) 146)) := (Below.refl _ _).alloc (Nat.le_refl _) _
          have hb2 : Below w3.drew.heap.size w3.drew ((w3.drew.alloc (.cells (secC Z5) 146)).alloc (.cells (secC Z5) 147)) := hb1.alloc (by simp) _
          have hTl : T < w3.drew.heap.size := hTw
          have hH1 : (fun u => u.cell? ⟨T, 1, none⟩ = some (.map (some r1)) ∧ u.cell? ⟨T, 2, none⟩ = some (.map (some r2)) ∧ Ovr u (.map (some r1)) (.map (some r2)) B1 M1) (w3.drew.alloc (.cells (secC Z5) 146)) := ⟨(hb1.cell (p := ⟨T, 1, none⟩) hTl).trans hH.1, (hb1.cell (p := ⟨T, 2, none⟩) hTl).trans hH.2.1, hH.2.2.chg (Chg.of_below (X := fun _ => False) hb1) (fun _ _ h => h)⟩
          have hH2 : (fun u => u.cell? ⟨T, 1, none⟩ = some (.map (some r1)) ∧ u.cell? ⟨T, 2, none⟩ = some (.map (some r2)) ∧ Ovr u (.map (some r1)) (.map (some r2)) B1 M1) ((w3.drew.alloc (.cells (secC Z5) 146)).alloc (.cells (secC Z5) 147)) := ⟨(hb2.cell (p := ⟨T, 1, none⟩) hTl).trans hH.1, (hb2.cell (p := ⟨T, 2, none⟩) hTl).trans hH.2.1, hH.2.2.chg (Chg.of_below (X := fun _ => False) hb2) (fun _ _ h => h)⟩
          go_simp
          refine hK.out _ _ hH1 (fun _ => ?_)
          clear hK K
          try simp only [Act.put, List.setIfInBounds_toArray, List.set_cons_zero, List.set_cons_succ]
          refine wpAnyH_ready (rs := [13]) (by kernel_rfl) (by simp) ?_
          refine AllReadyH.cons (i := 13) rfl (fun K hK => ?_) AllReadyH.nil
          go_simp
          refine hK.out _ _ hH2 (fun _ => ?_)
          clear hK K
          try simp only [Act.put, List.setIfInBounds_toArray, List.set_cons_zero, List.set_cons_succ]
          have hsd : w3.drew.heap.size = w3.heap.size := rfl
          have hsz1 : (w3.alloc (.cells (secC Z5) 146)).drew.heap.size = w3.heap.size + 1 := by
            show (w3.alloc (.cells (secC Z5) 146)).heap.size = _
            simp
          try rw [hsz1]
          have sX : Sec ((w3.drew.alloc (.cells (secC Z5) 146)).alloc (.cells (secC Z5) 147)) w3.heap.size 146 Z5 := (Sec.new w3.drew _ Z5 Z5_len).same (Below.heap_alloc _ _ _ (by simp))
          have sY : Sec ((w3.drew.alloc (.cells (secC Z5) 146)).alloc (.cells (secC Z5) 147)) (w3.heap.size + 1) 147 Z5 := ⟨heap_alloc2_new w3.drew _ _, Z5_len⟩
          have hg3 := Chg.of_grown (grown_setRow ((w3.drew.alloc (.cells (secC Z5) 146)).alloc (.cells (secC Z5) 147)) w3.heap.size (secC (B1 (sn : Int))))
          have hH3 : (fun u => u.cell? ⟨T, 1, none⟩ = some (.map (some r1)) ∧ u.cell? ⟨T, 2, none⟩ = some (.map (some r2)) ∧ Ovr u (.map (some r1)) (.map (some r2)) B1 M1) (((w3.drew.alloc (.cells (secC Z5) 146)).alloc (.cells (secC Z5) 147)).setRow w3.heap.size (secC (B1 (sn : Int)))) := by
            refine ⟨hg3.cell hH2.1 (by simp; omega), hg3.cell hH2.2.1 (by simp; omega), hH2.2.2.chg hg3 (fun r hr e => ?_)⟩
            simp at e hr
            omega
          have sX3 := sX.row (B1 (sn : Int)) (HO3.out.bl _)
          have sY3 := sY.same (setRow_other ((w3.drew.alloc (.cells (secC Z5) 146)).alloc (.cells (secC Z5) 147)) w3.heap.size (secC (B1 (sn : Int))) (w3.heap.size + 1) (by omega))
          have hg4 := Chg.of_grown (grown_setRow (((w3.drew.alloc (.cells (secC Z5) 146)).alloc (.cells (secC Z5) 147)).setRow w3.heap.size (secC (B1 (sn : Int)))) (w3.heap.size + 1) (secC (M1 (sn : Int))))
          have hH4 : (fun u => u.cell? ⟨T, 1, none⟩ = some (.map (some r1)) ∧ u.cell? ⟨T, 2, none⟩ = some (.map (some r2)) ∧ Ovr u (.map (some r1)) (.map (some r2)) B1 M1) ((((w3.drew.alloc (.cells (secC Z5) 146)).alloc (.cells (secC Z5) 147)).setRow w3.heap.size (secC (B1 (sn : Int)))).setRow (w3.heap.size + 1) (secC (M1 (sn : Int)))) := by
            refine ⟨hg4.cell hH3.1 (by simp; omega), hg4.cell hH3.2.1 (by simp; omega), hH3.2.2.chg hg4 (fun r hr e => ?_)⟩
            simp at e hr
            omega
          have sY4 := sY3.row (M1 (sn : Int)) (HO3.out.ml _)
          have sX4 := sX3.same (setRow_other (((w3.drew.alloc (.cells (secC Z5) 146)).alloc (.cells (secC Z5) 147)).setRow w3.heap.size (secC (B1 (sn : Int)))) (w3.heap.size + 1) (secC (M1 (sn : Int))) w3.heap.size (by omega))
          have hC4 : Chg (fun _ => False) w3 ((((w3.drew.alloc (.cells (secC Z5) 146)).alloc (.cells (secC Z5) 147)).setRow w3.heap.size (secC (B1 (sn : Int)))).setRow (w3.heap.size + 1) (secC (M1 (sn : Int)))) := ⟨rfl, rfl, rfl, by simp [World.setRow]; omega, fun q hq _ => by
            have hq2 : q < w3.drew.heap.size := hq
            rw [setRow_other _ _ _ q (by omega), setRow_other _ _ _ q (by omega)]
            exact hb2.block q hq2⟩
          refine ready_store 14 146 (.tmp 10) (.tmp 39) w3.heap.size (secC (B1 (sn : Int))) (secC Z5) (by kernel_rfl) rfl rfl rfl rfl rfl rfl sX.at_ (by rw [secC_size, HO3.out.bl]; exact size98) (by rw [secC_size, secC_size, HO3.out.bl]; exact Z5_len) (secC_one _) hH3 ?_
          refine ready_store 15 147 (.tmp 11) (.tmp 45) (w3.heap.size + 1) (secC (M1 (sn : Int))) (secC Z5) (by kernel_rfl) rfl rfl rfl rfl rfl rfl sY3.at_ (by rw [secC_size, HO3.out.ml]; exact size99) (by rw [secC_size, secC_size, HO3.out.ml]; exact Z5_len) (secC_one _) hH4 ?_
          refine wpAnyH_done (by kernel_rfl) ?_ _
          have hXY : w3.heap.size ≠ (w3.heap.size + 1) := by omega
          have hXw : w3.heap.size ≤ w3.heap.size ∧ w3.heap.size ≤ (w3.heap.size + 1) := by omega
          clear sX sY sX3 sY3 hg3 hg4 hH1 hH2 hH3 hb1 hb2 hz1 hz2
          obtain ⟨w4, hw4⟩ : ∃ w4, w4 = (((w3.drew.alloc (.cells (secC Z5) 146)).alloc (.cells (secC Z5) 147)).setRow w3.heap.size (secC (B1 (sn : Int)))).setRow (w3.heap.size + 1) (secC (M1 (sn : Int))) := ⟨_, rfl⟩
          rw [← hw4] at sX4 sY4 hC4 hH4
          apply_assumption
          change Code.wp _ _ _ _ ((((w3.drew.alloc (.cells (secC Z5) 146)).alloc (.cells (secC Z5) 147)).setRow w3.heap.size (secC (B1 (sn : Int)))).setRow (w3.heap.size + 1) (secC (M1 (sn : Int))))
          rw [← hw4]
          clear hw4
          obtain ⟨n, hn⟩ : ∃ n, n = min (N - k) (512 - fr) := ⟨_, rfl⟩
          have hn1 : n ≤ N - k ∧ n ≤ 512 - fr ∧ 0 < n := by omega
          have hsl1 := slice98 w4 w3.heap.size fr hfb
          have hcc : ∀ j, j < pl.length → w4.cell? ⟨pb, po + j, none⟩ = some (.int .u8 (pl.getD j 0)) := fun j hj => hC4.cell (HC3.out.cell (HCl.out (by omega) j hj) (by have := HPn.out (by omega); omega)) (fun h => h)
          have hcp := copy98 w4 w3.heap.size fr (B1 (sn : Int)) pl sX4 pb po k N cap HNl.out hlt hfb n hn hcc
          have hNp := HNl.out
          have HSg : Hid (((pl.drop k).take n).length = n) := hide (by simp; omega)
          have HGt : Hid (∀ j, j < n → ((pl.drop k).take n).getD j 0 = pl.getD (k + j) 0) := hide (fun j hj => by rw [List.getD_eq_getElem?_getD, List.getElem?_take, if_pos hj, List.getElem?_drop, List.getD_eq_getElem?_getD])
          have hbl2 : (overS (B1 (sn : Int)) fr ((pl.drop k).take n)).length = 512 := by rw [overS_len _ _ _ (by rw [HSg.out, HO3.out.bl]; omega), HO3.out.bl]
          obtain ⟨b2, hb2⟩ : ∃ b2, b2 = overS (B1 (sn : Int)) fr ((pl.drop k).take n) := ⟨_, rfl⟩
          rw [← hb2] at hcp hbl2
          have HB2 := hide hb2
          have sX5 := sX4.row b2 hbl2
          have sY5 := sY4.same (setRow_other w4 w3.heap.size (secC b2) (w3.heap.size + 1) (by omega))
          have hC5 : Chg (fun _ => False) w3 (w4.setRow w3.heap.size (secC b2)) := ⟨hC4.os, hC4.tape, hC4.output, by simp [World.setRow]; exact hC4.size, fun q hq _ => by
            rw [setRow_other _ _ _ q (by omega)]
            exact hC4.block q hq (fun h => h)⟩
          clear hn hcc hb2 hNp hH4 hH sX4 sY4 hC4
          go_wp2_with fail
          generalize w4.setRow w3.heap.size (secC b2) = w5 at *
          have HX5 := hide sX5
          have HY5 := hide sY5
          have HC5 := hide hC5
          clear sX5 sY5 hC5 hcp hsl1
          go_loopw [51] (fun v wr => ∃ (i : Nat) (mi : List Int), i ≤ n ∧ v = .int .i64 (i : Int) ∧ Sec wr (w3.heap.size + 1) 147 mi ∧ (∀ j, fr ≤ j → j < fr + i → mi.getD j 0 = max ((M1 (sn : Int)).getD j 0) by_) ∧ (∀ j, ¬ (fr ≤ j ∧ j < fr + i) → mi.getD j 0 = (M1 (sn : Int)).getD j 0) ∧ Chg (fun q => q = (w3.heap.size + 1)) w5 wr) (fun v _ => n - (intOf v).toNat)
          case atStart => exact ⟨0, _, by omega, rfl, HY5.out, by intro j h1 h2; omega, fun j _ => rfl, Chg.refl _ _⟩
          case round =>
            obtain ⟨i, mi, hi, rfl, hy, hm1, hm2, hc⟩ := hrel
            have HMi1 := hide hm1
            have HMi2 := hide hm2
            have HYi := hide hy
            have HCi := hide hc
            by_cases hin : i < n
            · have cY := hy.cell (fr + i) (by omega)
              have fY := hy.frozen (fr + i)
              obtain ⟨x, hx⟩ : ∃ x, mi.getD (fr + i) 0 = x := ⟨_, rfl⟩
              rw [hx] at cY
              have HXx := hide hx
              clear hy hm1 hm2 hc hx
              by_cases hx2 : x < by_
              · go_wp2_with fail
                refine ⟨⟨i + 1, mi.set (fr + i) by_, by omega, by go_num, HYi.out.set _ _, fun j h1 h2 => ?_, fun j h1 => ?_, HCi.out.setCell _ _ _ (fun _ => rfl)⟩, by simp [intOf]; omega⟩
                · rw [getD_set _ _ _ _ (by rw [HYi.out.len]; omega)]
                  by_cases hj : fr + i = j
                  · rw [if_pos hj]; have e5 := HMi2.out (fr + i) (by omega); have e6 := HXx.out; rw [← hj]; omega
                  · rw [if_neg hj]; exact HMi1.out j h1 (by omega)
                · rw [getD_set _ _ _ _ (by rw [HYi.out.len]; omega), if_neg (by omega)]
                  exact HMi2.out j (by omega)
              · go_wp2_with fail
                refine ⟨⟨i + 1, mi.set (fr + i) x, by omega, by go_num, HYi.out.set _ _, fun j h1 h2 => ?_, fun j h1 => ?_, HCi.out.setCell _ _ _ (fun _ => rfl)⟩, by simp [intOf]; omega⟩
                · rw [getD_set _ _ _ _ (by rw [HYi.out.len]; omega)]
                  by_cases hj : fr + i = j
                  · rw [if_pos hj]; have e5 := HMi2.out (fr + i) (by omega); have e6 := HXx.out; rw [← hj]; omega
                  · rw [if_neg hj]; exact HMi1.out j h1 (by omega)
                · rw [getD_set _ _ _ _ (by rw [HYi.out.len]; omega), if_neg (by omega)]
                  exact HMi2.out j (by omega)
            · have hin2 : i = n := by omega
              subst hin2
              have HX6 : Hid (Sec wr.drew w3.heap.size 146 b2) := hide (HX5.out.same (hc.block _ HX5.out.lt (by omega)))
              have HY6 : Hid (Sec wr.drew (w3.heap.size + 1) 147 mi) := hide (hy.same rfl)
              have HC6 : Hid (Chg (fun _ => False) w3 wr.drew) := hide ⟨hc.os.trans HC5.out.os, hc.tape.trans HC5.out.tape, hc.output.trans HC5.out.output, Nat.le_trans HC5.out.size hc.size, fun q hq _ => (hc.block q (Nat.lt_of_lt_of_le hq HC5.out.size) (by omega)).trans (HC5.out.block q hq (fun h => h))⟩
              have HM1 : Hid (MapR wr.drew r1 (sec Z5) (fun s => sec (B1 s))) := hide (by
                rcases HO3.out.b with h | ⟨r, e, h⟩
                · cases h.1
                · cases e
                  exact h.same (HC6.out.block _ hr1l (fun h => h)))
              have HM2 : Hid (MapR wr.drew r2 (sec Z5) (fun s => sec (M1 s))) := hide (by
                rcases HO3.out.m with h | ⟨r, e, h⟩
                · cases h.1
                · cases e
                  exact h.same (HC6.out.block _ hr2l (fun h => h)))
              have hlast : decide (((i : Nat) : Int) < ((i : Nat) : Int)) = false := by simp
              clear hy hm1 hm2 hc
              go_wp2_with fail
              have hyw : wr.drew.heap.size = wr.heap.size := rfl
              have hH5 : (fun u => u.cell? ⟨T, 1, none⟩ = some (.map (some r1)) ∧ u.cell? ⟨T, 2, none⟩ = some (.map (some r2)) ∧ Sec u w3.heap.size 146 b2 ∧ Sec u (w3.heap.size + 1) 147 mi) wr.drew := ⟨HC6.out.cell HT3.out.cell.2.1 (fun h => h), HC6.out.cell HT3.out.cell.2.2.1 (fun h => h), HX6.out, HY6.out⟩
              refine wp_region_held_drew (S := (fun u => u.cell? ⟨T, 1, none⟩ = some (.map (some r1)) ∧ u.cell? ⟨T, 2, none⟩ = some (.map (some r2)) ∧ Sec u w3.heap.size 146 b2 ∧ Sec u (w3.heap.size + 1) 147 mi)) (by kernel_rfl) hH5 (fun _ => ?_)
              refine any_take 0 (some 66) (.pointer (some ⟨T, 0, none⟩)) rfl rfl (by kernel_rfl) (by kernel_rfl) (by kernel_rfl) (fun _ _ _ h => h) (by rfl) hH5 ?_ ?_
              · intro u hSu
                obtain ⟨q0, q1, q2, q3⟩ := hSu
                go_simp
              simp only [Act.put, List.setIfInBounds_toArray, List.set_cons_zero, List.set_cons_succ]
              refine any_take 1 (some 67) (.pointer (some ⟨T, 0, none⟩)) rfl rfl (by kernel_rfl) (by kernel_rfl) (by kernel_rfl) (fun _ _ _ h => h) (by rfl) hH5 ?_ ?_
              · intro u hSu
                obtain ⟨q0, q1, q2, q3⟩ := hSu
                go_simp
              simp only [Act.put, List.setIfInBounds_toArray, List.set_cons_zero, List.set_cons_succ]
              refine any_take 2 (some 68) (.pointer (some ⟨T, 1, none⟩)) rfl rfl (by kernel_rfl) (by kernel_rfl) (by kernel_rfl) (fun _ _ _ h => h) (by rfl) hH5 ?_ ?_
              · intro u hSu
                obtain ⟨q0, q1, q2, q3⟩ := hSu
                go_simp
              simp only [Act.put, List.setIfInBounds_toArray, List.set_cons_zero, List.set_cons_succ]
              refine any_take 3 (some 69) (.map (some r1)) rfl rfl (by kernel_rfl) (by kernel_rfl) (by kernel_rfl) (fun _ _ _ h => h) (by rfl) hH5 ?_ ?_
              · intro u hSu
                obtain ⟨q0, q1, q2, q3⟩ := hSu
                go_simp
              simp only [Act.put, List.setIfInBounds_toArray, List.set_cons_zero, List.set_cons_succ]
              refine any_take 4 (some 70) (.int .i64 (sn : Int)) rfl rfl (by kernel_rfl) (by kernel_rfl) (by kernel_rfl) (fun _ _ _ h => h) (by rfl) hH5 ?_ ?_
              · intro u hSu
                obtain ⟨q0, q1, q2, q3⟩ := hSu
                go_simp
              simp only [Act.put, List.setIfInBounds_toArray, List.set_cons_zero, List.set_cons_succ]
              refine any_take 5 (some 71) (.pointer (some ⟨T, 0, none⟩)) rfl rfl (by kernel_rfl) (by kernel_rfl) (by kernel_rfl) (fun _ _ _ h => h) (by rfl) hH5 ?_ ?_
              · intro u hSu
                obtain ⟨q0, q1, q2, q3⟩ := hSu
                go_simp
              simp only [Act.put, List.setIfInBounds_toArray, List.set_cons_zero, List.set_cons_succ]
              refine any_take 6 (some 72) (.pointer (some ⟨T, 0, none⟩)) rfl rfl (by kernel_rfl) (by kernel_rfl) (by kernel_rfl) (fun _ _ _ h => h) (by rfl) hH5 ?_ ?_
              · intro u hSu
                obtain ⟨q0, q1, q2, q3⟩ := hSu
                go_simp
              simp only [Act.put, List.setIfInBounds_toArray, List.set_cons_zero, List.set_cons_succ]
              refine any_take 7 (some 73) (.pointer (some ⟨T, 2, none⟩)) rfl rfl (by kernel_rfl) (by kernel_rfl) (by kernel_rfl) (fun _ _ _ h => h) (by rfl) hH5 ?_ ?_
              · intro u hSu
                obtain ⟨q0, q1, q2, q3⟩ := hSu
                go_simp
              simp only [Act.put, List.setIfInBounds_toArray, List.set_cons_zero, List.set_cons_succ]
              refine any_take 8 (some 74) (.map (some r2)) rfl rfl (by kernel_rfl) (by kernel_rfl) (by kernel_rfl) (fun _ _ _ h => h) (by rfl) hH5 ?_ ?_
              · intro u hSu
                obtain ⟨q0, q1, q2, q3⟩ := hSu
                go_simp
              simp only [Act.put, List.setIfInBounds_toArray, List.set_cons_zero, List.set_cons_succ]
              refine any_take 9 (some 75) (.int .i64 (sn : Int)) rfl rfl (by kernel_rfl) (by kernel_rfl) (by kernel_rfl) (fun _ _ _ h => h) (by rfl) hH5 ?_ ?_
              · intro u hSu
                obtain ⟨q0, q1, q2, q3⟩ := hSu
                go_simp
              simp only [Act.put, List.setIfInBounds_toArray, List.set_cons_zero, List.set_cons_succ]
              refine any_take 10 (some 76) (sec b2) rfl rfl (by kernel_rfl) (by kernel_rfl) (by kernel_rfl) (fun _ _ _ h => h) (by rfl) hH5 ?_ ?_
              · intro u hSu
                obtain ⟨q0, q1, q2, q3⟩ := hSu
                have hlk := load98 q2
                exact exec_load rfl rfl hlk
              simp only [Act.put, List.setIfInBounds_toArray, List.set_cons_zero, List.set_cons_succ]
              refine any_take 11 (some 77) (sec mi) rfl rfl (by kernel_rfl) (by kernel_rfl) (by kernel_rfl) (fun _ _ _ h => h) (by rfl) hH5 ?_ ?_
              · intro u hSu
                obtain ⟨q0, q1, q2, q3⟩ := hSu
                have hlk := load99 q3
                exact exec_load rfl rfl hlk
              simp only [Act.put, List.setIfInBounds_toArray, List.set_cons_zero, List.set_cons_succ]
              obtain ⟨old1, st1, w6, hrun1, hmid1, hg6⟩ := entry_run (P := Tryz.prog) (w := wr.drew) Tryz.underlying88 key81 (zero98 _) HM1.out (sn : Int)
              have hS6 : (fun u => u.cell? ⟨T, 1, none⟩ = some (.map (some r1)) ∧ u.cell? ⟨T, 2, none⟩ = some (.map (some r2)) ∧ Sec u w3.heap.size 146 b2 ∧ Sec u (w3.heap.size + 1) 147 mi) w6 := ⟨hg6.cell hH5.1 (by simp; omega), hg6.cell hH5.2.1 (by simp; omega), hH5.2.2.1.same (hg6.block _ hH5.2.2.1.lt (by simp; omega)), hH5.2.2.2.same (hg6.block _ hH5.2.2.2.lt (by simp; omega))⟩
              refine ready_val 12 (some 78) (.tuple #[old1, goInt (st1 : Int)]) w6 (by kernel_rfl) rfl rfl rfl (exec_entry rfl rfl rfl hrun1) hS6 ?_
              simp only [Act.put, List.setIfInBounds_toArray, List.set_cons_zero, List.set_cons_succ]
              refine ready_val 13 (some 79) (goInt (st1 : Int)) w6 (by kernel_rfl) rfl rfl rfl (by go_simp) hS6 ?_
              simp only [Act.put, List.setIfInBounds_toArray, List.set_cons_zero, List.set_cons_succ]
              obtain ⟨w7, hrun2, hmap1, hg7⟩ := store_run (P := Tryz.prog) (mty := 88) hmid1 (sec b2)
              have hS7 : (fun u => u.cell? ⟨T, 1, none⟩ = some (.map (some r1)) ∧ u.cell? ⟨T, 2, none⟩ = some (.map (some r2)) ∧ Sec u w3.heap.size 146 b2 ∧ Sec u (w3.heap.size + 1) 147 mi) w7 := ⟨hg7.cell hS6.1 (by simp; omega), hg7.cell hS6.2.1 (by simp; omega), hS6.2.2.1.same (hg7.block _ hS6.2.2.1.lt (by simp; omega)), hS6.2.2.2.same (hg7.block _ hS6.2.2.2.lt (by simp; omega))⟩
              refine ready_skip 14 w7 (by kernel_rfl) rfl rfl rfl (exec_entryStore rfl rfl rfl rfl hrun2) hS7 ?_
              have hM27 : MapR w7 r2 (sec Z5) (fun s => sec (M1 s)) := HM2.out.same ((hg7.block r2 (Nat.lt_of_lt_of_le HM2.out.lt hg6.size) (by simp; omega)).trans (hg6.block r2 HM2.out.lt (by simp; omega)))
              obtain ⟨old2, st2, w8, hrun3, hmid2, hg8⟩ := entry_run (P := Tryz.prog) (w := w7) Tryz.underlying89 key81 (zero99 _) hM27 (sn : Int)
              have hS8 : (fun u => u.cell? ⟨T, 1, none⟩ = some (.map (some r1)) ∧ u.cell? ⟨T, 2, none⟩ = some (.map (some r2)) ∧ Sec u w3.heap.size 146 b2 ∧ Sec u (w3.heap.size + 1) 147 mi) w8 := ⟨hg8.cell hS7.1 (by simp; omega), hg8.cell hS7.2.1 (by simp; omega), hS7.2.2.1.same (hg8.block _ hS7.2.2.1.lt (by simp; omega)), hS7.2.2.2.same (hg8.block _ hS7.2.2.2.lt (by simp; omega))⟩
              refine ready_val 15 (some 80) (.tuple #[old2, goInt (st2 : Int)]) w8 (by kernel_rfl) rfl rfl rfl (exec_entry rfl rfl rfl hrun3) hS8 ?_
              simp only [Act.put, List.setIfInBounds_toArray, List.set_cons_zero, List.set_cons_succ]
              refine ready_val 16 (some 81) (goInt (st2 : Int)) w8 (by kernel_rfl) rfl rfl rfl (by go_simp) hS8 ?_
              simp only [Act.put, List.setIfInBounds_toArray, List.set_cons_zero, List.set_cons_succ]
              obtain ⟨w9, hrun4, hmap2, hg9⟩ := store_run (P := Tryz.prog) (mty := 89) hmid2 (sec mi)
              have hS9 : (fun u => u.cell? ⟨T, 1, none⟩ = some (.map (some r1)) ∧ u.cell? ⟨T, 2, none⟩ = some (.map (some r2)) ∧ Sec u w3.heap.size 146 b2 ∧ Sec u (w3.heap.size + 1) 147 mi) w9 := ⟨hg9.cell hS8.1 (by simp; omega), hg9.cell hS8.2.1 (by simp; omega), hS8.2.2.1.same (hg9.block _ hS8.2.2.1.lt (by simp; omega)), hS8.2.2.2.same (hg9.block _ hS8.2.2.2.lt (by simp; omega))⟩
              refine ready_skip 17 w9 (by kernel_rfl) rfl rfl rfl (exec_entryStore rfl rfl rfl rfl hrun4) hS9 ?_
              refine wpAnyH_done (by kernel_rfl) ?_ _
              have hC9 : Chg (fun q => q = r1 ∨ q = r2) w3 w9 := by
                have g6 : Chg (fun q => q = r1 ∨ q = r2) wr.drew w6 := (Chg.of_grown hg6).mono (fun i _ e => by simp at e; exact Or.inl e)
                have g7 : Chg (fun q => q = r1 ∨ q = r2) w6 w7 := (Chg.of_grown hg7).mono (fun i _ e => by simp at e; exact Or.inl e)
                have g8 : Chg (fun q => q = r1 ∨ q = r2) w7 w8 := (Chg.of_grown hg8).mono (fun i _ e => by simp at e; exact Or.inr e)
                have g9 : Chg (fun q => q = r1 ∨ q = r2) w8 w9 := (Chg.of_grown hg9).mono (fun i _ e => by simp at e; exact Or.inr e)
                exact ((((HC6.out.mono (fun _ _ h => h.elim)).trans g6).trans g7).trans g8).trans g9
              have hO9 : Ovr w9 (.map (some r1)) (.map (some r2)) (fun k => if k = (sn : Int) then b2 else B1 k) (fun k => if k = (sn : Int) then mi else M1 k) := by
                have hr1w : r1 < w7.heap.size := hmap1.lt
                refine ⟨Or.inr ⟨r1, rfl, ?_⟩, Or.inr ⟨r2, rfl, ?_⟩, fun s => ?_, fun s => ?_⟩
                · rw [upd_sec] at hmap1
                  exact hmap1.same ((hg9.block r1 (Nat.lt_of_lt_of_le hr1w hg8.size) (by simp; omega)).trans (hg8.block r1 hr1w (by simp; omega)))
                · rw [upd_sec] at hmap2
                  exact hmap2
                · show (if s = (sn : Int) then b2 else B1 s).length = 512
                  split
                  · exact hS9.2.2.1.len
                  · exact HO3.out.bl s
                · show (if s = (sn : Int) then mi else M1 s).length = 512
                  split
                  · exact hS9.2.2.2.len
                  · exact HO3.out.ml s
              have HC9 := hide hC9
              have HO9 := hide hO9
              have HT9 : Hid (Txs w9 T J (.map (some r1)) (.map (some r2)) va d) := hide ((hC9.block T hTw (by omega)).trans HT3.out)
              clear hC9 hO9 hS6 hS7 hS8 hS9 hH5 hrun1 hrun2 hrun3 hrun4 hmid1 hmid2 hmap1 hmap2 hM27 hg6 hg7 hg8 hg9
              apply_assumption
              by_cases hcp9 : cap - k = i
              · go_wp2_with fail
                go_quiet (fail)
                go_wp2_with fail
                have hp9 := HP.out
                refine ⟨⟨k + i, _, _, _, by omega, by congr 1; omega, by congr 1 <;> first | omega | rfl | (congr 2; omega), fun h => by omega, HT9.out.drewN _, HO9.out.chg (Chg.refl (fun _ => False) w9).drewN' (fun _ _ h => h), ?_, (HC3.out.trans HC9.out).drewN _⟩, by simp [intOf]; omega⟩
                have hsp : sn * 512 + fr = p := by have := HFr.out; have := HSn.out; omega
                rw [HB2.out]
                exact HV3.out.step (HO3.out.bl _) HSg.out (by omega) hby HMi1.out HMi2.out hsb HP.out hsp HGt.out
              · go_wp2_with fail
                go_quiet (fail)
                go_wp2_with fail
                have hp9 := HP.out
                refine ⟨⟨k + i, _, _, _, by omega, by congr 1; omega, by congr 1 <;> first | omega | rfl | (congr 2; omega), fun _ => rfl, HT9.out.drewN _, HO9.out.chg (Chg.refl (fun _ => False) w9).drewN' (fun _ _ h => h), ?_, (HC3.out.trans HC9.out).drewN _⟩, by simp [intOf]; omega⟩
                have hsp : sn * 512 + fr = p := by have := HFr.out; have := HSn.out; omega
                rw [HB2.out]
                exact HV3.out.step (HO3.out.bl _) HSg.out (by omega) hby HMi1.out HMi2.out hsb HP.out hsp HGt.out
        · have hz1 : (zeroValue 147).run Tryz.prog w3.drew = .ok (.agg (secC Z5)) w3.drew := zero99 _
          have hz2 : (zeroValue 146).run Tryz.prog (w3.alloc (.cells (secC Z5) 147)).drew = .ok (.agg (secC Z5)) (w3.alloc (.cells (secC Z5) 147)).drew := zero98 _
          have hb1 : Below w3.drew.heap.size w3.drew (w3.drew.alloc (.cells (secC Z5) 147)) := (Below.refl _ _).alloc (Nat.le_refl _) _
          have hb2 : Below w3.drew.heap.size w3.drew ((w3.drew.alloc (.cells (secC Z5) 147)).alloc (.cells (secC Z5) 146)) := hb1.alloc (by simp) _
          have hTl : T < w3.drew.heap.size := hTw
          have hH1 : (fun u => u.cell? ⟨T, 1, none⟩ = some (.map (some r1)) ∧ u.cell? ⟨T, 2, none⟩ = some (.map (some r2)) ∧ Ovr u (.map (some r1)) (.map (some r2)) B1 M1) (w3.drew.alloc (.cells (secC Z5) 147)) := ⟨(hb1.cell (p := ⟨T, 1, none⟩) hTl).trans hH.1, (hb1.cell (p := ⟨T, 2, none⟩) hTl).trans hH.2.1, hH.2.2.chg (Chg.of_below (X := fun _ => False) hb1) (fun _ _ h => h)⟩
          have hH2 : (fun u => u.cell? ⟨T, 1, none⟩ = some (.map (some r1)) ∧ u.cell? ⟨T, 2, none⟩ = some (.map (some r2)) ∧ Ovr u (.map (some r1)) (.map (some r2)) B1 M1) ((w3.drew.alloc (.cells (secC Z5) 147)).alloc (.cells (secC Z5) 146)) := ⟨(hb2.cell (p := ⟨T, 1, none⟩) hTl).trans hH.1, (hb2.cell (p := ⟨T, 2, none⟩) hTl).trans hH.2.1, hH.2.2.chg (Chg.of_below (X := fun _ => False) hb2) (fun _ _ h => h)⟩
          go_simp
          refine hK.out _ _ hH1 (fun _ => ?_)
          clear hK K
          try simp only [Act.put, List.setIfInBounds_toArray, List.set_cons_zero, List.set_cons_succ]
          refine wpAnyH_ready (rs := [12]) (by kernel_rfl) (by simp) ?_
          refine AllReadyH.cons (i := 12) rfl (fun K hK => ?_) AllReadyH.nil
          go_simp
          refine hK.out _ _ hH2 (fun _ => ?_)
          clear hK K
          try simp only [Act.put, List.setIfInBounds_toArray, List.set_cons_zero, List.set_cons_succ]
          have hsd : w3.drew.heap.size = w3.heap.size := rfl
          have hsz1 : (w3.alloc (.cells (secC Z5) 147)).drew.heap.size = w3.heap.size + 1 := by
            show (w3.alloc (.cells (secC Z5) 147)).heap.size = _
            simp
          try rw [hsz1]
          have sX : Sec ((w3.drew.alloc (.cells (secC Z5) 147)).alloc (.cells (secC Z5) 146)) (w3.heap.size + 1) 146 Z5 := ⟨heap_alloc2_new w3.drew _ _, Z5_len⟩
          have sY : Sec ((w3.drew.alloc (.cells (secC Z5) 147)).alloc (.cells (secC Z5) 146)) w3.heap.size 147 Z5 := (Sec.new w3.drew _ Z5 Z5_len).same (Below.heap_alloc _ _ _ (by simp))
          have hg3 := Chg.of_grown (grown_setRow ((w3.drew.alloc (.cells (secC Z5) 147)).alloc (.cells (secC Z5) 146)) (w3.heap.size + 1) (secC (B1 (sn : Int))))
          have hH3 : (fun u => u.cell? ⟨T, 1, none⟩ = some (.map (some r1)) ∧ u.cell? ⟨T, 2, none⟩ = some (.map (some r2)) ∧ Ovr u (.map (some r1)) (.map (some r2)) B1 M1) (((w3.drew.alloc (.cells (secC Z5) 147)).alloc (.cells (secC Z5) 146)).setRow (w3.heap.size + 1) (secC (B1 (sn : Int)))) := by
            refine ⟨hg3.cell hH2.1 (by simp; omega), hg3.cell hH2.2.1 (by simp; omega), hH2.2.2.chg hg3 (fun r hr e => ?_)⟩
            simp at e hr
            omega
          have sX3 := sX.row (B1 (sn : Int)) (HO3.out.bl _)
          have sY3 := sY.same (setRow_other ((w3.drew.alloc (.cells (secC Z5) 147)).alloc (.cells (secC Z5) 146)) (w3.heap.size + 1) (secC (B1 (sn : Int))) w3.heap.size (by omega))
          have hg4 := Chg.of_grown (grown_setRow (((w3.drew.alloc (.cells (secC Z5) 147)).alloc (.cells (secC Z5) 146)).setRow (w3.heap.size + 1) (secC (B1 (sn : Int)))) w3.heap.size (secC (M1 (sn : Int))))
          have hH4 : (fun u => u.cell? ⟨T, 1, none⟩ = some (.map (some r1)) ∧ u.cell? ⟨T, 2, none⟩ = some (.map (some r2)) ∧ Ovr u (.map (some r1)) (.map (some r2)) B1 M1) ((((w3.drew.alloc (.cells (secC Z5) 147)).alloc (.cells (secC Z5) 146)).setRow (w3.heap.size + 1) (secC (B1 (sn : Int)))).setRow w3.heap.size (secC (M1 (sn : Int)))) := by
            refine ⟨hg4.cell hH3.1 (by simp; omega), hg4.cell hH3.2.1 (by simp; omega), hH3.2.2.chg hg4 (fun r hr e => ?_)⟩
            simp at e hr
            omega
          have sY4 := sY3.row (M1 (sn : Int)) (HO3.out.ml _)
          have sX4 := sX3.same (setRow_other (((w3.drew.alloc (.cells (secC Z5) 147)).alloc (.cells (secC Z5) 146)).setRow (w3.heap.size + 1) (secC (B1 (sn : Int)))) w3.heap.size (secC (M1 (sn : Int))) (w3.heap.size + 1) (by omega))
          have hC4 : Chg (fun _ => False) w3 ((((w3.drew.alloc (.cells (secC Z5) 147)).alloc (.cells (secC Z5) 146)).setRow (w3.heap.size + 1) (secC (B1 (sn : Int)))).setRow w3.heap.size (secC (M1 (sn : Int)))) := ⟨rfl, rfl, rfl, by simp [World.setRow]; omega, fun q hq _ => by
            have hq2 : q < w3.drew.heap.size := hq
            rw [setRow_other _ _ _ q (by omega), setRow_other _ _ _ q (by omega)]
            exact hb2.block q hq2⟩
          refine ready_store 14 146 (.tmp 10) (.tmp 39) (w3.heap.size + 1) (secC (B1 (sn : Int))) (secC Z5) (by kernel_rfl) rfl rfl rfl rfl rfl rfl sX.at_ (by rw [secC_size, HO3.out.bl]; exact size98) (by rw [secC_size, secC_size, HO3.out.bl]; exact Z5_len) (secC_one _) hH3 ?_
          refine ready_store 15 147 (.tmp 11) (.tmp 45) w3.heap.size (secC (M1 (sn : Int))) (secC Z5) (by kernel_rfl) rfl rfl rfl rfl rfl rfl sY3.at_ (by rw [secC_size, HO3.out.ml]; exact size99) (by rw [secC_size, secC_size, HO3.out.ml]; exact Z5_len) (secC_one _) hH4 ?_
          refine wpAnyH_done (by kernel_rfl) ?_ _
          have hXY : (w3.heap.size + 1) ≠ w3.heap.size := by omega
          have hXw : w3.heap.size ≤ (w3.heap.size + 1) ∧ w3.heap.size ≤ w3.heap.size := by omega
          clear sX sY sX3 sY3 hg3 hg4 hH1 hH2 hH3 hb1 hb2 hz1 hz2
          obtain ⟨w4, hw4⟩ : ∃ w4, w4 = (((w3.drew.alloc (.cells (secC Z5) 147)).alloc (.cells (secC Z5) 146)).setRow (w3.heap.size + 1) (secC (B1 (sn : Int)))).setRow w3.heap.size (secC (M1 (sn : Int))) := ⟨_, rfl⟩
          rw [← hw4] at sX4 sY4 hC4 hH4
          apply_assumption
          change Code.wp _ _ _ _ ((((w3.drew.alloc (.cells (secC Z5) 147)).alloc (.cells (secC Z5) 146)).setRow (w3.heap.size + 1) (secC (B1 (sn : Int)))).setRow w3.heap.size (secC (M1 (sn : Int))))
          rw [← hw4]
          clear hw4
          obtain ⟨n, hn⟩ : ∃ n, n = min (N - k) (512 - fr) := ⟨_, rfl⟩
          have hn1 : n ≤ N - k ∧ n ≤ 512 - fr ∧ 0 < n := by omega
          have hsl1 := slice98 w4 (w3.heap.size + 1) fr hfb
          have hcc : ∀ j, j < pl.length → w4.cell? ⟨pb, po + j, none⟩ = some (.int .u8 (pl.getD j 0)) := fun j hj => hC4.cell (HC3.out.cell (HCl.out (by omega) j hj) (by have := HPn.out (by omega); omega)) (fun h => h)
          have hcp := copy98 w4 (w3.heap.size + 1) fr (B1 (sn : Int)) pl sX4 pb po k N cap HNl.out hlt hfb n hn hcc
          have hNp := HNl.out
          have HSg : Hid (((pl.drop k).take n).length = n) := hide (by simp; omega)
          have HGt : Hid (∀ j, j < n → ((pl.drop k).take n).getD j 0 = pl.getD (k + j) 0) := hide (fun j hj => by rw [List.getD_eq_getElem?_getD, List.getElem?_take, if_pos hj, List.getElem?_drop, List.getD_eq_getElem?_getD])
          have hbl2 : (overS (B1 (sn : Int)) fr ((pl.drop k).take n)).length = 512 := by rw [overS_len _ _ _ (by rw [HSg.out, HO3.out.bl]; omega), HO3.out.bl]
          obtain ⟨b2, hb2⟩ : ∃ b2, b2 = overS (B1 (sn : Int)) fr ((pl.drop k).take n) := ⟨_, rfl⟩
          rw [← hb2] at hcp hbl2
          have HB2 := hide hb2
          have sX5 := sX4.row b2 hbl2
          have sY5 := sY4.same (setRow_other w4 (w3.heap.size + 1) (secC b2) w3.heap.size (by omega))
          have hC5 : Chg (fun _ => False) w3 (w4.setRow (w3.heap.size + 1) (secC b2)) := ⟨hC4.os, hC4.tape, hC4.output, by simp [World.setRow]; exact hC4.size, fun q hq _ => by
            rw [setRow_other _ _ _ q (by omega)]
            exact hC4.block q hq (fun h => h)⟩
          clear hn hcc hb2 hNp hH4 hH sX4 sY4 hC4
          go_wp2_with fail
          generalize w4.setRow (w3.heap.size + 1) (secC b2) = w5 at *
          have HX5 := hide sX5
          have HY5 := hide sY5
          have HC5 := hide hC5
          clear sX5 sY5 hC5 hcp hsl1
          go_loopw [51] (fun v wr => ∃ (i : Nat) (mi : List Int), i ≤ n ∧ v = .int .i64 (i : Int) ∧ Sec wr w3.heap.size 147 mi ∧ (∀ j, fr ≤ j → j < fr + i → mi.getD j 0 = max ((M1 (sn : Int)).getD j 0) by_) ∧ (∀ j, ¬ (fr ≤ j ∧ j < fr + i) → mi.getD j 0 = (M1 (sn : Int)).getD j 0) ∧ Chg (fun q => q = w3.heap.size) w5 wr) (fun v _ => n - (intOf v).toNat)
          case atStart => exact ⟨0, _, by omega, rfl, HY5.out, by intro j h1 h2; omega, fun j _ => rfl, Chg.refl _ _⟩
          case round =>
            obtain ⟨i, mi, hi, rfl, hy, hm1, hm2, hc⟩ := hrel
            have HMi1 := hide hm1
            have HMi2 := hide hm2
            have HYi := hide hy
            have HCi := hide hc
            by_cases hin : i < n
            · have cY := hy.cell (fr + i) (by omega)
              have fY := hy.frozen (fr + i)
              obtain ⟨x, hx⟩ : ∃ x, mi.getD (fr + i) 0 = x := ⟨_, rfl⟩
              rw [hx] at cY
              have HXx := hide hx
              clear hy hm1 hm2 hc hx
              by_cases hx2 : x < by_
              · go_wp2_with fail
                refine ⟨⟨i + 1, mi.set (fr + i) by_, by omega, by go_num, HYi.out.set _ _, fun j h1 h2 => ?_, fun j h1 => ?_, HCi.out.setCell _ _ _ (fun _ => rfl)⟩, by simp [intOf]; omega⟩
                · rw [getD_set _ _ _ _ (by rw [HYi.out.len]; omega)]
                  by_cases hj : fr + i = j
                  · rw [if_pos hj]; have e5 := HMi2.out (fr + i) (by omega); have e6 := HXx.out; rw [← hj]; omega
                  · rw [if_neg hj]; exact HMi1.out j h1 (by omega)
                · rw [getD_set _ _ _ _ (by rw [HYi.out.len]; omega), if_neg (by omega)]
                  exact HMi2.out j (by omega)
              · go_wp2_with fail
                refine ⟨⟨i + 1, mi.set (fr + i) x, by omega, by go_num, HYi.out.set _ _, fun j h1 h2 => ?_, fun j h1 => ?_, HCi.out.setCell _ _ _ (fun _ => rfl)⟩, by simp [intOf]; omega⟩
                · rw [getD_set _ _ _ _ (by rw [HYi.out.len]; omega)]
                  by_cases hj : fr + i = j
                  · rw [if_pos hj]; have e5 := HMi2.out (fr + i) (by omega); have e6 := HXx.out; rw [← hj]; omega
                  · rw [if_neg hj]; exact HMi1.out j h1 (by omega)
                · rw [getD_set _ _ _ _ (by rw [HYi.out.len]; omega), if_neg (by omega)]
                  exact HMi2.out j (by omega)
            · have hin2 : i = n := by omega
              subst hin2
              have HX6 : Hid (Sec wr.drew (w3.heap.size + 1) 146 b2) := hide (HX5.out.same (hc.block _ HX5.out.lt (by omega)))
              have HY6 : Hid (Sec wr.drew w3.heap.size 147 mi) := hide (hy.same rfl)
              have HC6 : Hid (Chg (fun _ => False) w3 wr.drew) := hide ⟨hc.os.trans HC5.out.os, hc.tape.trans HC5.out.tape, hc.output.trans HC5.out.output, Nat.le_trans HC5.out.size hc.size, fun q hq _ => (hc.block q (Nat.lt_of_lt_of_le hq HC5.out.size) (by omega)).trans (HC5.out.block q hq (fun h => h))⟩
              have HM1 : Hid (MapR wr.drew r1 (sec Z5) (fun s => sec (B1 s))) := hide (by
                rcases HO3.out.b with h | ⟨r, e, h⟩
                · cases h.1
                · cases e
                  exact h.same (HC6.out.block _ hr1l (fun h => h)))
              have HM2 : Hid (MapR wr.drew r2 (sec Z5) (fun s => sec (M1 s))) := hide (by
                rcases HO3.out.m with h | ⟨r, e, h⟩
                · cases h.1
                · cases e
                  exact h.same (HC6.out.block _ hr2l (fun h => h)))
              have hlast : decide (((i : Nat) : Int) < ((i : Nat) : Int)) = false := by simp
              clear hy hm1 hm2 hc
              go_wp2_with fail
              have hyw : wr.drew.heap.size = wr.heap.size := rfl
              have hH5 : (fun u => u.cell? ⟨T, 1, none⟩ = some (.map (some r1)) ∧ u.cell? ⟨T, 2, none⟩ = some (.map (some r2)) ∧ Sec u (w3.heap.size + 1) 146 b2 ∧ Sec u w3.heap.size 147 mi) wr.drew := ⟨HC6.out.cell HT3.out.cell.2.1 (fun h => h), HC6.out.cell HT3.out.cell.2.2.1 (fun h => h), HX6.out, HY6.out⟩
              refine wp_region_held_drew (S := (fun u => u.cell? ⟨T, 1, none⟩ = some (.map (some r1)) ∧ u.cell? ⟨T, 2, none⟩ = some (.map (some r2)) ∧ Sec u (w3.heap.size + 1) 146 b2 ∧ Sec u w3.heap.size 147 mi)) (by kernel_rfl) hH5 (fun _ => ?_)
              refine any_take 0 (some 66) (.pointer (some ⟨T, 0, none⟩)) rfl rfl (by kernel_rfl) (by kernel_rfl) (by kernel_rfl) (fun _ _ _ h => h) (by rfl) hH5 ?_ ?_
              · intro u hSu
                obtain ⟨q0, q1, q2, q3⟩ := hSu
                go_simp
              simp only [Act.put, List.setIfInBounds_toArray, List.set_cons_zero, List.set_cons_succ]
              refine any_take 1 (some 67) (.pointer (some ⟨T, 0, none⟩)) rfl rfl (by kernel_rfl) (by kernel_rfl) (by kernel_rfl) (fun _ _ _ h => h) (by rfl) hH5 ?_ ?_
              · intro u hSu
                obtain ⟨q0, q1, q2, q3⟩ := hSu
                go_simp
              simp only [Act.put, List.setIfInBounds_toArray, List.set_cons_zero, List.set_cons_succ]
              refine any_take 2 (some 68) (.pointer (some ⟨T, 1, none⟩)) rfl rfl (by kernel_rfl) (by kernel_rfl) (by kernel_rfl) (fun _ _ _ h => h) (by rfl) hH5 ?_ ?_
              · intro u hSu
                obtain ⟨q0, q1, q2, q3⟩ := hSu
                go_simp
              simp only [Act.put, List.setIfInBounds_toArray, List.set_cons_zero, List.set_cons_succ]
              refine any_take 3 (some 69) (.map (some r1)) rfl rfl (by kernel_rfl) (by kernel_rfl) (by kernel_rfl) (fun _ _ _ h => h) (by rfl) hH5 ?_ ?_
              · intro u hSu
                obtain ⟨q0, q1, q2, q3⟩ := hSu
                go_simp
              simp only [Act.put, List.setIfInBounds_toArray, List.set_cons_zero, List.set_cons_succ]
              refine any_take 4 (some 70) (.int .i64 (sn : Int)) rfl rfl (by kernel_rfl) (by kernel_rfl) (by kernel_rfl) (fun _ _ _ h => h) (by rfl) hH5 ?_ ?_
              · intro u hSu
                obtain ⟨q0, q1, q2, q3⟩ := hSu
                go_simp
              simp only [Act.put, List.setIfInBounds_toArray, List.set_cons_zero, List.set_cons_succ]
              refine any_take 5 (some 71) (.pointer (some ⟨T, 0, none⟩)) rfl rfl (by kernel_rfl) (by kernel_rfl) (by kernel_rfl) (fun _ _ _ h => h) (by rfl) hH5 ?_ ?_
              · intro u hSu
                obtain ⟨q0, q1, q2, q3⟩ := hSu
                go_simp
              simp only [Act.put, List.setIfInBounds_toArray, List.set_cons_zero, List.set_cons_succ]
              refine any_take 6 (some 72) (.pointer (some ⟨T, 0, none⟩)) rfl rfl (by kernel_rfl) (by kernel_rfl) (by kernel_rfl) (fun _ _ _ h => h) (by rfl) hH5 ?_ ?_
              · intro u hSu
                obtain ⟨q0, q1, q2, q3⟩ := hSu
                go_simp
              simp only [Act.put, List.setIfInBounds_toArray, List.set_cons_zero, List.set_cons_succ]
              refine any_take 7 (some 73) (.pointer (some ⟨T, 2, none⟩)) rfl rfl (by kernel_rfl) (by kernel_rfl) (by kernel_rfl) (fun _ _ _ h => h) (by rfl) hH5 ?_ ?_
              · intro u hSu
                obtain ⟨q0, q1, q2, q3⟩ := hSu
                go_simp
              simp only [Act.put, List.setIfInBounds_toArray, List.set_cons_zero, List.set_cons_succ]
              refine any_take 8 (some 74) (.map (some r2)) rfl rfl (by kernel_rfl) (by kernel_rfl) (by kernel_rfl) (fun _ _ _ h => h) (by rfl) hH5 ?_ ?_
              · intro u hSu
                obtain ⟨q0, q1, q2, q3⟩ := hSu
                go_simp
              simp only [Act.put, List.setIfInBounds_toArray, List.set_cons_zero, List.set_cons_succ]
              refine any_take 9 (some 75) (.int .i64 (sn : Int)) rfl rfl (by kernel_rfl) (by kernel_rfl) (by kernel_rfl) (fun _ _ _ h => h) (by rfl) hH5 ?_ ?_
              · intro u hSu
                obtain ⟨q0, q1, q2, q3⟩ := hSu
                go_simp
              simp only [Act.put, List.setIfInBounds_toArray, List.set_cons_zero, List.set_cons_succ]
              refine any_take 10 (some 76) (sec b2) rfl rfl (by kernel_rfl) (by kernel_rfl) (by kernel_rfl) (fun _ _ _ h => h) (by rfl) hH5 ?_ ?_
              · intro u hSu
                obtain ⟨q0, q1, q2, q3⟩ := hSu
                have hlk := load98 q2
                exact exec_load rfl rfl hlk
              simp only [Act.put, List.setIfInBounds_toArray, List.set_cons_zero, List.set_cons_succ]
              refine any_take 11 (some 77) (sec mi) rfl rfl (by kernel_rfl) (by kernel_rfl) (by kernel_rfl) (fun _ _ _ h => h) (by rfl) hH5 ?_ ?_
              · intro u hSu
                obtain ⟨q0, q1, q2, q3⟩ := hSu
                have hlk := load99 q3
                exact exec_load rfl rfl hlk
              simp only [Act.put, List.setIfInBounds_toArray, List.set_cons_zero, List.set_cons_succ]
              obtain ⟨old1, st1, w6, hrun1, hmid1, hg6⟩ := entry_run (P := Tryz.prog) (w := wr.drew) Tryz.underlying88 key81 (zero98 _) HM1.out (sn : Int)
              have hS6 : (fun u => u.cell? ⟨T, 1, none⟩ = some (.map (some r1)) ∧ u.cell? ⟨T, 2, none⟩ = some (.map (some r2)) ∧ Sec u (w3.heap.size + 1) 146 b2 ∧ Sec u w3.heap.size 147 mi) w6 := ⟨hg6.cell hH5.1 (by simp; omega), hg6.cell hH5.2.1 (by simp; omega), hH5.2.2.1.same (hg6.block _ hH5.2.2.1.lt (by simp; omega)), hH5.2.2.2.same (hg6.block _ hH5.2.2.2.lt (by simp; omega))⟩
              refine ready_val 12 (some 78) (.tuple #[old1, goInt (st1 : Int)]) w6 (by kernel_rfl) rfl rfl rfl (exec_entry rfl rfl rfl hrun1) hS6 ?_
              simp only [Act.put, List.setIfInBounds_toArray, List.set_cons_zero, List.set_cons_succ]
              refine ready_val 13 (some 79) (goInt (st1 : Int)) w6 (by kernel_rfl) rfl rfl rfl (by go_simp) hS6 ?_
              simp only [Act.put, List.setIfInBounds_toArray, List.set_cons_zero, List.set_cons_succ]
              obtain ⟨w7, hrun2, hmap1, hg7⟩ := store_run (P := Tryz.prog) (mty := 88) hmid1 (sec b2)
              have hS7 : (fun u => u.cell? ⟨T, 1, none⟩ = some (.map (some r1)) ∧ u.cell? ⟨T, 2, none⟩ = some (.map (some r2)) ∧ Sec u (w3.heap.size + 1) 146 b2 ∧ Sec u w3.heap.size 147 mi) w7 := ⟨hg7.cell hS6.1 (by simp; omega), hg7.cell hS6.2.1 (by simp; omega), hS6.2.2.1.same (hg7.block _ hS6.2.2.1.lt (by simp; omega)), hS6.2.2.2.same (hg7.block _ hS6.2.2.2.lt (by simp; omega))⟩
              refine ready_skip 14 w7 (by kernel_rfl) rfl rfl rfl (exec_entryStore rfl rfl rfl rfl hrun2) hS7 ?_
              have hM27 : MapR w7 r2 (sec Z5) (fun s => sec (M1 s)) := HM2.out.same ((hg7.block r2 (Nat.lt_of_lt_of_le HM2.out.lt hg6.size) (by simp; omega)).trans (hg6.block r2 HM2.out.lt (by simp; omega)))
              obtain ⟨old2, st2, w8, hrun3, hmid2, hg8⟩ := entry_run (P := Tryz.prog) (w := w7) Tryz.underlying89 key81 (zero99 _) hM27 (sn : Int)
              have hS8 : (fun u => u.cell? ⟨T, 1, none⟩ = some (.map (some r1)) ∧ u.cell? ⟨T, 2, none⟩ = some (.map (some r2)) ∧ Sec u (w3.heap.size + 1) 146 b2 ∧ Sec u w3.heap.size 147 mi) w8 := ⟨hg8.cell hS7.1 (by simp; omega), hg8.cell hS7.2.1 (by simp; omega), hS7.2.2.1.same (hg8.block _ hS7.2.2.1.lt (by simp; omega)), hS7.2.2.2.same (hg8.block _ hS7.2.2.2.lt (by simp; omega))⟩
              refine ready_val 15 (some 80) (.tuple #[old2, goInt (st2 : Int)]) w8 (by kernel_rfl) rfl rfl rfl (exec_entry rfl rfl rfl hrun3) hS8 ?_
              simp only [Act.put, List.setIfInBounds_toArray, List.set_cons_zero, List.set_cons_succ]
              refine ready_val 16 (some 81) (goInt (st2 : Int)) w8 (by kernel_rfl) rfl rfl rfl (by go_simp) hS8 ?_
              simp only [Act.put, List.setIfInBounds_toArray, List.set_cons_zero, List.set_cons_succ]
              obtain ⟨w9, hrun4, hmap2, hg9⟩ := store_run (P := Tryz.prog) (mty := 89) hmid2 (sec mi)
              have hS9 : (fun u => u.cell? ⟨T, 1, none⟩ = some (.map (some r1)) ∧ u.cell? ⟨T, 2, none⟩ = some (.map (some r2)) ∧ Sec u (w3.heap.size + 1) 146 b2 ∧ Sec u w3.heap.size 147 mi) w9 := ⟨hg9.cell hS8.1 (by simp; omega), hg9.cell hS8.2.1 (by simp; omega), hS8.2.2.1.same (hg9.block _ hS8.2.2.1.lt (by simp; omega)), hS8.2.2.2.same (hg9.block _ hS8.2.2.2.lt (by simp; omega))⟩
              refine ready_skip 17 w9 (by kernel_rfl) rfl rfl rfl (exec_entryStore rfl rfl rfl rfl hrun4) hS9 ?_
              refine wpAnyH_done (by kernel_rfl) ?_ _
              have hC9 : Chg (fun q => q = r1 ∨ q = r2) w3 w9 := by
                have g6 : Chg (fun q => q = r1 ∨ q = r2) wr.drew w6 := (Chg.of_grown hg6).mono (fun i _ e => by simp at e; exact Or.inl e)
                have g7 : Chg (fun q => q = r1 ∨ q = r2) w6 w7 := (Chg.of_grown hg7).mono (fun i _ e => by simp at e; exact Or.inl e)
                have g8 : Chg (fun q => q = r1 ∨ q = r2) w7 w8 := (Chg.of_grown hg8).mono (fun i _ e => by simp at e; exact Or.inr e)
                have g9 : Chg (fun q => q = r1 ∨ q = r2) w8 w9 := (Chg.of_grown hg9).mono (fun i _ e => by simp at e; exact Or.inr e)
                exact ((((HC6.out.mono (fun _ _ h => h.elim)).trans g6).trans g7).trans g8).trans g9
              have hO9 : Ovr w9 (.map (some r1)) (.map (some r2)) (fun k => if k = (sn : Int) then b2 else B1 k) (fun k => if k = (sn : Int) then mi else M1 k) := by
                have hr1w : r1 < w7.heap.size := hmap1.lt
                refine ⟨Or.inr ⟨r1, rfl, ?_⟩, Or.inr ⟨r2, rfl, ?_⟩, fun s => ?_, fun s => ?_⟩
                · rw [upd_sec] at hmap1
                  exact hmap1.same ((hg9.block r1 (Nat.lt_of_lt_of_le hr1w hg8.size) (by simp; omega)).trans (hg8.block r1 hr1w (by simp; omega)))
                · rw [upd_sec] at hmap2
                  exact hmap2
                · show (if s = (sn : Int) then b2 else B1 s).length = 512
                  split
                  · exact hS9.2.2.1.len
                  · exact HO3.out.bl s
                · show (if s = (sn : Int) then mi else M1 s).length = 512
                  split
                  · exact hS9.2.2.2.len
                  · exact HO3.out.ml s
              have HC9 := hide hC9
              have HO9 := hide hO9
              have HT9 : Hid (Txs w9 T J (.map (some r1)) (.map (some r2)) va d) := hide ((hC9.block T hTw (by omega)).trans HT3.out)
              clear hC9 hO9 hS6 hS7 hS8 hS9 hH5 hrun1 hrun2 hrun3 hrun4 hmid1 hmid2 hmap1 hmap2 hM27 hg6 hg7 hg8 hg9
              apply_assumption
              by_cases hcp9 : cap - k = i
              · go_wp2_with fail
                go_quiet (fail)
                go_wp2_with fail
                have hp9 := HP.out
                refine ⟨⟨k + i, _, _, _, by omega, by congr 1; omega, by congr 1 <;> first | omega | rfl | (congr 2; omega), fun h => by omega, HT9.out.drewN _, HO9.out.chg (Chg.refl (fun _ => False) w9).drewN' (fun _ _ h => h), ?_, (HC3.out.trans HC9.out).drewN _⟩, by simp [intOf]; omega⟩
                have hsp : sn * 512 + fr = p := by have := HFr.out; have := HSn.out; omega
                rw [HB2.out]
                exact HV3.out.step (HO3.out.bl _) HSg.out (by omega) hby HMi1.out HMi2.out hsb HP.out hsp HGt.out
              · go_wp2_with fail
                go_quiet (fail)
                go_wp2_with fail
                have hp9 := HP.out
                refine ⟨⟨k + i, _, _, _, by omega, by congr 1; omega, by congr 1 <;> first | omega | rfl | (congr 2; omega), fun _ => rfl, HT9.out.drewN _, HO9.out.chg (Chg.refl (fun _ => False) w9).drewN' (fun _ _ h => h), ?_, (HC3.out.trans HC9.out).drewN _⟩, by simp [intOf]; omega⟩
                have hsp : sn * 512 + fr = p := by have := HFr.out; have := HSn.out; omega
                rw [HB2.out]
                exact HV3.out.step (HO3.out.bl _) HSg.out (by omega) hby HMi1.out HMi2.out hsb HP.out hsp HGt.out
      · obtain rfl : k = N := by omega
        have hd0 : decide ((0 : Int) < ((k - k : Nat) : Int)) = false := by simp
        go_wp2_with fail
        go_end0
        exact ⟨rfl, ⟨r1, r2, B1, M1, htx, hov, hr12, HRr.out, hval⟩, HCw.out.andThen hchg (fun q hq e => HX.out q e hq)⟩
  · obtain ⟨c0, c1, c2, c3, c4⟩ := ht.cell
    have HT1 := hide ht
    have HO1 := hide ho
    obtain ⟨w1, hw1⟩ : ∃ w1, w1 = w := ⟨_, rfl⟩
    have HCw : Hid (Chg (fun k => k = T ∨ (Value.map (some r1)) = .map (some k) ∨ (Value.map (some r2)) = .map (some k)) w1 w1) := hide (Chg.refl _ _)
    have HRr : Hid (∀ r, r = r1 ∨ r = r2 → ((Value.map (some r1)) = .map (some r) ∨ (Value.map (some r2)) = .map (some r)) ∨ w1.heap.size ≤ r) := hide (fun r hr => Or.inl (by rcases hr with rfl | rfl <;> simp))
    have HX : Hid (∀ q, (q = r1 ∨ q = r2) → q < w1.heap.size → (q = T ∨ (Value.map (some r1)) = .map (some q) ∨ (Value.map (some r2)) = .map (some q))) := hide (fun q hq _ => by rcases hq with rfl | rfl <;> simp)
    have HCl : Hid (0 < N → ∀ j, j < pl.length → w1.cell? ⟨pb, po + j, none⟩ = some (.int .u8 (pl.getD j 0))) := hide (fun h0 j hj => by rw [hw1]; exact (HPo.out h0).2.2.2.2 j hj)
    have HPn : Hid (0 < N → pb < w1.heap.size ∧ pb ≠ r1 ∧ pb ≠ r2) := hide (fun h0 => ⟨by rw [hw1]; exact (HPo.out h0).2.1, (HPo.out h0).2.2.2.1 r1 (Or.inl rfl), (HPo.out h0).2.2.2.1 r2 (Or.inr rfl)⟩)
    have hnil : (binOp .eql 88 (.map (some r1)) (.map none)).run Tryz.prog w1 = .ok (.bool false) w1 := run_eql_map_nil w1 88 _ _ (some r1) Tryz.underlying88
    subst hw1
    clear ht ho

    go_enter Tryz.func64, Tryz.ntmps64
    go_wp2_with fail
    go_loopw [1, 2] (fun v1 v2 wr => ∃ (k : Nat) (ad : Option Addr) (B1 M1 : Int → List Int), k ≤ N ∧ v1 = .int .i64 ((at_ + k : Nat) : Int) ∧ v2 = .slice ad (N - k) (cap - k) ∧ (k < N → ad = some ⟨pb, po + k, none⟩) ∧ Txs wr T J (.map (some r1)) (.map (some r2)) va d ∧ Ovr wr (.map (some r1)) (.map (some r2)) B1 M1 ∧ Laid B M B1 M1 at_ k pl by_ ∧ Chg (fun q => q = r1 ∨ q = r2) w1 wr) (fun v1 _ _ => at_ + N - (intOf v1).toNat)
    case atStart => exact ⟨0, a, B, M, by omega, rfl, rfl, fun h => (HPo.out h).1, HT1.out, HO1.out, Laid.start _ _ _ _ _, Chg.refl _ _⟩
    case round =>
      obtain ⟨k, ad, B1, M1, hk, rfl, rfl, had, htx, hov, hval, hchg⟩ := hrel
      by_cases hlt : k < N
      · obtain rfl := had hlt
        obtain ⟨w3, hw3⟩ : ∃ w3, w3 = wr := ⟨_, rfl⟩
        subst hw3
        have hd0 : decide ((0 : Int) < ((N - k : Nat) : Int)) = true := by simp; omega
        have HT3 := hide htx
        have HO3 := hide hov
        have HV3 := hide hval
        have HC3 := hide hchg
        obtain ⟨p, hp⟩ : ∃ p, p = at_ + k := ⟨_, rfl⟩
        rw [← hp]
        have hpb : p < 4194304 := by omega
        have HP := hide hp
        clear hp
        obtain ⟨fr, hfr⟩ : ∃ fr, fr = p % 512 := ⟨_, rfl⟩
        obtain ⟨sn, hsn⟩ : ∃ sn, sn = p / 512 := ⟨_, rfl⟩
        have hr1 : ((p : Nat) : Int).tmod 512 = (fr : Int) := by rw [Int.tmod_eq_emod_of_nonneg (by omega)]; omega
        have hr2 : ((p : Nat) : Int).tdiv 512 = (sn : Int) := by rw [Int.tdiv_eq_ediv_of_nonneg (by omega)]; omega
        have hr3 : ((p : Nat) : Int) % 512 = (fr : Int) := by omega
        have hr4 : ((p : Nat) : Int) / 512 = (sn : Int) := by omega
        have hfb : fr < 512 := by omega
        have hsb : sn < 8192 := by omega
        have HFr := hide hfr
        have HSn := hide hsn
        have hr1l : r1 < w3.heap.size := (hov.b.lt r1 rfl).1
        have hr2l : r2 < w3.heap.size := (hov.m.lt r2 rfl).1
        have hTw : T < w3.heap.size := htx.lt
        have hTr : T ≠ r1 ∧ T ≠ r2 := by
          obtain ⟨_, es1, c1, e1⟩ := hov.b.lt r1 rfl
          obtain ⟨_, es2, c2, e2⟩ := hov.m.lt r2 rfl
          have e3 : w3.heap[T]? = _ := htx
          refine ⟨fun e => ?_, fun e => ?_⟩
          · subst e
            rw [e1] at e3
            cases e3
          · subst e
            rw [e2] at e3
            cases e3
        clear hfr hsn htx hov hval hchg had
        go_wp2_with fail
        have hH : (fun u => u.cell? ⟨T, 1, none⟩ = some (.map (some r1)) ∧ u.cell? ⟨T, 2, none⟩ = some (.map (some r2)) ∧ Ovr u (.map (some r1)) (.map (some r2)) B1 M1) w3.drew := ⟨HT3.out.cell.2.1, HT3.out.cell.2.2.1, HO3.out.chg (Chg.refl (fun _ => False) w3).drew (fun _ _ h => h)⟩
        refine wp_region_held_drew (S := (fun u => u.cell? ⟨T, 1, none⟩ = some (.map (some r1)) ∧ u.cell? ⟨T, 2, none⟩ = some (.map (some r2)) ∧ Ovr u (.map (some r1)) (.map (some r2)) B1 M1)) (by kernel_rfl) hH (fun _ => ?_)
        refine any_take 0 (some 34) (.pointer (some ⟨T, 0, none⟩)) rfl rfl (by kernel_rfl) (by kernel_rfl) (by kernel_rfl) (fun _ _ _ h => h) (by rfl) hH ?_ ?_
        · intro u hSu
          obtain ⟨q0, q1, q2⟩ := hSu
          go_simp
        simp only [Act.put, List.setIfInBounds_toArray, List.set_cons_zero, List.set_cons_succ]
        refine any_take 1 (some 35) (.pointer (some ⟨T, 0, none⟩)) rfl rfl (by kernel_rfl) (by kernel_rfl) (by kernel_rfl) (fun _ _ _ h => h) (by rfl) hH ?_ ?_
        · intro u hSu
          obtain ⟨q0, q1, q2⟩ := hSu
          go_simp
        simp only [Act.put, List.setIfInBounds_toArray, List.set_cons_zero, List.set_cons_succ]
        refine any_take 2 (some 36) (.pointer (some ⟨T, 1, none⟩)) rfl rfl (by kernel_rfl) (by kernel_rfl) (by kernel_rfl) (fun _ _ _ h => h) (by rfl) hH ?_ ?_
        · intro u hSu
          obtain ⟨q0, q1, q2⟩ := hSu
          go_simp
        simp only [Act.put, List.setIfInBounds_toArray, List.set_cons_zero, List.set_cons_succ]
        refine any_take 3 (some 37) (.map (some r1)) rfl rfl (by kernel_rfl) (by kernel_rfl) (by kernel_rfl) (fun _ _ _ h => h) (by rfl) hH ?_ ?_
        · intro u hSu
          obtain ⟨q0, q1, q2⟩ := hSu
          go_simp
        simp only [Act.put, List.setIfInBounds_toArray, List.set_cons_zero, List.set_cons_succ]
        refine any_take 4 (some 38) (.int .i64 (sn : Int)) rfl rfl (by kernel_rfl) (by kernel_rfl) (by kernel_rfl) (fun _ _ _ h => h) (by rfl) hH ?_ ?_
        · intro u hSu
          obtain ⟨q0, q1, q2⟩ := hSu
          go_simp
        simp only [Act.put, List.setIfInBounds_toArray, List.set_cons_zero, List.set_cons_succ]
        refine any_take 5 (some 39) (sec (B1 (sn : Int))) rfl rfl (by kernel_rfl) (by kernel_rfl) (by kernel_rfl) (fun _ _ _ h => h) (by rfl) hH ?_ ?_
        · intro u hSu
          obtain ⟨q0, q1, q2⟩ := hSu
          have hlk := look98 q2 (sn : Int)
          go_simp
        simp only [Act.put, List.setIfInBounds_toArray, List.set_cons_zero, List.set_cons_succ]
        refine any_take 6 (some 40) (.pointer (some ⟨T, 0, none⟩)) rfl rfl (by kernel_rfl) (by kernel_rfl) (by kernel_rfl) (fun _ _ _ h => h) (by rfl) hH ?_ ?_
        · intro u hSu
          obtain ⟨q0, q1, q2⟩ := hSu
          go_simp
        simp only [Act.put, List.setIfInBounds_toArray, List.set_cons_zero, List.set_cons_succ]
        refine any_take 7 (some 41) (.pointer (some ⟨T, 0, none⟩)) rfl rfl (by kernel_rfl) (by kernel_rfl) (by kernel_rfl) (fun _ _ _ h => h) (by rfl) hH ?_ ?_
        · intro u hSu
          obtain ⟨q0, q1, q2⟩ := hSu
          go_simp
        simp only [Act.put, List.setIfInBounds_toArray, List.set_cons_zero, List.set_cons_succ]
        refine any_take 8 (some 42) (.pointer (some ⟨T, 2, none⟩)) rfl rfl (by kernel_rfl) (by kernel_rfl) (by kernel_rfl) (fun _ _ _ h => h) (by rfl) hH ?_ ?_
        · intro u hSu
          obtain ⟨q0, q1, q2⟩ := hSu
          go_simp
        simp only [Act.put, List.setIfInBounds_toArray, List.set_cons_zero, List.set_cons_succ]
        refine any_take 9 (some 43) (.map (some r2)) rfl rfl (by kernel_rfl) (by kernel_rfl) (by kernel_rfl) (fun _ _ _ h => h) (by rfl) hH ?_ ?_
        · intro u hSu
          obtain ⟨q0, q1, q2⟩ := hSu
          go_simp
        simp only [Act.put, List.setIfInBounds_toArray, List.set_cons_zero, List.set_cons_succ]
        refine any_take 10 (some 44) (.int .i64 (sn : Int)) rfl rfl (by kernel_rfl) (by kernel_rfl) (by kernel_rfl) (fun _ _ _ h => h) (by rfl) hH ?_ ?_
        · intro u hSu
          obtain ⟨q0, q1, q2⟩ := hSu
          go_simp
        simp only [Act.put, List.setIfInBounds_toArray, List.set_cons_zero, List.set_cons_succ]
        refine any_take 11 (some 45) (sec (M1 (sn : Int))) rfl rfl (by kernel_rfl) (by kernel_rfl) (by kernel_rfl) (fun _ _ _ h => h) (by rfl) hH ?_ ?_
        · intro u hSu
          obtain ⟨q0, q1, q2⟩ := hSu
          have hlk := look99 q2 (sn : Int)
          go_simp
        simp only [Act.put, List.setIfInBounds_toArray, List.set_cons_zero, List.set_cons_succ]
        refine wpAnyH_ready (rs := [12, 13]) (by kernel_rfl) (by simp) ?_
        refine AllReadyH.cons (i := 12) rfl (fun K hK => ?_) (AllReadyH.cons (i := 13) rfl (fun K hK => ?_) AllReadyH.nil)
        · have hz1 : (zeroValue 146).run Tryz.prog w3.drew = .ok (.agg (secC Z5)) w3.drew := zero98 _
          have hz2 : (zeroValue 147).run Tryz.prog (w3.alloc (.cells (secC Z5) 146)).drew = .ok (.agg (secC Z5)) (w3.alloc (.cells (secC Z5) 146)).drew := zero99 _
          have hb1 : Below w3.drew.heap.size w3.drew (w3.drew.alloc (.cells (secC Z5) 146)) := (Below.refl _ _).alloc (Nat.le_refl _) _
          have hb2 : Below w3.drew.heap.size w3.drew ((w3.drew.alloc (.cells (secC Z5) 146)).alloc (.cells (secC Z5) 147)) := hb1.alloc (by simp) _
          have hTl : T < w3.drew.heap.size := hTw
          have hH1 : (fun u => u.cell? ⟨T, 1, none⟩ = some (.map (some r1)) ∧ u.cell? ⟨T, 2, none⟩ = some (.map (some r2)) ∧ Ovr u (.map (some r1)) (.map (some r2)) B1 M1) (w3.drew.alloc (.cells (secC Z5) 146)) := ⟨(hb1.cell (p := ⟨T, 1, none⟩) hTl).trans hH.1, (hb1.cell (p := ⟨T, 2, none⟩) hTl).trans hH.2.1, hH.2.2.chg (Chg.of_below (X := fun _ => False) hb1) (fun _ _ h => h)⟩
          have hH2 : (fun u => u.cell? ⟨T, 1, none⟩ = some (.map (some r1)) ∧ u.cell? ⟨T, 2, none⟩ = some (.map (some r2)) ∧ Ovr u (.map (some r1)) (.map (some r2)) B1 M1) ((w3.drew.alloc (.cells (secC Z5) 146)).alloc (.cells (secC Z5) 147)) := ⟨(hb2.cell (p := ⟨T, 1, none⟩) hTl).trans hH.1, (hb2.cell (p := ⟨T, 2, none⟩) hTl).trans hH.2.1, hH.2.2.chg (Chg.of_below (X := fun _ => False) hb2) (fun _ _ h => h)⟩
          go_simp
          refine hK.out _ _ hH1 (fun _ => ?_)
          clear hK K
          try simp only [Act.put, List.setIfInBounds_toArray, List.set_cons_zero, List.set_cons_succ]
          refine wpAnyH_ready (rs := [13]) (by kernel_rfl) (by simp) ?_
          refine AllReadyH.cons (i := 13) rfl (fun K hK => ?_) AllReadyH.nil
          go_simp
          refine hK.out _ _ hH2 (fun _ => ?_)
          clear hK K
          try simp only [Act.put, List.setIfInBounds_toArray, List.set_cons_zero, List.set_cons_succ]
          have hsd : w3.drew.heap.size = w3.heap.size := rfl
          have hsz1 : (w3.alloc (.cells (secC Z5) 146)).drew.heap.size = w3.heap.size + 1 := by
            show (w3.alloc (.cells (secC Z5) 146)).heap.size = _
            simp
          try rw [hsz1]
          have sX : Sec ((w3.drew.alloc (.cells (secC Z5) 146)).alloc (.cells (secC Z5) 147)) w3.heap.size 146 Z5 := (Sec.new w3.drew _ Z5 Z5_len).same (Below.heap_alloc _ _ _ (by simp))
          have sY : Sec ((w3.drew.alloc (.cells (secC Z5) 146)).alloc (.cells (secC Z5) 147)) (w3.heap.size + 1) 147 Z5 := ⟨heap_alloc2_new w3.drew _ _, Z5_len⟩
          have hg3 := Chg.of_grown (grown_setRow ((w3.drew.alloc (.cells (secC Z5) 146)).alloc (.cells (secC Z5) 147)) w3.heap.size (secC (B1 (sn : Int))))
          have hH3 : (fun u => u.cell? ⟨T, 1, none⟩ = some (.map (some r1)) ∧ u.cell? ⟨T, 2, none⟩ = some (.map (some r2)) ∧ Ovr u (.map (some r1)) (.map (some r2)) B1 M1) (((w3.drew.alloc (.cells (secC Z5) 146)).alloc (.cells (secC Z5) 147)).setRow w3.heap.size (secC (B1 (sn : Int)))) := by
            refine ⟨hg3.cell hH2.1 (by simp; omega), hg3.cell hH2.2.1 (by simp; omega), hH2.2.2.chg hg3 (fun r hr e => ?_)⟩
            simp at e hr
            omega
          have sX3 := sX.row (B1 (sn : Int)) (HO3.out.bl _)
          have sY3 := sY.same (setRow_other ((w3.drew.alloc (.cells (secC Z5) 146)).alloc (.cells (secC Z5) 147)) w3.heap.size (secC (B1 (sn : Int))) (w3.heap.size + 1) (by omega))
          have hg4 := Chg.of_grown (grown_setRow (((w3.drew.alloc (.cells (secC Z5) 146)).alloc (.cells (secC Z5) 147)).setRow w3.heap.size (secC (B1 (sn : Int)))) (w3.heap.size + 1) (secC (M1 (sn : Int))))
          have hH4 : (fun u => u.cell? ⟨T, 1, none⟩ = some (.map (some r1)) ∧ u.cell? ⟨T, 2, none⟩ = some (.map (some r2)) ∧ Ovr u (.map (some r1)) (.map (some r2)) B1 M1) ((((w3.drew.alloc (.cells (secC Z5) 146)).alloc (.cells (secC Z5) 147)).setRow w3.heap.size (secC (B1 (sn : Int)))).setRow (w3.heap.size + 1) (secC (M1 (sn : Int)))) := by
            refine ⟨hg4.cell hH3.1 (by simp; omega), hg4.cell hH3.2.1 (by simp; omega), hH3.2.2.chg hg4 (fun r hr e => ?_)⟩
            simp at e hr
            omega
          have sY4 := sY3.row (M1 (sn : Int)) (HO3.out.ml _)
          have sX4 := sX3.same (setRow_other (((w3.drew.alloc (.cells (secC Z5) 146)).alloc (.cells (secC Z5) 147)).setRow w3.heap.size (secC (B1 (sn : Int)))) (w3.heap.size + 1) (secC (M1 (sn : Int))) w3.heap.size (by omega))
          have hC4 : Chg (fun _ => False) w3 ((((w3.drew.alloc (.cells (secC Z5) 146)).alloc (.cells (secC Z5) 147)).setRow w3.heap.size (secC (B1 (sn : Int)))).setRow (w3.heap.size + 1) (secC (M1 (sn : Int)))) := ⟨rfl, rfl, rfl, by simp [World.setRow]; omega, fun q hq _ => by
            have hq2 : q < w3.drew.heap.size := hq
            rw [setRow_other _ _ _ q (by omega), setRow_other _ _ _ q (by omega)]
            exact hb2.block q hq2⟩
          refine ready_store 14 146 (.tmp 10) (.tmp 39) w3.heap.size (secC (B1 (sn : Int))) (secC Z5) (by kernel_rfl) rfl rfl rfl rfl rfl rfl sX.at_ (by rw [secC_size, HO3.out.bl]; exact size98) (by rw [secC_size, secC_size, HO3.out.bl]; exact Z5_len) (secC_one _) hH3 ?_
          refine ready_store 15 147 (.tmp 11) (.tmp 45) (w3.heap.size + 1) (secC (M1 (sn : Int))) (secC Z5) (by kernel_rfl) rfl rfl rfl rfl rfl rfl sY3.at_ (by rw [secC_size, HO3.out.ml]; exact size99) (by rw [secC_size, secC_size, HO3.out.ml]; exact Z5_len) (secC_one _) hH4 ?_
          refine wpAnyH_done (by kernel_rfl) ?_ _
          have hXY : w3.heap.size ≠ (w3.heap.size + 1) := by omega
          have hXw : w3.heap.size ≤ w3.heap.size ∧ w3.heap.size ≤ (w3.heap.size + 1) := by omega
          clear sX sY sX3 sY3 hg3 hg4 hH1 hH2 hH3 hb1 hb2 hz1 hz2
          obtain ⟨w4, hw4⟩ : ∃ w4, w4 = (((w3.drew.alloc (.cells (secC Z5) 146)).alloc (.cells (secC Z5) 147)).setRow w3.heap.size (secC (B1 (sn : Int)))).setRow (w3.heap.size + 1) (secC (M1 (sn : Int))) := ⟨_, rfl⟩
          rw [← hw4] at sX4 sY4 hC4 hH4
          apply_assumption
          change Code.wp _ _ _ _ ((((w3.drew.alloc (.cells (secC Z5) 146)).alloc (.cells (secC Z5) 147)).setRow w3.heap.size (secC (B1 (sn : Int)))).setRow (w3.heap.size + 1) (secC (M1 (sn : Int))))
          rw [← hw4]
          clear hw4
          obtain ⟨n, hn⟩ : ∃ n, n = min (N - k) (512 - fr) := ⟨_, rfl⟩
          have hn1 : n ≤ N - k ∧ n ≤ 512 - fr ∧ 0 < n := by omega
          have hsl1 := slice98 w4 w3.heap.size fr hfb
          have hcc : ∀ j, j < pl.length → w4.cell? ⟨pb, po + j, none⟩ = some (.int .u8 (pl.getD j 0)) := fun j hj => hC4.cell (HC3.out.cell (HCl.out (by omega) j hj) (by have := HPn.out (by omega); omega)) (fun h => h)
          have hcp := copy98 w4 w3.heap.size fr (B1 (sn : Int)) pl sX4 pb po k N cap HNl.out hlt hfb n hn hcc
          have hNp := HNl.out
          have HSg : Hid (((pl.drop k).take n).length = n) := hide (by simp; omega)
          have HGt : Hid (∀ j, j < n → ((pl.drop k).take n).getD j 0 = pl.getD (k + j) 0) := hide (fun j hj => by rw [List.getD_eq_getElem?_getD, List.getElem?_take, if_pos hj, List.getElem?_drop, List.getD_eq_getElem?_getD])
          have hbl2 : (overS (B1 (sn : Int)) fr ((pl.drop k).take n)).length = 512 := by rw [overS_len _ _ _ (by rw [HSg.out, HO3.out.bl]; omega), HO3.out.bl]
          obtain ⟨b2, hb2⟩ : ∃ b2, b2 = overS (B1 (sn : Int)) fr ((pl.drop k).take n) := ⟨_, rfl⟩
          rw [← hb2] at hcp hbl2
          have HB2 := hide hb2
          have sX5 := sX4.row b2 hbl2
          have sY5 := sY4.same (setRow_other w4 w3.heap.size (secC b2) (w3.heap.size + 1) (by omega))
          have hC5 : Chg (fun _ => False) w3 (w4.setRow w3.heap.size (secC b2)) := ⟨hC4.os, hC4.tape, hC4.output, by simp [World.setRow]; exact hC4.size, fun q hq _ => by
            rw [setRow_other _ _ _ q (by omega)]
            exact hC4.block q hq (fun h => h)⟩
          clear hn hcc hb2 hNp hH4 hH sX4 sY4 hC4
          go_wp2_with fail
          generalize w4.setRow w3.heap.size (secC b2) = w5 at *
          have HX5 := hide sX5
          have HY5 := hide sY5
          have HC5 := hide hC5
          clear sX5 sY5 hC5 hcp hsl1
          go_loopw [51] (fun v wr => ∃ (i : Nat) (mi : List Int), i ≤ n ∧ v = .int .i64 (i : Int) ∧ Sec wr (w3.heap.size + 1) 147 mi ∧ (∀ j, fr ≤ j → j < fr + i → mi.getD j 0 = max ((M1 (sn : Int)).getD j 0) by_) ∧ (∀ j, ¬ (fr ≤ j ∧ j < fr + i) → mi.getD j 0 = (M1 (sn : Int)).getD j 0) ∧ Chg (fun q => q = (w3.heap.size + 1)) w5 wr) (fun v _ => n - (intOf v).toNat)
          case atStart => exact ⟨0, _, by omega, rfl, HY5.out, by intro j h1 h2; omega, fun j _ => rfl, Chg.refl _ _⟩
          case round =>
            obtain ⟨i, mi, hi, rfl, hy, hm1, hm2, hc⟩ := hrel
            have HMi1 := hide hm1
            have HMi2 := hide hm2
            have HYi := hide hy
            have HCi := hide hc
            by_cases hin : i < n
            · have cY := hy.cell (fr + i) (by omega)
              have fY := hy.frozen (fr + i)
              obtain ⟨x, hx⟩ : ∃ x, mi.getD (fr + i) 0 = x := ⟨_, rfl⟩
              rw [hx] at cY
              have HXx := hide hx
              clear hy hm1 hm2 hc hx
              by_cases hx2 : x < by_
              · go_wp2_with fail
                refine ⟨⟨i + 1, mi.set (fr + i) by_, by omega, by go_num, HYi.out.set _ _, fun j h1 h2 => ?_, fun j h1 => ?_, HCi.out.setCell _ _ _ (fun _ => rfl)⟩, by simp [intOf]; omega⟩
                · rw [getD_set _ _ _ _ (by rw [HYi.out.len]; omega)]
                  by_cases hj : fr + i = j
                  · rw [if_pos hj]; have e5 := HMi2.out (fr + i) (by omega); have e6 := HXx.out; rw [← hj]; omega
                  · rw [if_neg hj]; exact HMi1.out j h1 (by omega)
                · rw [getD_set _ _ _ _ (by rw [HYi.out.len]; omega), if_neg (by omega)]
                  exact HMi2.out j (by omega)
              · go_wp2_with fail
                refine ⟨⟨i + 1, mi.set (fr + i) x, by omega, by go_num, HYi.out.set _ _, fun j h1 h2 => ?_, fun j h1 => ?_, HCi.out.setCell _ _ _ (fun _ => rfl)⟩, by simp [intOf]; omega⟩
                · rw [getD_set _ _ _ _ (by rw [HYi.out.len]; omega)]
                  by_cases hj : fr + i = j
                  · rw [if_pos hj]; have e5 := HMi2.out (fr + i) (by omega); have e6 := HXx.out; rw [← hj]; omega
                  · rw [if_neg hj]; exact HMi1.out j h1 (by omega)
                · rw [getD_set _ _ _ _ (by rw [HYi.out.len]; omega), if_neg (by omega)]
                  exact HMi2.out j (by omega)
            · have hin2 : i = n := by omega
              subst hin2
              have HX6 : Hid (Sec wr.drew w3.heap.size 146 b2) := hide (HX5.out.same (hc.block _ HX5.out.lt (by omega)))
              have HY6 : Hid (Sec wr.drew (w3.heap.size + 1) 147 mi) := hide (hy.same rfl)
              have HC6 : Hid (Chg (fun _ => False) w3 wr.drew) := hide ⟨hc.os.trans HC5.out.os, hc.tape.trans HC5.out.tape, hc.output.trans HC5.out.output, Nat.le_trans HC5.out.size hc.size, fun q hq _ => (hc.block q (Nat.lt_of_lt_of_le hq HC5.out.size) (by omega)).trans (HC5.out.block q hq (fun h => h))⟩
              have HM1 : Hid (MapR wr.drew r1 (sec Z5) (fun s => sec (B1 s))) := hide (by
                rcases HO3.out.b with h | ⟨r, e, h⟩
                · cases h.1
                · cases e
                  exact h.same (HC6.out.block _ hr1l (fun h => h)))
              have HM2 : Hid (MapR wr.drew r2 (sec Z5) (fun s => sec (M1 s))) := hide (by
                rcases HO3.out.m with h | ⟨r, e, h⟩
                · cases h.1
                · cases e
                  exact h.same (HC6.out.block _ hr2l (fun h => h)))
              have hlast : decide (((i : Nat) : Int) < ((i : Nat) : Int)) = false := by simp
              clear hy hm1 hm2 hc
              go_wp2_with fail
              have hyw : wr.drew.heap.size = wr.heap.size := rfl
              have hH5 : (fun u => u.cell? ⟨T, 1, none⟩ = some (.map (some r1)) ∧ u.cell? ⟨T, 2, none⟩ = some (.map (some r2)) ∧ Sec u w3.heap.size 146 b2 ∧ Sec u (w3.heap.size + 1) 147 mi) wr.drew := ⟨HC6.out.cell HT3.out.cell.2.1 (fun h => h), HC6.out.cell HT3.out.cell.2.2.1 (fun h => h), HX6.out, HY6.out⟩
              refine wp_region_held_drew (S := (fun u => u.cell? ⟨T, 1, none⟩ = some (.map (some r1)) ∧ u.cell? ⟨T, 2, none⟩ = some (.map (some r2)) ∧ Sec u w3.heap.size 146 b2 ∧ Sec u (w3.heap.size + 1) 147 mi)) (by kernel_rfl) hH5 (fun _ => ?_)
              refine any_take 0 (some 66) (.pointer (some ⟨T, 0, none⟩)) rfl rfl (by kernel_rfl) (by kernel_rfl) (by kernel_rfl) (fun _ _ _ h => h) (by rfl) hH5 ?_ ?_
              · intro u hSu
                obtain ⟨q0, q1, q2, q3⟩ := hSu
                go_simp
              simp only [Act.put, List.setIfInBounds_toArray, List.set_cons_zero, List.set_cons_succ]
              refine any_take 1 (some 67) (.pointer (some ⟨T, 0, none⟩)) rfl rfl (by kernel_rfl) (by kernel_rfl) (by kernel_rfl) (fun _ _ _ h => h) (by rfl) hH5 ?_ ?_
              · intro u hSu
                obtain ⟨q0, q1, q2, q3⟩ := hSu
                go_simp
              simp only [Act.put, List.setIfInBounds_toArray, List.set_cons_zero, List.set_cons_succ]
              refine any_take 2 (some 68) (.pointer (some ⟨T, 1, none⟩)) rfl rfl (by kernel_rfl) (by kernel_rfl) (by kernel_rfl) (fun _ _ _ h => h) (by rfl) hH5 ?_ ?_
              · intro u hSu
                obtain ⟨q0, q1, q2, q3⟩ := hSu
                go_simp
              simp only [Act.put, List.setIfInBounds_toArray, List.set_cons_zero, List.set_cons_succ]
              refine any_take 3 (some 69) (.map (some r1)) rfl rfl (by kernel_rfl) (by kernel_rfl) (by kernel_rfl) (fun _ _ _ h => h) (by rfl) hH5 ?_ ?_
              · intro u hSu
                obtain ⟨q0, q1, q2, q3⟩ := hSu
                go_simp
              simp only [Act.put, List.setIfInBounds_toArray, List.set_cons_zero, List.set_cons_succ]
              refine any_take 4 (some 70) (.int .i64 (sn : Int)) rfl rfl (by kernel_rfl) (by kernel_rfl) (by kernel_rfl) (fun _ _ _ h => h) (by rfl) hH5 ?_ ?_
              · intro u hSu
                obtain ⟨q0, q1, q2, q3⟩ := hSu
                go_simp
              simp only [Act.put, List.setIfInBounds_toArray, List.set_cons_zero, List.set_cons_succ]
              refine any_take 5 (some 71) (.pointer (some ⟨T, 0, none⟩)) rfl rfl (by kernel_rfl) (by kernel_rfl) (by kernel_rfl) (fun _ _ _ h => h) (by rfl) hH5 ?_ ?_
              · intro u hSu
                obtain ⟨q0, q1, q2, q3⟩ := hSu
                go_simp
              simp only [Act.put, List.setIfInBounds_toArray, List.set_cons_zero, List.set_cons_succ]
              refine any_take 6 (some 72) (.pointer (some ⟨T, 0, none⟩)) rfl rfl (by kernel_rfl) (by kernel_rfl) (by kernel_rfl) (fun _ _ _ h => h) (by rfl) hH5 ?_ ?_
              · intro u hSu
                obtain ⟨q0, q1, q2, q3⟩ := hSu
                go_simp
              simp only [Act.put, List.setIfInBounds_toArray, List.set_cons_zero, List.set_cons_succ]
              refine any_take 7 (some 73) (.pointer (some ⟨T, 2, none⟩)) rfl rfl (by kernel_rfl) (by kernel_rfl) (by kernel_rfl) (fun _ _ _ h => h) (by rfl) hH5 ?_ ?_
              · intro u hSu
                obtain ⟨q0, q1, q2, q3⟩ := hSu
                go_simp
              simp only [Act.put, List.setIfInBounds_toArray, List.set_cons_zero, List.set_cons_succ]
              refine any_take 8 (some 74) (.map (some r2)) rfl rfl (by kernel_rfl) (by kernel_rfl) (by kernel_rfl) (fun _ _ _ h => h) (by rfl) hH5 ?_ ?_
              · intro u hSu
                obtain ⟨q0, q1, q2, q3⟩ := hSu
                go_simp
              simp only [Act.put, List.setIfInBounds_toArray, List.set_cons_zero, List.set_cons_succ]
              refine any_take 9 (some 75) (.int .i64 (sn : Int)) rfl rfl (by kernel_rfl) (by kernel_rfl) (by kernel_rfl) (fun _ _ _ h => h) (by rfl) hH5 ?_ ?_
              · intro u hSu
                obtain ⟨q0, q1, q2, q3⟩ := hSu
                go_simp
              simp only [Act.put, List.setIfInBounds_toArray, List.set_cons_zero, List.set_cons_succ]
              refine any_take 10 (some 76) (sec b2) rfl rfl (by kernel_rfl) (by kernel_rfl) (by kernel_rfl) (fun _ _ _ h => h) (by rfl) hH5 ?_ ?_
              · intro u hSu
                obtain ⟨q0, q1, q2, q3⟩ := hSu
                have hlk := load98 q2
                exact exec_load rfl rfl hlk
              simp only [Act.put, List.setIfInBounds_toArray, List.set_cons_zero, List.set_cons_succ]
              refine any_take 11 (some 77) (sec mi) rfl rfl (by kernel_rfl) (by kernel_rfl) (by kernel_rfl) (fun _ _ _ h => h) (by rfl) hH5 ?_ ?_
              · intro u hSu
                obtain ⟨q0, q1, q2, q3⟩ := hSu
                have hlk := load99 q3
                exact exec_load rfl rfl hlk
              simp only [Act.put, List.setIfInBounds_toArray, List.set_cons_zero, List.set_cons_succ]
              obtain ⟨old1, st1, w6, hrun1, hmid1, hg6⟩ := entry_run (P := Tryz.prog) (w := wr.drew) Tryz.underlying88 key81 (zero98 _) HM1.out (sn : Int)
              have hS6 : (fun u => u.cell? ⟨T, 1, none⟩ = some (.map (some r1)) ∧ u.cell? ⟨T, 2, none⟩ = some (.map (some r2)) ∧ Sec u w3.heap.size 146 b2 ∧ Sec u (w3.heap.size + 1) 147 mi) w6 := ⟨hg6.cell hH5.1 (by simp; omega), hg6.cell hH5.2.1 (by simp; omega), hH5.2.2.1.same (hg6.block _ hH5.2.2.1.lt (by simp; omega)), hH5.2.2.2.same (hg6.block _ hH5.2.2.2.lt (by simp; omega))⟩
              refine ready_val 12 (some 78) (.tuple #[old1, goInt (st1 : Int)]) w6 (by kernel_rfl) rfl rfl rfl (exec_entry rfl rfl rfl hrun1) hS6 ?_
              simp only [Act.put, List.setIfInBounds_toArray, List.set_cons_zero, List.set_cons_succ]
              refine ready_val 13 (some 79) (goInt (st1 : Int)) w6 (by kernel_rfl) rfl rfl rfl (by go_simp) hS6 ?_
              simp only [Act.put, List.setIfInBounds_toArray, List.set_cons_zero, List.set_cons_succ]
              obtain ⟨w7, hrun2, hmap1, hg7⟩ := store_run (P := Tryz.prog) (mty := 88) hmid1 (sec b2)
              have hS7 : (fun u => u.cell? ⟨T, 1, none⟩ = some (.map (some r1)) ∧ u.cell? ⟨T, 2, none⟩ = some (.map (some r2)) ∧ Sec u w3.heap.size 146 b2 ∧ Sec u (w3.heap.size + 1) 147 mi) w7 := ⟨hg7.cell hS6.1 (by simp; omega), hg7.cell hS6.2.1 (by simp; omega), hS6.2.2.1.same (hg7.block _ hS6.2.2.1.lt (by simp; omega)), hS6.2.2.2.same (hg7.block _ hS6.2.2.2.lt (by simp; omega))⟩
              refine ready_skip 14 w7 (by kernel_rfl) rfl rfl rfl (exec_entryStore rfl rfl rfl rfl hrun2) hS7 ?_
              have hM27 : MapR w7 r2 (sec Z5) (fun s => sec (M1 s)) := HM2.out.same ((hg7.block r2 (Nat.lt_of_lt_of_le HM2.out.lt hg6.size) (by simp; omega)).trans (hg6.block r2 HM2.out.lt (by simp; omega)))
              obtain ⟨old2, st2, w8, hrun3, hmid2, hg8⟩ := entry_run (P := Tryz.prog) (w := w7) Tryz.underlying89 key81 (zero99 _) hM27 (sn : Int)
              have hS8 : (fun u => u.cell? ⟨T, 1, none⟩ = some (.map (some r1)) ∧ u.cell? ⟨T, 2, none⟩ = some (.map (some r2)) ∧ Sec u w3.heap.size 146 b2 ∧ Sec u (w3.heap.size + 1) 147 mi) w8 := ⟨hg8.cell hS7.1 (by simp; omega), hg8.cell hS7.2.1 (by simp; omega), hS7.2.2.1.same (hg8.block _ hS7.2.2.1.lt (by simp; omega)), hS7.2.2.2.same (hg8.block _ hS7.2.2.2.lt (by simp; omega))⟩
              refine ready_val 15 (some 80) (.tuple #[old2, goInt (st2 : Int)]) w8 (by kernel_rfl) rfl rfl rfl (exec_entry rfl rfl rfl hrun3) hS8 ?_
              simp only [Act.put, List.setIfInBounds_toArray, List.set_cons_zero, List.set_cons_succ]
              refine ready_val 16 (some 81) (goInt (st2 : Int)) w8 (by kernel_rfl) rfl rfl rfl (by go_simp) hS8 ?_
              simp only [Act.put, List.setIfInBounds_toArray, List.set_cons_zero, List.set_cons_succ]
              obtain ⟨w9, hrun4, hmap2, hg9⟩ := store_run (P := Tryz.prog) (mty := 89) hmid2 (sec mi)
              have hS9 : (fun u => u.cell? ⟨T, 1, none⟩ = some (.map (some r1)) ∧ u.cell? ⟨T, 2, none⟩ = some (.map (some r2)) ∧ Sec u w3.heap.size 146 b2 ∧ Sec u (w3.heap.size + 1) 147 mi) w9 := ⟨hg9.cell hS8.1 (by simp; omega), hg9.cell hS8.2.1 (by simp; omega), hS8.2.2.1.same (hg9.block _ hS8.2.2.1.lt (by simp; omega)), hS8.2.2.2.same (hg9.block _ hS8.2.2.2.lt (by simp; omega))⟩
              refine ready_skip 17 w9 (by kernel_rfl) rfl rfl rfl (exec_entryStore rfl rfl rfl rfl hrun4) hS9 ?_
              refine wpAnyH_done (by kernel_rfl) ?_ _
              have hC9 : Chg (fun q => q = r1 ∨ q = r2) w3 w9 := by
                have g6 : Chg (fun q => q = r1 ∨ q = r2) wr.drew w6 := (Chg.of_grown hg6).mono (fun i _ e => by simp at e; exact Or.inl e)
                have g7 : Chg (fun q => q = r1 ∨ q = r2) w6 w7 := (Chg.of_grown hg7).mono (fun i _ e => by simp at e; exact Or.inl e)
                have g8 : Chg (fun q => q = r1 ∨ q = r2) w7 w8 := (Chg.of_grown hg8).mono (fun i _ e => by simp at e; exact Or.inr e)
                have g9 : Chg (fun q => q = r1 ∨ q = r2) w8 w9 := (Chg.of_grown hg9).mono (fun i _ e => by simp at e; exact Or.inr e)
                exact ((((HC6.out.mono (fun _ _ h => h.elim)).trans g6).trans g7).trans g8).trans g9
              have hO9 : Ovr w9 (.map (some r1)) (.map (some r2)) (fun k => if k = (sn : Int) then b2 else B1 k) (fun k => if k = (sn : Int) then mi else M1 k) := by
                have hr1w : r1 < w7.heap.size := hmap1.lt
                refine ⟨Or.inr ⟨r1, rfl, ?_⟩, Or.inr ⟨r2, rfl, ?_⟩, fun s => ?_, fun s => ?_⟩
                · rw [upd_sec] at hmap1
                  exact hmap1.same ((hg9.block r1 (Nat.lt_of_lt_of_le hr1w hg8.size) (by simp; omega)).trans (hg8.block r1 hr1w (by simp; omega)))
                · rw [upd_sec] at hmap2
                  exact hmap2
                · show (if s = (sn : Int) then b2 else B1 s).length = 512
                  split
                  · exact hS9.2.2.1.len
                  · exact HO3.out.bl s
                · show (if s = (sn : Int) then mi else M1 s).length = 512
                  split
                  · exact hS9.2.2.2.len
                  · exact HO3.out.ml s
              have HC9 := hide hC9
              have HO9 := hide hO9
              have HT9 : Hid (Txs w9 T J (.map (some r1)) (.map (some r2)) va d) := hide ((hC9.block T hTw (by omega)).trans HT3.out)
              clear hC9 hO9 hS6 hS7 hS8 hS9 hH5 hrun1 hrun2 hrun3 hrun4 hmid1 hmid2 hmap1 hmap2 hM27 hg6 hg7 hg8 hg9
              apply_assumption
              by_cases hcp9 : cap - k = i
              · go_wp2_with fail
                go_quiet (fail)
                go_wp2_with fail
                have hp9 := HP.out
                refine ⟨⟨k + i, _, _, _, by omega, by congr 1; omega, by congr 1 <;> first | omega | rfl | (congr 2; omega), fun h => by omega, HT9.out.drewN _, HO9.out.chg (Chg.refl (fun _ => False) w9).drewN' (fun _ _ h => h), ?_, (HC3.out.trans HC9.out).drewN _⟩, by simp [intOf]; omega⟩
                have hsp : sn * 512 + fr = p := by have := HFr.out; have := HSn.out; omega
                rw [HB2.out]
                exact HV3.out.step (HO3.out.bl _) HSg.out (by omega) hby HMi1.out HMi2.out hsb HP.out hsp HGt.out
              · go_wp2_with fail
                go_quiet (fail)
                go_wp2_with fail
                have hp9 := HP.out
                refine ⟨⟨k + i, _, _, _, by omega, by congr 1; omega, by congr 1 <;> first | omega | rfl | (congr 2; omega), fun _ => rfl, HT9.out.drewN _, HO9.out.chg (Chg.refl (fun _ => False) w9).drewN' (fun _ _ h => h), ?_, (HC3.out.trans HC9.out).drewN _⟩, by simp [intOf]; omega⟩
                have hsp : sn * 512 + fr = p := by have := HFr.out; have := HSn.out; omega
                rw [HB2.out]
                exact HV3.out.step (HO3.out.bl _) HSg.out (by omega) hby HMi1.out HMi2.out hsb HP.out hsp HGt.out
        · have hz1 : (zeroValue 147).run Tryz.prog w3.drew = .ok (.agg (secC Z5)) w3.drew := zero99 _
          have hz2 : (zeroValue 146).run Tryz.prog (w3.alloc (.cells (secC Z5) 147)).drew = .ok (.agg (secC Z5)) (w3.alloc (.cells (secC Z5) 147)).drew := zero98 _
          have hb1 : Below w3.drew.heap.size w3.drew (w3.drew.alloc (.cells (secC Z5) 147)) := (Below.refl _ _).alloc (Nat.le_refl _) _
          have hb2 : Below w3.drew.heap.size w3.drew ((w3.drew.alloc (.cells (secC Z5) 147)).alloc (.cells (secC Z5) 146)) := hb1.alloc (by simp) _
          have hTl : T < w3.drew.heap.size := hTw
          have hH1 : (fun u => u.cell? ⟨T, 1, none⟩ = some (.map (some r1)) ∧ u.cell? ⟨T, 2, none⟩ = some (.map (some r2)) ∧ Ovr u (.map (some r1)) (.map (some r2)) B1 M1) (w3.drew.alloc (.cells (secC Z5) 147)) := ⟨(hb1.cell (p := ⟨T, 1, none⟩) hTl).trans hH.1, (hb1.cell (p := ⟨T, 2, none⟩) hTl).trans hH.2.1, hH.2.2.chg (Chg.of_below (X := fun _ => False) hb1) (fun _ _ h => h)⟩
          have hH2 : (fun u => u.cell? ⟨T, 1, none⟩ = some (.map (some r1)) ∧ u.cell? ⟨T, 2, none⟩ = some (.map (some r2)) ∧ Ovr u (.map (some r1)) (.map (some r2)) B1 M1) ((w3.drew.alloc (.cells (secC Z5) 147)).alloc (.cells (secC Z5) 146)) := ⟨(hb2.cell (p := ⟨T, 1, none⟩) hTl).trans hH.1, (hb2.cell (p := ⟨T, 2, none⟩) hTl).trans hH.2.1, hH.2.2.chg (Chg.of_below (X := fun _ => False) hb2) (fun _ _ h => h)⟩
          go_simp
          refine hK.out _ _ hH1 (fun _ => ?_)
          clear hK K
          try simp only [Act.put, List.setIfInBounds_toArray, List.set_cons_zero, List.set_cons_succ]
          refine wpAnyH_ready (rs := [12]) (by kernel_rfl) (by simp) ?_
          refine AllReadyH.cons (i := 12) rfl (fun K hK => ?_) AllReadyH.nil
          go_simp
          refine hK.out _ _ hH2 (fun _ => ?_)
          clear hK K
          try simp only [Act.put, List.setIfInBounds_toArray, List.set_cons_zero, List.set_cons_succ]
          have hsd : w3.drew.heap.size = w3.heap.size := rfl
          have hsz1 : (w3.alloc (.cells (secC Z5) 147)).drew.heap.size = w3.heap.size + 1 := by
            show (w3.alloc (.cells (secC Z5) 147)).heap.size = _
            simp
          try rw [hsz1]
          have sX : Sec ((w3.drew.alloc (.cells (secC Z5) 147)).alloc (.cells (secC Z5) 146)) (w3.heap.size + 1) 146 Z5 := ⟨heap_alloc2_new w3.drew _ _, Z5_len⟩
          have sY : Sec ((w3.drew.alloc (.cells (secC Z5) 147)).alloc (.cells (secC Z5) 146)) w3.heap.size 147 Z5 := (Sec.new w3.drew _ Z5 Z5_len).same (Below.heap_alloc _ _ _ (by simp))
          have hg3 := Chg.of_grown (grown_setRow ((w3.drew.alloc (.cells (secC Z5) 147)).alloc (.cells (secC Z5) 146)) (w3.heap.size + 1) (secC (B1 (sn : Int))))
          have hH3 : (fun u => u.cell? ⟨T, 1, none⟩ = some (.map (some r1)) ∧ u.cell? ⟨T, 2, none⟩ = some (.map (some r2)) ∧ Ovr u (.map (some r1)) (.map (some r2)) B1 M1) (((w3.drew.alloc (.cells (secC Z5) 147)).alloc (.cells (secC Z5) 146)).setRow (w3.heap.size + 1) (secC (B1 (sn : Int)))) := by
            refine ⟨hg3.cell hH2.1 (by simp; omega), hg3.cell hH2.2.1 (by simp; omega), hH2.2.2.chg hg3 (fun r hr e => ?_)⟩
            simp at e hr
            omega
          have sX3 := sX.row (B1 (sn : Int)) (HO3.out.bl _)
          have sY3 := sY.same (setRow_other ((w3.drew.alloc (.cells (secC Z5) 147)).alloc (.cells (secC Z5) 146)) (w3.heap.size + 1) (secC (B1 (sn : Int))) w3.heap.size (by omega))
          have hg4 := Chg.of_grown (grown_setRow (((w3.drew.alloc (.cells (secC Z5) 147)).alloc (.cells (secC Z5) 146)).setRow (w3.heap.size + 1) (secC (B1 (sn : Int)))) w3.heap.size (secC (M1 (sn : Int))))
          have hH4 : (fun u => u.cell? ⟨T, 1, none⟩ = some (.map (some r1)) ∧ u.cell? ⟨T, 2, none⟩ = some (.map (some r2)) ∧ Ovr u (.map (some r1)) (.map (some r2)) B1 M1) ((((w3.drew.alloc (.cells (secC Z5) 147)).alloc (.cells (secC Z5) 146)).setRow (w3.heap.size + 1) (secC (B1 (sn : Int)))).setRow w3.heap.size (secC (M1 (sn : Int)))) := by
            refine ⟨hg4.cell hH3.1 (by simp; omega), hg4.cell hH3.2.1 (by simp; omega), hH3.2.2.chg hg4 (fun r hr e => ?_)⟩
            simp at e hr
            omega
          have sY4 := sY3.row (M1 (sn : Int)) (HO3.out.ml _)
          have sX4 := sX3.same (setRow_other (((w3.drew.alloc (.cells (secC Z5) 147)).alloc (.cells (secC Z5) 146)).setRow (w3.heap.size + 1) (secC (B1 (sn : Int)))) w3.heap.size (secC (M1 (sn : Int))) (w3.heap.size + 1) (by omega))
          have hC4 : Chg (fun _ => False) w3 ((((w3.drew.alloc (.cells (secC Z5) 147)).alloc (.cells (secC Z5) 146)).setRow (w3.heap.size + 1) (secC (B1 (sn : Int)))).setRow w3.heap.size (secC (M1 (sn : Int)))) := ⟨rfl, rfl, rfl, by simp [World.setRow]; omega, fun q hq _ => by
            have hq2 : q < w3.drew.heap.size := hq
            rw [setRow_other _ _ _ q (by omega), setRow_other _ _ _ q (by omega)]
            exact hb2.block q hq2⟩
          refine ready_store 14 146 (.tmp 10) (.tmp 39) (w3.heap.size + 1) (secC (B1 (sn : Int))) (secC Z5) (by kernel_rfl) rfl rfl rfl rfl rfl rfl sX.at_ (by rw [secC_size, HO3.out.bl]; exact size98) (by rw [secC_size, secC_size, HO3.out.bl]; exact Z5_len) (secC_one _) hH3 ?_
          refine ready_store 15 147 (.tmp 11) (.tmp 45) w3.heap.size (secC (M1 (sn : Int))) (secC Z5) (by kernel_rfl) rfl rfl rfl rfl rfl rfl sY3.at_ (by rw [secC_size, HO3.out.ml]; exact size99) (by rw [secC_size, secC_size, HO3.out.ml]; exact Z5_len) (secC_one _) hH4 ?_
          refine wpAnyH_done (by kernel_rfl) ?_ _
          have hXY : (w3.heap.size + 1) ≠ w3.heap.size := by omega
          have hXw : w3.heap.size ≤ (w3.heap.size + 1) ∧ w3.heap.size ≤ w3.heap.size := by omega
          clear sX sY sX3 sY3 hg3 hg4 hH1 hH2 hH3 hb1 hb2 hz1 hz2
          obtain ⟨w4, hw4⟩ : ∃ w4, w4 = (((w3.drew.alloc (.cells (secC Z5) 147)).alloc (.cells (secC Z5) 146)).setRow (w3.heap.size + 1) (secC (B1 (sn : Int)))).setRow w3.heap.size (secC (M1 (sn : Int))) := ⟨_, rfl⟩
          rw [← hw4] at sX4 sY4 hC4 hH4
          apply_assumption
          change Code.wp _ _ _ _ ((((w3.drew.alloc (.cells (secC Z5) 147)).alloc (.cells (secC Z5) 146)).setRow (w3.heap.size + 1) (secC (B1 (sn : Int)))).setRow w3.heap.size (secC (M1 (sn : Int))))
          rw [← hw4]
          clear hw4
          obtain ⟨n, hn⟩ : ∃ n, n = min (N - k) (512 - fr) := ⟨_, rfl⟩
          have hn1 : n ≤ N - k ∧ n ≤ 512 - fr ∧ 0 < n := by omega
          have hsl1 := slice98 w4 (w3.heap.size + 1) fr hfb
          have hcc : ∀ j, j < pl.length → w4.cell? ⟨pb, po + j, none⟩ = some (.int .u8 (pl.getD j 0)) := fun j hj => hC4.cell (HC3.out.cell (HCl.out (by omega) j hj) (by have := HPn.out (by omega); omega)) (fun h => h)
          have hcp := copy98 w4 (w3.heap.size + 1) fr (B1 (sn : Int)) pl sX4 pb po k N cap HNl.out hlt hfb n hn hcc
          have hNp := HNl.out
          have HSg : Hid (((pl.drop k).take n).length = n) := hide (by simp; omega)
          have HGt : Hid (∀ j, j < n → ((pl.drop k).take n).getD j 0 = pl.getD (k + j) 0) := hide (fun j hj => by rw [List.getD_eq_getElem?_getD, List.getElem?_take, if_pos hj, List.getElem?_drop, List.getD_eq_getElem?_getD])
          have hbl2 : (overS (B1 (sn : Int)) fr ((pl.drop k).take n)).length = 512 := by rw [overS_len _ _ _ (by rw [HSg.out, HO3.out.bl]; omega), HO3.out.bl]
          obtain ⟨b2, hb2⟩ : ∃ b2, b2 = overS (B1 (sn : Int)) fr ((pl.drop k).take n) := ⟨_, rfl⟩
          rw [← hb2] at hcp hbl2
          have HB2 := hide hb2
          have sX5 := sX4.row b2 hbl2
          have sY5 := sY4.same (setRow_other w4 (w3.heap.size + 1) (secC b2) w3.heap.size (by omega))
          have hC5 : Chg (fun _ => False) w3 (w4.setRow (w3.heap.size + 1) (secC b2)) := ⟨hC4.os, hC4.tape, hC4.output, by simp [World.setRow]; exact hC4.size, fun q hq _ => by
            rw [setRow_other _ _ _ q (by omega)]
            exact hC4.block q hq (fun h => h)⟩
          clear hn hcc hb2 hNp hH4 hH sX4 sY4 hC4
          go_wp2_with fail
          generalize w4.setRow (w3.heap.size + 1) (secC b2) = w5 at *
          have HX5 := hide sX5
          have HY5 := hide sY5
          have HC5 := hide hC5
          clear sX5 sY5 hC5 hcp hsl1
          go_loopw [51] (fun v wr => ∃ (i : Nat) (mi : List Int), i ≤ n ∧ v = .int .i64 (i : Int) ∧ Sec wr w3.heap.size 147 mi ∧ (∀ j, fr ≤ j → j < fr + i → mi.getD j 0 = max ((M1 (sn : Int)).getD j 0) by_) ∧ (∀ j, ¬ (fr ≤ j ∧ j < fr + i) → mi.getD j 0 = (M1 (sn : Int)).getD j 0) ∧ Chg (fun q => q = w3.heap.size) w5 wr) (fun v _ => n - (intOf v).toNat)
          case atStart => exact ⟨0, _, by omega, rfl, HY5.out, by intro j h1 h2; omega, fun j _ => rfl, Chg.refl _ _⟩
          case round =>
            obtain ⟨i, mi, hi, rfl, hy, hm1, hm2, hc⟩ := hrel
            have HMi1 := hide hm1
            have HMi2 := hide hm2
            have HYi := hide hy
            have HCi := hide hc
            by_cases hin : i < n
            · have cY := hy.cell (fr + i) (by omega)
              have fY := hy.frozen (fr + i)
              obtain ⟨x, hx⟩ : ∃ x, mi.getD (fr + i) 0 = x := ⟨_, rfl⟩
              rw [hx] at cY
              have HXx := hide hx
              clear hy hm1 hm2 hc hx
              by_cases hx2 : x < by_
              · go_wp2_with fail
                refine ⟨⟨i + 1, mi.set (fr + i) by_, by omega, by go_num, HYi.out.set _ _, fun j h1 h2 => ?_, fun j h1 => ?_, HCi.out.setCell _ _ _ (fun _ => rfl)⟩, by simp [intOf]; omega⟩
                · rw [getD_set _ _ _ _ (by rw [HYi.out.len]; omega)]
                  by_cases hj : fr + i = j
                  · rw [if_pos hj]; have e5 := HMi2.out (fr + i) (by omega); have e6 := HXx.out; rw [← hj]; omega
                  · rw [if_neg hj]; exact HMi1.out j h1 (by omega)
                · rw [getD_set _ _ _ _ (by rw [HYi.out.len]; omega), if_neg (by omega)]
                  exact HMi2.out j (by omega)
              · go_wp2_with fail
                refine ⟨⟨i + 1, mi.set (fr + i) x, by omega, by go_num, HYi.out.set _ _, fun j h1 h2 => ?_, fun j h1 => ?_, HCi.out.setCell _ _ _ (fun _ => rfl)⟩, by simp [intOf]; omega⟩
                · rw [getD_set _ _ _ _ (by rw [HYi.out.len]; omega)]
                  by_cases hj : fr + i = j
                  · rw [if_pos hj]; have e5 := HMi2.out (fr + i) (by omega); have e6 := HXx.out; rw [← hj]; omega
                  · rw [if_neg hj]; exact HMi1.out j h1 (by omega)
                · rw [getD_set _ _ _ _ (by rw [HYi.out.len]; omega), if_neg (by omega)]
                  exact HMi2.out j (by omega)
            · have hin2 : i = n := by omega
              subst hin2
              have HX6 : Hid (Sec wr.drew (w3.heap.size + 1) 146 b2) := hide (HX5.out.same (hc.block _ HX5.out.lt (by omega)))
              have HY6 : Hid (Sec wr.drew w3.heap.size 147 mi) := hide (hy.same rfl)
              have HC6 : Hid (Chg (fun _ => False) w3 wr.drew) := hide ⟨hc.os.trans HC5.out.os, hc.tape.trans HC5.out.tape, hc.output.trans HC5.out.output, Nat.le_trans HC5.out.size hc.size, fun q hq _ => (hc.block q (Nat.lt_of_lt_of_le hq HC5.out.size) (by omega)).trans (HC5.out.block q hq (fun h => h))⟩
              have HM1 : Hid (MapR wr.drew r1 (sec Z5) (fun s => sec (B1 s))) := hide (by
                rcases HO3.out.b with h | ⟨r, e, h⟩
                · cases h.1
                · cases e
                  exact h.same (HC6.out.block _ hr1l (fun h => h)))
              have HM2 : Hid (MapR wr.drew r2 (sec Z5) (fun s => sec (M1 s))) := hide (by
                rcases HO3.out.m with h | ⟨r, e, h⟩
                · cases h.1
                · cases e
                  exact h.same (HC6.out.block _ hr2l (fun h => h)))
              have hlast : decide (((i : Nat) : Int) < ((i : Nat) : Int)) = false := by simp
              clear hy hm1 hm2 hc
              go_wp2_with fail
              have hyw : wr.drew.heap.size = wr.heap.size := rfl
              have hH5 : (fun u => u.cell? ⟨T, 1, none⟩ = some (.map (some r1)) ∧ u.cell? ⟨T, 2, none⟩ = some (.map (some r2)) ∧ Sec u (w3.heap.size + 1) 146 b2 ∧ Sec u w3.heap.size 147 mi) wr.drew := ⟨HC6.out.cell HT3.out.cell.2.1 (fun h => h), HC6.out.cell HT3.out.cell.2.2.1 (fun h => h), HX6.out, HY6.out⟩
              refine wp_region_held_drew (S := (fun u => u.cell? ⟨T, 1, none⟩ = some (.map (some r1)) ∧ u.cell? ⟨T, 2, none⟩ = some (.map (some r2)) ∧ Sec u (w3.heap.size + 1) 146 b2 ∧ Sec u w3.heap.size 147 mi)) (by kernel_rfl) hH5 (fun _ => ?_)
              refine any_take 0 (some 66) (.pointer (some ⟨T, 0, none⟩)) rfl rfl (by kernel_rfl) (by kernel_rfl) (by kernel_rfl) (fun _ _ _ h => h) (by rfl) hH5 ?_ ?_
              · intro u hSu
                obtain ⟨q0, q1, q2, q3⟩ := hSu
                go_simp
              simp only [Act.put, List.setIfInBounds_toArray, List.set_cons_zero, List.set_cons_succ]
              refine any_take 1 (some 67) (.pointer (some ⟨T, 0, none⟩)) rfl rfl (by kernel_rfl) (by kernel_rfl) (by kernel_rfl) (fun _ _ _ h => h) (by rfl) hH5 ?_ ?_
              · intro u hSu
                obtain ⟨q0, q1, q2, q3⟩ := hSu
                go_simp
              simp only [Act.put, List.setIfInBounds_toArray, List.set_cons_zero, List.set_cons_succ]
              refine any_take 2 (some 68) (.pointer (some ⟨T, 1, none⟩)) rfl rfl (by kernel_rfl) (by kernel_rfl) (by kernel_rfl) (fun _ _ _ h => h) (by rfl) hH5 ?_ ?_
              · intro u hSu
                obtain ⟨q0, q1, q2, q3⟩ := hSu
                go_simp
              simp only [Act.put, List.setIfInBounds_toArray, List.set_cons_zero, List.set_cons_succ]
              refine any_take 3 (some 69) (.map (some r1)) rfl rfl (by kernel_rfl) (by kernel_rfl) (by kernel_rfl) (fun _ _ _ h => h) (by rfl) hH5 ?_ ?_
              · intro u hSu
                obtain ⟨q0, q1, q2, q3⟩ := hSu
                go_simp
              simp only [Act.put, List.setIfInBounds_toArray, List.set_cons_zero, List.set_cons_succ]
              refine any_take 4 (some 70) (.int .i64 (sn : Int)) rfl rfl (by kernel_rfl) (by kernel_rfl) (by kernel_rfl) (fun _ _ _ h => h) (by rfl) hH5 ?_ ?_
              · intro u hSu
                obtain ⟨q0, q1, q2, q3⟩ := hSu
                go_simp
              simp only [Act.put, List.setIfInBounds_toArray, List.set_cons_zero, List.set_cons_succ]
              refine any_take 5 (some 71) (.pointer (some ⟨T, 0, none⟩)) rfl rfl (by kernel_rfl) (by kernel_rfl) (by kernel_rfl) (fun _ _ _ h => h) (by rfl) hH5 ?_ ?_
              · intro u hSu
                obtain ⟨q0, q1, q2, q3⟩ := hSu
                go_simp
              simp only [Act.put, List.setIfInBounds_toArray, List.set_cons_zero, List.set_cons_succ]
              refine any_take 6 (some 72) (.pointer (some ⟨T, 0, none⟩)) rfl rfl (by kernel_rfl) (by kernel_rfl) (by kernel_rfl) (fun _ _ _ h => h) (by rfl) hH5 ?_ ?_
              · intro u hSu
                obtain ⟨q0, q1, q2, q3⟩ := hSu
                go_simp
              simp only [Act.put, List.setIfInBounds_toArray, List.set_cons_zero, List.set_cons_succ]
              refine any_take 7 (some 73) (.pointer (some ⟨T, 2, none⟩)) rfl rfl (by kernel_rfl) (by kernel_rfl) (by kernel_rfl) (fun _ _ _ h => h) (by rfl) hH5 ?_ ?_
              · intro u hSu
                obtain ⟨q0, q1, q2, q3⟩ := hSu
                go_simp
              simp only [Act.put, List.setIfInBounds_toArray, List.set_cons_zero, List.set_cons_succ]
              refine any_take 8 (some 74) (.map (some r2)) rfl rfl (by kernel_rfl) (by kernel_rfl) (by kernel_rfl) (fun _ _ _ h => h) (by rfl) hH5 ?_ ?_
              · intro u hSu
                obtain ⟨q0, q1, q2, q3⟩ := hSu
                go_simp
              simp only [Act.put, List.setIfInBounds_toArray, List.set_cons_zero, List.set_cons_succ]
              refine any_take 9 (some 75) (.int .i64 (sn : Int)) rfl rfl (by kernel_rfl) (by kernel_rfl) (by kernel_rfl) (fun _ _ _ h => h) (by rfl) hH5 ?_ ?_
              · intro u hSu
                obtain ⟨q0, q1, q2, q3⟩ := hSu
                go_simp
              simp only [Act.put, List.setIfInBounds_toArray, List.set_cons_zero, List.set_cons_succ]
              refine any_take 10 (some 76) (sec b2) rfl rfl (by kernel_rfl) (by kernel_rfl) (by kernel_rfl) (fun _ _ _ h => h) (by rfl) hH5 ?_ ?_
              · intro u hSu
                obtain ⟨q0, q1, q2, q3⟩ := hSu
                have hlk := load98 q2
                exact exec_load rfl rfl hlk
              simp only [Act.put, List.setIfInBounds_toArray, List.set_cons_zero, List.set_cons_succ]
              refine any_take 11 (some 77) (sec mi) rfl rfl (by kernel_rfl) (by kernel_rfl) (by kernel_rfl) (fun _ _ _ h => h) (by rfl) hH5 ?_ ?_
              · intro u hSu
                obtain ⟨q0, q1, q2, q3⟩ := hSu
                have hlk := load99 q3
                exact exec_load rfl rfl hlk
              simp only [Act.put, List.setIfInBounds_toArray, List.set_cons_zero, List.set_cons_succ]
              obtain ⟨old1, st1, w6, hrun1, hmid1, hg6⟩ := entry_run (P := Tryz.prog) (w := wr.drew) Tryz.underlying88 key81 (zero98 _) HM1.out (sn : Int)
              have hS6 : (fun u => u.cell? ⟨T, 1, none⟩ = some (.map (some r1)) ∧ u.cell? ⟨T, 2, none⟩ = some (.map (some r2)) ∧ Sec u (w3.heap.size + 1) 146 b2 ∧ Sec u w3.heap.size 147 mi) w6 := ⟨hg6.cell hH5.1 (by simp; omega), hg6.cell hH5.2.1 (by simp; omega), hH5.2.2.1.same (hg6.block _ hH5.2.2.1.lt (by simp; omega)), hH5.2.2.2.same (hg6.block _ hH5.2.2.2.lt (by simp; omega))⟩
              refine ready_val 12 (some 78) (.tuple #[old1, goInt (st1 : Int)]) w6 (by kernel_rfl) rfl rfl rfl (exec_entry rfl rfl rfl hrun1) hS6 ?_
              simp only [Act.put, List.setIfInBounds_toArray, List.set_cons_zero, List.set_cons_succ]
              refine ready_val 13 (some 79) (goInt (st1 : Int)) w6 (by kernel_rfl) rfl rfl rfl (by go_simp) hS6 ?_
              simp only [Act.put, List.setIfInBounds_toArray, List.set_cons_zero, List.set_cons_succ]
              obtain ⟨w7, hrun2, hmap1, hg7⟩ := store_run (P := Tryz.prog) (mty := 88) hmid1 (sec b2)
              have hS7 : (fun u => u.cell? ⟨T, 1, none⟩ = some (.map (some r1)) ∧ u.cell? ⟨T, 2, none⟩ = some (.map (some r2)) ∧ Sec u (w3.heap.size + 1) 146 b2 ∧ Sec u w3.heap.size 147 mi) w7 := ⟨hg7.cell hS6.1 (by simp; omega), hg7.cell hS6.2.1 (by simp; omega), hS6.2.2.1.same (hg7.block _ hS6.2.2.1.lt (by simp; omega)), hS6.2.2.2.same (hg7.block _ hS6.2.2.2.lt (by simp; omega))⟩
              refine ready_skip 14 w7 (by kernel_rfl) rfl rfl rfl (exec_entryStore rfl rfl rfl rfl hrun2) hS7 ?_
              have hM27 : MapR w7 r2 (sec Z5) (fun s => sec (M1 s)) := HM2.out.same ((hg7.block r2 (Nat.lt_of_lt_of_le HM2.out.lt hg6.size) (by simp; omega)).trans (hg6.block r2 HM2.out.lt (by simp; omega)))
              obtain ⟨old2, st2, w8, hrun3, hmid2, hg8⟩ := entry_run (P := Tryz.prog) (w := w7) Tryz.underlying89 key81 (zero99 _) hM27 (sn : Int)
              have hS8 : (fun u => u.cell? ⟨T, 1, none⟩ = some (.map (some r1)) ∧ u.cell? ⟨T, 2, none⟩ = some (.map (some r2)) ∧ Sec u (w3.heap.size + 1) 146 b2 ∧ Sec u w3.heap.size 147 mi) w8 := ⟨hg8.cell hS7.1 (by simp; omega), hg8.cell hS7.2.1 (by simp; omega), hS7.2.2.1.same (hg8.block _ hS7.2.2.1.lt (by simp; omega)), hS7.2.2.2.same (hg8.block _ hS7.2.2.2.lt (by simp; omega))⟩
              refine ready_val 15 (some 80) (.tuple #[old2, goInt (st2 : Int)]) w8 (by kernel_rfl) rfl rfl rfl (exec_entry rfl rfl rfl hrun3) hS8 ?_
              simp only [Act.put, List.setIfInBounds_toArray, List.set_cons_zero, List.set_cons_succ]
              refine ready_val 16 (some 81) (goInt (st2 : Int)) w8 (by kernel_rfl) rfl rfl rfl (by go_simp) hS8 ?_
              simp only [Act.put, List.setIfInBounds_toArray, List.set_cons_zero, List.set_cons_succ]
              obtain ⟨w9, hrun4, hmap2, hg9⟩ := store_run (P := Tryz.prog) (mty := 89) hmid2 (sec mi)
              have hS9 : (fun u => u.cell? ⟨T, 1, none⟩ = some (.map (some r1)) ∧ u.cell? ⟨T, 2, none⟩ = some (.map (some r2)) ∧ Sec u (w3.heap.size + 1) 146 b2 ∧ Sec u w3.heap.size 147 mi) w9 := ⟨hg9.cell hS8.1 (by simp; omega), hg9.cell hS8.2.1 (by simp; omega), hS8.2.2.1.same (hg9.block _ hS8.2.2.1.lt (by simp; omega)), hS8.2.2.2.same (hg9.block _ hS8.2.2.2.lt (by simp; omega))⟩
              refine ready_skip 17 w9 (by kernel_rfl) rfl rfl rfl (exec_entryStore rfl rfl rfl rfl hrun4) hS9 ?_
              refine wpAnyH_done (by kernel_rfl) ?_ _
              have hC9 : Chg (fun q => q = r1 ∨ q = r2) w3 w9 := by
                have g6 : Chg (fun q => q = r1 ∨ q = r2) wr.drew w6 := (Chg.of_grown hg6).mono (fun i _ e => by simp at e; exact Or.inl e)
                have g7 : Chg (fun q => q = r1 ∨ q = r2) w6 w7 := (Chg.of_grown hg7).mono (fun i _ e => by simp at e; exact Or.inl e)
                have g8 : Chg (fun q => q = r1 ∨ q = r2) w7 w8 := (Chg.of_grown hg8).mono (fun i _ e => by simp at e; exact Or.inr e)
                have g9 : Chg (fun q => q = r1 ∨ q = r2) w8 w9 := (Chg.of_grown hg9).mono (fun i _ e => by simp at e; exact Or.inr e)
                exact ((((HC6.out.mono (fun _ _ h => h.elim)).trans g6).trans g7).trans g8).trans g9
              have hO9 : Ovr w9 (.map (some r1)) (.map (some r2)) (fun k => if k = (sn : Int) then b2 else B1 k) (fun k => if k = (sn : Int) then mi else M1 k) := by
                have hr1w : r1 < w7.heap.size := hmap1.lt
                refine ⟨Or.inr ⟨r1, rfl, ?_⟩, Or.inr ⟨r2, rfl, ?_⟩, fun s => ?_, fun s => ?_⟩
                · rw [upd_sec] at hmap1
                  exact hmap1.same ((hg9.block r1 (Nat.lt_of_lt_of_le hr1w hg8.size) (by simp; omega)).trans (hg8.block r1 hr1w (by simp; omega)))
                · rw [upd_sec] at hmap2
                  exact hmap2
                · show (if s = (sn : Int) then b2 else B1 s).length = 512
                  split
                  · exact hS9.2.2.1.len
                  · exact HO3.out.bl s
                · show (if s = (sn : Int) then mi else M1 s).length = 512
                  split
                  · exact hS9.2.2.2.len
                  · exact HO3.out.ml s
              have HC9 := hide hC9
              have HO9 := hide hO9
              have HT9 : Hid (Txs w9 T J (.map (some r1)) (.map (some r2)) va d) := hide ((hC9.block T hTw (by omega)).trans HT3.out)
              clear hC9 hO9 hS6 hS7 hS8 hS9 hH5 hrun1 hrun2 hrun3 hrun4 hmid1 hmid2 hmap1 hmap2 hM27 hg6 hg7 hg8 hg9
              apply_assumption
              by_cases hcp9 : cap - k = i
              · go_wp2_with fail
                go_quiet (fail)
                go_wp2_with fail
                have hp9 := HP.out
                refine ⟨⟨k + i, _, _, _, by omega, by congr 1; omega, by congr 1 <;> first | omega | rfl | (congr 2; omega), fun h => by omega, HT9.out.drewN _, HO9.out.chg (Chg.refl (fun _ => False) w9).drewN' (fun _ _ h => h), ?_, (HC3.out.trans HC9.out).drewN _⟩, by simp [intOf]; omega⟩
                have hsp : sn * 512 + fr = p := by have := HFr.out; have := HSn.out; omega
                rw [HB2.out]
                exact HV3.out.step (HO3.out.bl _) HSg.out (by omega) hby HMi1.out HMi2.out hsb HP.out hsp HGt.out
              · go_wp2_with fail
                go_quiet (fail)
                go_wp2_with fail
                have hp9 := HP.out
                refine ⟨⟨k + i, _, _, _, by omega, by congr 1; omega, by congr 1 <;> first | omega | rfl | (congr 2; omega), fun _ => rfl, HT9.out.drewN _, HO9.out.chg (Chg.refl (fun _ => False) w9).drewN' (fun _ _ h => h), ?_, (HC3.out.trans HC9.out).drewN _⟩, by simp [intOf]; omega⟩
                have hsp : sn * 512 + fr = p := by have := HFr.out; have := HSn.out; omega
                rw [HB2.out]
                exact HV3.out.step (HO3.out.bl _) HSg.out (by omega) hby HMi1.out HMi2.out hsb HP.out hsp HGt.out
      · obtain rfl : k = N := by omega
        have hd0 : decide ((0 : Int) < ((k - k : Nat) : Int)) = false := by simp
        go_wp2_with fail
        go_end0
        exact ⟨rfl, ⟨r1, r2, B1, M1, htx, hov, hr12, HRr.out, hval⟩, HCw.out.andThen hchg (fun q hq e => HX.out q e hq)⟩
end Go.Proofs.YtibkhgmmjhlpmaaGreat.Oct
