/- The bytes of clusters: the document's Runs. -/
import Derived.Test.YtcbbaoiefdbcpaaDoorPFbt
import Derived.Test.YtcbbaoiefdbcpaaDoorPFlbFlcFcw
import Derived.Lib.MinMax
import Derived.Lib.AppendZeros
import Derived.Deep.CutRange
namespace Go.Proofs.YtcbbaoiefdbcpaaDoor.Oct
open Go.RowKit

/-- So many bytes more, from a place on. -/
def addR (o : List (Int × Int)) (f n : Int) : List (Int × Int) :=
  if o = [] then [(f, f + n)]
  else if (o.getD (o.length - 1) (0, 0)).2 = f then o.set (o.length - 1) ((o.getD (o.length - 1) (0, 0)).1, f + n)
  else o ++ [(f, f + n)]

/-- The bytes of clusters, behind those so far. -/
def runsF (b : Bt) : List Int → Int → List (Int × Int) → List (Int × Int)
  | [], _, o => o
  | c :: l, s, o => if s ≤ 0 then o else runsF b l (s - min (512 * b.each) s) (addR o (b.at c) (min (512 * b.each) s))

theorem runsF_done (b : Bt) (s : Int) (hs : s ≤ 0) : ∀ (l : List Int) (o : List (Int × Int)), runsF b l s o = o
  | [], o => rfl
  | c :: l, o => by rw [runsF, if_pos hs]

theorem addR_len (o : List (Int × Int)) (f n : Int) : (addR o f n).length ≤ o.length + 1 := by
  unfold addR
  split
  · simp
  · split
    · simp
    · simp

theorem addR_nil (f n : Int) : addR [] f n = [(f, f + n)] := rfl

theorem addR_on {o : List (Int × Int)} {k : Nat} (hk : o.length = k + 1) (f n : Int) (h : (o.getD k (0, 0)).2 = f) : addR o f n = o.set k ((o.getD k (0, 0)).1, f + n) := by
  unfold addR
  rw [if_neg (by intro e; rw [e] at hk; simp at hk), show o.length - 1 = k by omega, if_pos h]

theorem addR_new {o : List (Int × Int)} {k : Nat} (hk : o.length = k + 1) (f n : Int) (h : (o.getD k (0, 0)).2 ≠ f) : addR o f n = o ++ [(f, f + n)] := by
  unfold addR
  rw [if_neg (by intro e; rw [e] at hk; simp at hk), show o.length - 1 = k by omega, if_neg h]

theorem set_app (o : List (Int × Int)) (x y : Int × Int) : (o ++ [x]).set o.length y = o ++ [y] := by
  rw [List.set_append_right _ _ (Nat.le_refl _)]
  simp

theorem runsF_step (b : Bt) (l : List Int) (j : Nat) (hj : j < l.length) (s : Int) (o : List (Int × Int)) (hs : ¬ s ≤ 0) : runsF b (l.drop j) s o = runsF b (l.drop (j + 1)) (s - min (512 * b.each) s) (addR o (b.at (l.getD j 0)) (min (512 * b.each) s)) := by
  rw [List.drop_eq_getElem_cons hj, runsF, if_neg hs]
  simp [hj]

/-- Where a cluster of a volume begins: the numbers are small. -/
theorem at_near {b : Bt} (hf : b.form = true) {n : Int} (h0 : 0 ≤ n) (h1 : n ≤ 100000) : -8192 ≤ b.at n ∧ b.at n ≤ 1100000000 := by
  have hfs := Bt.form_says hf
  have hfn := Bt.form_near hf
  have hdd : 0 ≤ b.data ∧ b.data ≤ 70000 := by unfold Bt.data; omega
  have hp : 0 ≤ (n - 2) * (512 * b.each) + 8192 ∧ (n - 2) * (512 * b.each) ≤ 1000000000 := by
    have he : b.each = 1 ∨ b.each = 2 ∨ b.each = 3 ∨ b.each = 4 ∨ b.each = 5 ∨ b.each = 6 ∨ b.each = 7 ∨ b.each = 8 := by omega
    rcases he with e | e | e | e | e | e | e | e <;> rw [e] <;> omega
  unfold Bt.at
  omega

theorem each_near {b : Bt} (hf : b.form = true) : 1 ≤ b.each ∧ b.each ≤ 8 := by
  have hfs := Bt.form_says hf
  omega

theorem atW_near {b : Bt} (hf : b.form = true) {n : Int} (h0 : 0 ≤ n) (h1 : n ≤ 100000) : b.atW n = b.at n := by
  have h := at_near hf h0 h1
  unfold Bt.atW
  have e : 512 * (b.data + (n - 2) * b.each) = b.at n := by
    unfold Bt.at
    rw [Int.mul_add, Int.mul_left_comm 512 (n - 2) b.each]
    omega
  rw [e, IntKind.wrap_i64]
  omega
end Go.Proofs.YtcbbaoiefdbcpaaDoor.Oct

namespace Go.Proofs.YtcbbaoiefdbcpaaDoor.Oct
open Go.RowKit

theorem liesE_cellsR {w : World} {x : Addr} {M : List (Int × Int)} (h : LiesE w (some x) M) : ∀ j u, (M.flatMap encE)[j]? = some u → w.cell? (x.add j) = some u := by
  intro j u hj
  have hjl : j < M.length * 2 := by
    rw [← flatE_len]
    exact (List.getElem?_eq_some_iff.1 hj).1
  rcases h with h | ⟨b, off, e, _, hc⟩
  · subst h; simp at hjl
  · cases e
    have hk : j / 2 < M.length := by omega
    obtain ⟨c0, c1⟩ := hc (j / 2) hk
    have hf := flatE_get M (j / 2) (j % 2) hk (by omega)
    rw [show j / 2 * 2 + j % 2 = j by omega, hj] at hf
    rw [Go.WideShapes.add_plain]
    have hm : j % 2 = 0 ∨ j % 2 = 1 := by omega
    rcases hm with hm | hm
    · rw [hm] at hf
      simp [encE] at hf
      rw [show off + j = off + j / 2 * 2 by omega, c0, hf]
      simp
    · rw [hm] at hf
      simp [encE] at hf
      rw [show off + j = off + j / 2 * 2 + 1 by omega, c1, hf]
      simp

theorem wpList_append_R {w : World} {ops : Array Oper} {rest : List Oper} {o : Oper} {a : Act} {Q : Exit → Act → World → Prop} (hgd : o.guard = none) (s x : Operand) (t : TypeId)
    (ho : o.op = .call { callee := .builtin .append, args := #[s, x], argTypes := #[t, t] }) (ht : Tryd.prog.underlying t = some (.slice 72)) (B : Nat) (v : Value) (O : List (Int × Int)) (hs : a.eval s = v) (hown : OwnE w B v O)
    (g : Nat) (y z : Int) (hx : a.eval x = .slice (some ⟨g, 0, none⟩) 1 1) (hl : LiesE w (some ⟨g, 0, none⟩) [(y, z)]) (hlen : O.length ≤ 10000000) (hB : B ≤ w.heap.size)
    (h : ∀ v' w', OwnE w' B v' (O ++ [(y, z)]) → w.grownBy w' v.ownBlock → wpList Tryd.prog ops Q rest (a.put o.dst v') w') : wpList Tryd.prog ops Q (o :: rest) a w := by
  obtain ⟨i, hi, hz0, hz1, hz2⟩ := info_parts info_E
  obtain ⟨v', w', hrun, ho', hg, _⟩ := run_append_own (P := Tryd.prog) w B t o.type 72 i (.agg #[.int .i64 0, .int .i64 0]) 2 16 ht hi hz0 hz1 hz2 rfl (by decide) v O.length (O.flatMap encE) hown ⟨g, 0, none⟩ 1 1 ([(y, z)].flatMap encE) (flatE_len [(y, z)])
    (liesE_cellsR hl) (by
      intro u hu
      obtain ⟨p, _, hp⟩ := List.mem_flatMap.1 hu
      simp [encE] at hp
      rcases hp with rfl | rfl <;> rfl) (by unfold maxLen; omega) (by omega) hB
  have hO : OwnE w' B v' (O ++ [(y, z)]) := by
    unfold OwnE
    rw [List.flatMap_append, List.length_append]
    exact ho'
  refine wpList_plain hgd fun K hK => ?_
  unfold Oper.wp
  simp [execOp, ho, resolve, invoke, builtin, hs, hx, hrun, Result.andThen]
  exact hK _ _ (h v' w' hO hg)

theorem lies_box (w : World) (x1 x2 : Int) : LiesE (w.alloc (.cells #[.int .i64 x1, .int .i64 x2] 72)) (some ⟨w.heap.size, 0, none⟩) [(x1, x2)] := by
  have h : (w.alloc (.cells #[.int .i64 x1, .int .i64 x2] 72)).heap[w.heap.size]? = some (.cells #[.int .i64 x1, .int .i64 x2] 72) := heap_alloc_new w _
  refine Or.inr ⟨w.heap.size, 0, rfl, by simp, fun k hk => ?_⟩
  simp only [World.cell?, h]
  match k, hk with
  | 0, _ => exact ⟨rfl, rfl⟩

/-- The last part's end is stored. -/
theorem OwnE.put_to {w : World} {B g n c : Nat} {O : List (Int × Int)} (h : OwnE w B (.slice (some ⟨g, 0, none⟩) n c) O) (hn : n = O.length) (k : Nat) (hk : k < O.length) (y : Int) :
    OwnE (w.setCell ⟨g, k * 2 + 1, none⟩ (.int .i64 y)) B (.slice (some ⟨g, 0, none⟩) n c) (O.set k ((O.getD k (0, 0)).1, y)) ∧ w.grownBy (w.setCell ⟨g, k * 2 + 1, none⟩ (.int .i64 y)) (some g) := by
  subst hn
  unfold OwnE at h
  obtain ⟨h1, h2⟩ := World.ownsRow.stored (w := w) h (k * 2 + 1) (.int .i64 y)
  refine ⟨?_, h2⟩
  unfold OwnE
  rw [← setE O k _ y hk rfl, List.length_set]
  exact h1

theorem OwnE.frz {w : World} {B g n c : Nat} {O : List (Int × Int)} (h : OwnE w B (.slice (some ⟨g, 0, none⟩) n c) O) (hn : n = O.length) (j : Nat) : w.frozen? ⟨g, j, none⟩ = false := by
  subst hn
  unfold OwnE at h
  exact World.ownsRow.frozenAt h j

theorem own_someR {w : World} {B : Nat} {v : Value} {O : List (Int × Int)} (h : OwnE w B v O) (hn : 0 < O.length) : ∃ g c, v = .slice (some ⟨g, 0, none⟩) O.length c ∧ B ≤ g ∧ g < w.heap.size := by
  rcases row_form2 h with ⟨_, e⟩ | ⟨g, c, e, h1, h2⟩
  · rw [e] at hn; simp at hn
  · exact ⟨g, c, e, h1, h2⟩

theorem own_oneR {w : World} {B : Nat} {v : Value} {O : List (Int × Int)} {x : Int × Int} (h : OwnE w B v (O ++ [x])) : ∃ g c, v = .slice (some ⟨g, 0, none⟩) (O.length + 1) c ∧ B ≤ g := by
  obtain ⟨g, c, e, h1, _⟩ := own_someR h (by simp)
  exact ⟨g, c, by rw [e]; simp, h1⟩

theorem last_app (O : List (Int × Int)) (x : Int × Int) (k : Nat) (hk : O.length = k) : (O ++ [x]).getD k (0, 0) = x := by
  subst hk
  simp

theorem LiesC.at_ {w : World} {v : Value} {L : List Int} (h : LiesC w v L) {k : Nat} (hk : k < L.length) : ∃ b off c, v = .slice (some ⟨b, off, none⟩) L.length c ∧ w.cell? ⟨b, off + k, none⟩ = some (.int .i64 (L.getD k 0)) := by
  obtain ⟨a, c, rfl, h | ⟨b, off, rfl, hc⟩⟩ := h
  · rw [h] at hk; simp at hk
  · exact ⟨b, off, c, rfl, hc k _ (by simp [hk])⟩

set_option maxHeartbeats 8000000 in
set_option maxRecDepth 100000 in
theorem runs_any (b : Bt) (R g k : Nat) (f x : Int) (l : List Int) (v : Value) (size : Int) (w : World) (hf : b.form = true) (hR : Blk w R (volC b g k f x) 68) (hl : LiesC w v l) (hin : ∀ c ∈ l, 0 ≤ c ∧ c ≤ 100000) (hL : l.length ≤ 100000) (hsz : -9223372036854775808 ≤ size ∧ size ≤ 9223372036854775807) :
    Calls Tryd.prog 12 #[.pointer (some ⟨R, 0, none⟩), v, .int .i64 size] w fun e w' => (∃ v', e = .returned v' ∧ OwnE w' w.heap.size v' (runsF b l size [])) ∧ Below w.heap.size w w' := by
  have HAt := fun (n : Int) (h0 : 0 ≤ n) (h1 : n ≤ 100000) (u : World) => hide (at_ok b n u hf h0 h1)
  have HNr := fun (n : Int) (h0 : 0 ≤ n) (h1 : n ≤ 100000) => at_near hf h0 h1
  have hea := each_near hf
  obtain ⟨E, hE⟩ : ∃ E, E = 512 * b.each := ⟨_, rfl⟩
  have HE := hide hE
  have HEb := hide (show 512 ≤ E ∧ E ≤ 4096 by omega)
  have HL := hide hl
  have HR := hide hR
  have HIn := hide hin
  obtain ⟨a0, c0, hv0, _⟩ := hl
  obtain ⟨N, hN⟩ : ∃ N, N = l.length := ⟨_, rfl⟩
  rw [← hN] at hv0 hL
  have HN := hide hN
  obtain ⟨F0, hF0⟩ : ∃ F0, F0 = runsF b l size [] := ⟨_, rfl⟩
  rw [← hF0]
  have HF0 := hide hF0
  have HSz := hide hsz
  have HLl := hide hL
  subst hv0
  clear hf hR hin hL hsz hE hN hF0 hea
  go_enter Tryd.func12, Tryd.ntmps12
  go_wp2_with fail
  go_loopw [2, 7, 17] (fun s r i wr => ∃ (j : Nat) (S : Int) (O : List (Int × Int)), j ≤ N ∧ s = .int .i64 S ∧ (-9223372036854775808 ≤ S ∧ S ≤ 9223372036854775807) ∧ i = .int .i64 (j : Int) ∧ O.length ≤ j ∧ OwnE wr w.heap.size r O ∧ F0 = runsF b (l.drop j) S O ∧ Below w.heap.size w wr) (fun _ _ i _ => N - (intOf i).toNat)
  case atStart => exact ⟨0, size, [], by omega, rfl, HSz.out, rfl, by simp, OwnE.nil _ _, by rw [List.drop_zero]; exact HF0.out, Below.refl _ _⟩
  case round =>
    obtain ⟨j, S, O, hj, rfl, hS, rfl, hOj, how, hfo, hbw⟩ := hrel
    have HO := hide how
    have HFo := hide hfo
    have HBw := hide hbw
    have HLr := hide (HL.out.below hbw)
    have HSb := hide hS
    clear how hfo hbw hS
    by_cases hlt : j < N
    · have hltI : (j : Int) < (N : Int) := by omega
      obtain ⟨cb, co, cc, hve, cj⟩ := HLr.out.at_ (k := j) (by rw [← HN.out]; exact hlt)
      have ha0 : a0 = some ⟨cb, co, none⟩ := by simp at hve; exact hve.1
      subst ha0
      clear hve
      obtain ⟨c, hc⟩ : ∃ c, c = l.getD j 0 := ⟨_, rfl⟩
      rw [← hc] at cj
      have hcm : 0 ≤ c ∧ c ≤ 100000 := HIn.out c (by
        have : l.getD j 0 = l[j]'(by rw [← HN.out]; exact hlt) := by simp [show j < l.length by rw [← HN.out]; exact hlt]
        rw [hc, this]
        exact List.getElem_mem _)
      have HAc := HAt c hcm.1 hcm.2
      have hnr := HNr c hcm.1 hcm.2
      have HSt := hide (fun hs => runsF_step b l j (by rw [← HN.out]; exact hlt) S O hs)
      have HSd := hide (fun hs => runsF_done b S hs (l.drop j) O)
      rw [← hc] at HSt
      have HR2 := hide (HR.out.below HBw.out)
      have d0 := HR2.out.cell 0 _ rfl
      have d1 := HR2.out.cell 1 _ rfl
      have d2 := HR2.out.cell 2 _ rfl
      have d3 := HR2.out.cell 3 _ rfl
      have d4 := HR2.out.cell 4 _ rfl
      have d5 := HR2.out.cell 5 _ rfl
      have d6 := HR2.out.cell 6 _ rfl
      have d7 := HR2.out.cell 7 _ rfl
      rw [← HE.out] at HAc HSt
      obtain ⟨X, hX⟩ : ∃ X, X = b.at c := ⟨_, rfl⟩
      rw [← hX] at HAc HSt hnr
      have hXE : IntKind.i64.wrap (X + E - X) = E := by rw [IntKind.wrap_i64]; have := HEb.out; omega
      obtain ⟨M, hM⟩ : ∃ M, min E S = M := ⟨_, rfl⟩
      rw [hM] at HSt
      have HMb := hide (show M ≤ E ∧ M ≤ S ∧ (M = E ∨ M = S) by omega)
      have HX := hide hX
      have HNx := hide hnr
      have q1 : IntKind.i64.wrap ((j : Int) + 1) = (j : Int) + 1 := by rw [IntKind.wrap_i64]; have := HLl.out; omega
      have HJ := hide (And.intro hlt hOj)
      clear hc hcm hX hnr hlt hj hOj
      go_wp2_with fail
      refine ((HAc _).out).mono ?_
      rintro e9 w4 ⟨rfl, hb4⟩
      have HO4 := hide (HO.out.below hb4)
      have HB4 := hide (HBw.out.trans (hb4.mono HBw.out.size))
      obtain ⟨w5, hw5⟩ : ∃ w5, w5 = w4.alloc (.cells #[.int .i64 X, .int .i64 (X + E)] 72) := ⟨_, rfl⟩
      have hb5 : Below w4.heap.size w4 w5 := by rw [hw5]; exact (Below.refl _ _).alloc (Nat.le_refl _) _
      have HO5 := hide (HO4.out.below hb5)
      have HB5 := hide (HB4.out.trans (hb5.mono HB4.out.size))
      obtain ⟨x0, x1⟩ := box2e w4 72 (.int .i64 X) (.int .i64 (X + E))
      have HG := hide (show w.heap.size ≤ w4.heap.size ∧ w4.heap.size < w5.heap.size by rw [hw5]; have := HB4.out.size; simp; omega)
      have HW5 := hide hw5
      rw [← hw5] at x0 x1
      have HX01 := hide (And.intro x0 x1)
      clear x0 x1
      clear hb4 hb5 hw5 d0 d1 d2 d3 d4 d5 d6 d7 cj
      obtain ⟨ao, cO, hvo, _, hoc, hom, _⟩ := HO.out.form
      subst hvo
      have x0 := HX01.out.1
      have x1 := HX01.out.2
      rw [HW5.out] at x0 x1
      by_cases hM0 : M ≤ 0
      · have hS0 : S ≤ 0 := by have := HMb.out; have := HEb.out; omega
        have HFin := hide (HFo.out.trans (HSd.out hS0))
        clear hS0
        go_wp2_with fail
        go_ret
        rw [← HW5.out]
        exact ⟨⟨_, rfl, by rw [HFin.out]; exact HO5.out⟩, HB5.out⟩
      · have hS0 : ¬ S ≤ 0 := by have := HMb.out; have := HEb.out; omega
        have HFin := hide (HFo.out.trans (HSt.out (by omega)))
        have q2 : IntKind.i64.wrap (S - M) = S - M := by rw [IntKind.wrap_i64]; have := HSb.out; have := HMb.out; have := HEb.out; omega
        have HS2 := hide (show -9223372036854775808 ≤ S - M ∧ S - M ≤ 9223372036854775807 by have := HSb.out; have := HMb.out; have := HEb.out; omega)
        have q3 : IntKind.i64.wrap (X + M) = X + M := by rw [IntKind.wrap_i64]; have := HNx.out; have := HMb.out; have := HEb.out; omega
        have HLa := hide (addR_len O X M)
        clear hS0
        -- ROUND
        obtain ⟨K, hK⟩ : ∃ K, K = O.length := ⟨_, rfl⟩
        rw [← hK] at HO5 hoc HLa HJ ⊢
        have HK := hide hK.symm
        by_cases hO0 : O = []
        · have HAd := hide (show addR O X M = O ++ [(X, X + M)] by rw [hO0]; rfl)
          obtain ⟨L, hL⟩ : ∃ L, L = (K : Int) - 1 := ⟨_, rfl⟩
          have hL1 : IntKind.i64.wrap ((K : Int) - 1) = L := by rw [IntKind.wrap_i64]; have := HJ.out; have := HLl.out; omega
          have hL2 : IntKind.i64.wrap (L + 1) = (K : Int) := by rw [IntKind.wrap_i64]; have := HJ.out; have := HLl.out; omega
          have hL3 : decide (L < 0) = true := by rw [hO0] at hK; simp at hK; simp; omega
          clear hL hO0 hoc hom hK
          go_wp2_with fail
          go_quiet (fail)
          generalize hW : (w4.alloc (.cells #[.int .i64 X, .int .i64 (X + E)] 72)).drewN nq = W2
          have f0 : W2.cell? ⟨w4.heap.size, 0, none⟩ = some (.int .i64 X) := by rw [← hW]; exact x0
          have ho2 : OwnE W2 w.heap.size (.slice ao K cO) O := by rw [← hW, ← HW5.out]; exact HO5.out
          have hb2 : Below w.heap.size w W2 := by rw [← hW, ← HW5.out]; exact below_ahead HB5.out _
          have HO3 := hide (World.ownsRow.alloc ho2 (.cells #[.int .i64 X, .int .i64 X] 72))
          have HB3 := hide (hb2.alloc hb2.size (.cells #[.int .i64 X, .int .i64 X] 72))
          have HN3 := hide (lies_box W2 X X)
          clear hW ho2 hb2 x0 x1
          go_wp2_with (at_builtin; refine wpList_append_R rfl (.tmp 54) (.tmp 60) 47 rfl Tryd.underlying47 w.heap.size _ O rfl (by exact HO3.out) W2.heap.size X X rfl (by exact HN3.out) (by have := HK.out; have := HJ.out; have := HLl.out; omega) HB3.out.size ?_; intro v6 w6 ho6 hg6; have HB6 := hide (HB3.out.grown hg6 HB3.out.size (fun q hq => (World.ownsRow.lt HO3.out q hq).1)); clear hg6; obtain ⟨g6, c6, hv6, hg7⟩ := own_oneR ho6; have HG6 := hide hg7; rw [HK.out] at hv6; subst hv6; have HO6 := hide ho6; obtain ⟨hst1, hst2⟩ := OwnE.put_to (w := w6) ho6 (by rw [← HK.out]; simp) K (by rw [← HK.out]; simp) (X + M); have HO7 := hide hst1; have HB7 := hide (HB6.out.grown hst2 HB6.out.size (fun q hq => by simp at hq; omega)); have fl := (OwnE.cells ho6 K (by rw [← HK.out]; simp)).2; rw [last_app _ _ _ HK.out] at fl; have fz := OwnE.frz ho6 (by rw [← HK.out]; simp) (K * 2 + 1); have hnk : (K : Int) < ((K + 1 : Nat) : Int) := (by omega); clear ho6 hg7 hst1 hst2)
          exact ⟨⟨j + 1, S - M, _, by have := HJ.out; omega, rfl, HS2.out, by go_num, by have h1 := HLa.out; have h2 := HJ.out; omega, by rw [HAd.out, ← set_app O (X, X) (X, X + M), HK.out]; have h := HO7.out; rw [last_app _ _ _ HK.out] at h; exact h, HFin.out, HB7.out⟩, by have := HJ.out; simp [intOf]; omega⟩
        · obtain ⟨m, hm⟩ : ∃ m, K = m + 1 := ⟨K - 1, by have := List.length_pos_iff.2 hO0; omega⟩
          have hL1 : IntKind.i64.wrap ((K : Int) - 1) = (m : Int) := by rw [IntKind.wrap_i64]; have := HJ.out; have := HLl.out; omega
          have hL2 : IntKind.i64.wrap ((m : Int) + 1) = (K : Int) := by rw [IntKind.wrap_i64]; have := HJ.out; have := HLl.out; omega
          have hL3 : decide ((m : Int) < 0) = false := by simp
          have hL4 : (0 : Int) ≤ (m : Int) := by omega
          have hL5 : (m : Int) < (K : Int) := by omega
          have hmK : O.length = m + 1 := by omega
          obtain ⟨g, cap, hv, hg1, hg2⟩ := own_someR HO5.out (by omega)
          have hao : ao = some ⟨g, 0, none⟩ := by simp at hv; exact hv.1
          subst hao
          clear hv
          have hcl := (OwnE.cells HO5.out m (by omega)).2
          rw [HW5.out] at hcl
          obtain ⟨l2, hl2⟩ : ∃ l2, l2 = (O.getD m (0, 0)).2 := ⟨_, rfl⟩
          rw [← hl2] at hcl
          have HG := hide (And.intro hg1 hg2)
          have HM1 := hide hmK
          by_cases hlx : l2 = X
          · have HAd := hide (addR_on hmK X M (by rw [← hl2]; exact hlx))
            have hq : decide (l2 = X) = true := by simpa using hlx
            have hq2 : (l2 == X) = true := by simpa using hlx
            have hq3 : (l2 != X) = false := by simpa using hlx
            clear hl2 hmK hm hK hoc hom hO0 hg1 hg2
            go_wp2_with fail
            go_quiet (fail)
            generalize hW : (w4.alloc (.cells #[.int .i64 X, .int .i64 (X + E)] 72)).drewN nq = W2
            have fl : W2.cell? ⟨g, m * 2 + 1, none⟩ = some (.int .i64 l2) := by rw [← hW]; exact hcl
            have ho2 : OwnE W2 w.heap.size (.slice (some ⟨g, 0, none⟩) K cO) O := by rw [← hW, ← HW5.out]; exact HO5.out
            have hb2 : Below w.heap.size w W2 := by rw [← hW, ← HW5.out]; exact below_ahead HB5.out _
            have fz := OwnE.frz ho2 HK.out.symm (m * 2 + 1)
            obtain ⟨hst1, hst2⟩ := OwnE.put_to (w := W2) ho2 HK.out.symm m (by have := HM1.out; omega) (X + M)
            have HO7 := hide hst1
            have HB7 := hide (hb2.grown hst2 hb2.size (fun q hq => by simp at hq; have := HG.out; omega))
            rw [hlx] at fl
            clear hW ho2 hb2 x0 x1 hcl hst1 hst2 hq hq2 hq3 hlx
            go_wp2_with fail
            exact ⟨⟨j + 1, S - M, _, by have := HJ.out; omega, rfl, HS2.out, by go_num, by have h1 := HLa.out; have h2 := HJ.out; omega, by rw [HAd.out]; exact HO7.out, HFin.out, HB7.out⟩, by have := HJ.out; simp [intOf]; omega⟩
          · have HAd := hide (addR_new hmK X M (by rw [← hl2]; exact hlx))
            have hq : decide (l2 = X) = false := by simpa using hlx
            have hq2 : (l2 == X) = false := by simpa using hlx
            have hq3 : (l2 != X) = true := by simpa using hlx
            clear hl2 hmK hm hK hoc hom hO0 hg1 hg2
            go_wp2_with fail
            go_quiet (fail)
            generalize hW : (w4.alloc (.cells #[.int .i64 X, .int .i64 (X + E)] 72)).drewN nq = W2
            have f0 : W2.cell? ⟨w4.heap.size, 0, none⟩ = some (.int .i64 X) := by rw [← hW]; exact x0
            have ho2 : OwnE W2 w.heap.size (.slice (some ⟨g, 0, none⟩) K cO) O := by rw [← hW, ← HW5.out]; exact HO5.out
            have hb2 : Below w.heap.size w W2 := by rw [← hW, ← HW5.out]; exact below_ahead HB5.out _
            have HO3 := hide (World.ownsRow.alloc ho2 (.cells #[.int .i64 X, .int .i64 X] 72))
            have HB3 := hide (hb2.alloc hb2.size (.cells #[.int .i64 X, .int .i64 X] 72))
            have HN3 := hide (lies_box W2 X X)
            clear hW ho2 hb2 x0 x1
            go_wp2_with (at_builtin; refine wpList_append_R rfl (.tmp 54) (.tmp 60) 47 rfl Tryd.underlying47 w.heap.size _ O rfl (by exact HO3.out) W2.heap.size X X rfl (by exact HN3.out) (by have := HK.out; have := HJ.out; have := HLl.out; omega) HB3.out.size ?_; intro v6 w6 ho6 hg6; have HB6 := hide (HB3.out.grown hg6 HB3.out.size (fun q hq => (World.ownsRow.lt HO3.out q hq).1)); clear hg6; obtain ⟨g6, c6, hv6, hg7⟩ := own_oneR ho6; have HG6 := hide hg7; rw [HK.out] at hv6; subst hv6; have HO6 := hide ho6; obtain ⟨hst1, hst2⟩ := OwnE.put_to (w := w6) ho6 (by rw [← HK.out]; simp) K (by rw [← HK.out]; simp) (X + M); have HO7 := hide hst1; have HB7 := hide (HB6.out.grown hst2 HB6.out.size (fun q hq => by simp at hq; omega)); have fl := (OwnE.cells ho6 K (by rw [← HK.out]; simp)).2; rw [last_app _ _ _ HK.out] at fl; have fz := OwnE.frz ho6 (by rw [← HK.out]; simp) (K * 2 + 1); have hnk : (K : Int) < ((K + 1 : Nat) : Int) := (by omega); clear ho6 hg7 hst1 hst2)
            exact ⟨⟨j + 1, S - M, _, by have := HJ.out; omega, rfl, HS2.out, by go_num, by have h1 := HLa.out; have h2 := HJ.out; omega, by rw [HAd.out, ← set_app O (X, X) (X, X + M), HK.out]; have h := HO7.out; rw [last_app _ _ _ HK.out] at h; exact h, HFin.out, HB7.out⟩, by have := HJ.out; simp [intOf]; omega⟩
    · obtain rfl : j = N := by omega
      have hnlt : ¬ ((j : Int) < (j : Int)) := by omega
      have HFin := hide (show F0 = O by have h := HFo.out; rw [HN.out, List.drop_length] at h; exact h)
      go_wp2_with fail
      go_ret
      exact ⟨⟨_, rfl, by rw [HFin.out]; exact HO.out⟩, HBw.out⟩
end Go.Proofs.YtcbbaoiefdbcpaaDoor.Oct

namespace Go.Proofs.YtcbbaoiefdbcpaaDoor.Oct
open Go.RowKit

theorem Chg.setR {X : Nat → Prop} {w w' : World} (h : Chg X w w') (F o : Nat) (v : Value) (hx : X F) : Chg X w (w'.setCell ⟨F, o, none⟩ v) := by
  refine ⟨h.os, h.tape, h.output, ?_, fun i hi hxi => ?_⟩
  · have := h.size
    simpa [World.setCell] using this
  · have hne : i ≠ F := fun e => hxi (e ▸ hx)
    rw [← h.block i hi hxi]
    simp [World.setCell, Array.getElem?_modify, Ne.symm hne]

set_option maxHeartbeats 8000000 in
set_option maxRecDepth 100000 in
theorem rruns_any (b : Bt) (l : List Int) (v : Value) (size : Int) (w : World) (hf : b.form = true) (hl : LiesC w v l) (hin : ∀ c ∈ l, 0 ≤ c ∧ c ≤ 100000) (hL : l.length ≤ 100000) (hsz : -9223372036854775808 ≤ size ∧ size ≤ 9223372036854775807) :
    Calls Tryd.prog 13 #[.agg b.cs, v, .int .i64 size] w fun e w' => (∃ v', e = .returned v' ∧ OwnE w' w.heap.size v' (runsF b l size [])) ∧ Below w.heap.size w w' := by
  have hea := each_near hf
  have HAt := fun (n : Int) (h0 : 0 ≤ n) (h1 : n ≤ 100000) (u : World) => hide (by
    have h := rat_far b n u (Bt.form_near hf).1 (by omega) (by omega)
    rw [atW_near hf h0 h1, show IntKind.i64.wrap (b.at n + 512 * b.each) = b.at n + 512 * b.each by rw [IntKind.wrap_i64]; have := at_near hf h0 h1; omega] at h
    exact h)
  have HNr := fun (n : Int) (h0 : 0 ≤ n) (h1 : n ≤ 100000) => at_near hf h0 h1
  obtain ⟨w1, hw1⟩ : ∃ w1, w1 = w.alloc (.cells b.cs 36) := ⟨_, rfl⟩
  have HR := hide (show Blk w1 w.heap.size b.cs 36 by rw [hw1]; exact Blk.new _ _ _)
  have hb1 : Below w.heap.size w w1 := by rw [hw1]; exact (Below.refl _ _).alloc (Nat.le_refl _) _
  have HB1 := hide hb1
  have HW1 := hide hw1
  obtain ⟨E, hE⟩ : ∃ E, E = 512 * b.each := ⟨_, rfl⟩
  have HE := hide hE
  have HEb := hide (show 512 ≤ E ∧ E ≤ 4096 by omega)
  have HL := hide (hl.below hb1)
  have HIn := hide hin
  obtain ⟨a0, c0, hv0, _⟩ := hl
  obtain ⟨N, hN⟩ : ∃ N, N = l.length := ⟨_, rfl⟩
  rw [← hN] at hv0 hL
  have HN := hide hN
  obtain ⟨F0, hF0⟩ : ∃ F0, F0 = runsF b l size [] := ⟨_, rfl⟩
  rw [← hF0]
  have HF0 := hide hF0
  have HSz := hide hsz
  have HLl := hide hL
  subst hv0
  clear hf hin hL hsz hE hN hF0 hea hw1 hb1
  go_enter Tryd.func13, Tryd.ntmps13
  go_wp2_with fail
  rw [show w.alloc _ = w1 from HW1.out.symm]
  go_loopw [2, 7, 8] (fun s r i wr => ∃ (j : Nat) (S : Int) (O : List (Int × Int)), j ≤ N ∧ s = .int .i64 S ∧ (-9223372036854775808 ≤ S ∧ S ≤ 9223372036854775807) ∧ i = .int .i64 (j : Int) ∧ O.length ≤ j ∧ OwnE wr w1.heap.size r O ∧ F0 = runsF b (l.drop j) S O ∧ Below w1.heap.size w1 wr) (fun _ _ i _ => N - (intOf i).toNat)
  case atStart => exact ⟨0, size, [], by omega, rfl, HSz.out, rfl, by simp, OwnE.nil _ _, by rw [List.drop_zero]; exact HF0.out, Below.refl _ _⟩
  case round =>
    obtain ⟨j, S, O, hj, rfl, hS, rfl, hOj, how, hfo, hbw⟩ := hrel
    have HO := hide how
    have HFo := hide hfo
    have HBw := hide hbw
    have HLr := hide (HL.out.below hbw)
    have HSb := hide hS
    clear how hfo hbw hS
    by_cases hlt : j < N
    · have hltI : (j : Int) < (N : Int) := by omega
      obtain ⟨cb, co, cc, hve, cj⟩ := HLr.out.at_ (k := j) (by rw [← HN.out]; exact hlt)
      have ha0 : a0 = some ⟨cb, co, none⟩ := by simp at hve; exact hve.1
      subst ha0
      clear hve
      obtain ⟨c, hc⟩ : ∃ c, c = l.getD j 0 := ⟨_, rfl⟩
      rw [← hc] at cj
      have hcm : 0 ≤ c ∧ c ≤ 100000 := HIn.out c (by
        have : l.getD j 0 = l[j]'(by rw [← HN.out]; exact hlt) := by simp [show j < l.length by rw [← HN.out]; exact hlt]
        rw [hc, this]
        exact List.getElem_mem _)
      have HAc := HAt c hcm.1 hcm.2
      have hnr := HNr c hcm.1 hcm.2
      have HSt := hide (fun hs => runsF_step b l j (by rw [← HN.out]; exact hlt) S O hs)
      have HSd := hide (fun hs => runsF_done b S hs (l.drop j) O)
      rw [← hc] at HSt
      rw [← HE.out] at HAc HSt
      obtain ⟨X, hX⟩ : ∃ X, X = b.at c := ⟨_, rfl⟩
      rw [← hX] at HAc HSt hnr
      have HX := hide hX
      have HNx := hide hnr
      have q1 : IntKind.i64.wrap ((j : Int) + 1) = (j : Int) + 1 := by rw [IntKind.wrap_i64]; have := HLl.out; omega
      have HJ := hide (And.intro hlt hOj)
      clear hc hcm hX hnr hlt hj hOj
      obtain ⟨ao, cO, hvo, _, hoc, hom, _⟩ := HO.out.form
      subst hvo
      by_cases hS0 : 0 < S
      · have HFin := hide (HFo.out.trans (HSt.out (by omega)))
        obtain ⟨M, hM⟩ : ∃ M, min E S = M := ⟨_, rfl⟩
        rw [hM] at HFin
        have HMb := hide (show M ≤ E ∧ M ≤ S ∧ (E ≤ S → M = E) ∧ (S < E → M = S) ∧ 1 ≤ M by have := HEb.out; omega)
        clear hM HSt HSd
        have HRd := hide (HR.out.below HBw.out).drew
        have hsb : wr.drew.cell? ⟨w.heap.size, 0, none⟩ = some (.int .i64 b.each) ∧ wr.drew.cell? ⟨w.heap.size, 1, none⟩ = some (.int .i64 b.ahead) ∧ wr.drew.cell? ⟨w.heap.size, 2, none⟩ = some (.int .i64 b.tabs) ∧ wr.drew.cell? ⟨w.heap.size, 3, none⟩ = some (.int .i64 b.secs) ∧ wr.drew.cell? ⟨w.heap.size, 4, none⟩ = some (.int .i64 b.long) ∧ wr.drew.cell? ⟨w.heap.size, 5, none⟩ = some (.int .i64 b.root) ∧ wr.drew.cell? ⟨w.heap.size, 6, none⟩ = some (.int .i64 b.info) ∧ wr.drew.cell? ⟨w.heap.size, 7, none⟩ = some (.int .i64 b.copy) := cells_of HRd.out
        have hcj : wr.drew.cell? ⟨cb, co + j, none⟩ = some (.int .i64 c) := cj
        go_upto_region 5 with fail
        go_cut [9] from 21 to 71 (fun v9 wx => ∃ P, v9 = .pointer (some ⟨P, 0, none⟩) ∧ wr.heap.size ≤ P ∧ Blk wx P #[.int .i64 X, .int .i64 (X + E)] 72 ∧ Below wr.heap.size wr wx)
        case first =>
          have hbz : Below wr.heap.size wr (wr.alloc (.cells #[.int .i64 0, .int .i64 0] 72)).drew := ((Below.refl _ _).alloc (Nat.le_refl _) _).drew
          have HKz := hide (Blk.new wr #[.int .i64 0, .int .i64 0] 72).drew
          have hcb : cb < wr.heap.size := lt_of_cell cj
          have HRw := hide (HR.out.below HBw.out)
          have HSS : ∀ u, Below wr.heap.size wr u → (u.cell? ⟨w.heap.size, 0, none⟩ = some (.int .i64 b.each) ∧ u.cell? ⟨w.heap.size, 1, none⟩ = some (.int .i64 b.ahead) ∧ u.cell? ⟨w.heap.size, 2, none⟩ = some (.int .i64 b.tabs) ∧ u.cell? ⟨w.heap.size, 3, none⟩ = some (.int .i64 b.secs) ∧ u.cell? ⟨w.heap.size, 4, none⟩ = some (.int .i64 b.long) ∧ u.cell? ⟨w.heap.size, 5, none⟩ = some (.int .i64 b.root) ∧ u.cell? ⟨w.heap.size, 6, none⟩ = some (.int .i64 b.info) ∧ u.cell? ⟨w.heap.size, 7, none⟩ = some (.int .i64 b.copy)) ∧ u.cell? ⟨cb, co + j, none⟩ = some (.int .i64 c) := fun u hu => ⟨cells_of (HRw.out.below hu), (hu.cell (p := ⟨cb, co + j, none⟩) hcb).trans cj⟩
          go_region_held3 (fun u => (u.cell? ⟨w.heap.size, 0, none⟩ = some (.int .i64 b.each) ∧ u.cell? ⟨w.heap.size, 1, none⟩ = some (.int .i64 b.ahead) ∧ u.cell? ⟨w.heap.size, 2, none⟩ = some (.int .i64 b.tabs) ∧ u.cell? ⟨w.heap.size, 3, none⟩ = some (.int .i64 b.secs) ∧ u.cell? ⟨w.heap.size, 4, none⟩ = some (.int .i64 b.long) ∧ u.cell? ⟨w.heap.size, 5, none⟩ = some (.int .i64 b.root) ∧ u.cell? ⟨w.heap.size, 6, none⟩ = some (.int .i64 b.info) ∧ u.cell? ⟨w.heap.size, 7, none⟩ = some (.int .i64 b.copy)) ∧ u.cell? ⟨cb, co + j, none⟩ = some (.int .i64 c)) (first | go_keep | exact ⟨hsb, hcj⟩ | exact HSS _ HW8.out | exact HSS _ (HW8.out.alloc HW8.out.size _) | exact HSS _ hbz | exact HSS _ ((HW8.out.setCell (p := ⟨wr.heap.size, 0, none⟩) (Nat.le_refl _) _).setCell (p := ⟨wr.heap.size, 1, none⟩) (Nat.le_refl _) _)) (first
            | (go_at_call 34; refine ((HAc _).out).mono ?_; rintro e9 w8 ⟨rfl, hb8⟩; have HW8 : Hid (Below wr.heap.size wr w8) := hide (by first | exact ((Below.refl wr.heap.size wr).drew).trans hb8 | exact hbz.trans (hb8.mono hbz.size)); (first | (have HK8 := hide (HKz.out.below hb8); have z0 := HK8.out.cell 0 _ rfl; have z1 := HK8.out.cell 1 _ rfl; have f0 := HK8.out.frozen 0; have f1 := HK8.out.frozen 1) | skip); clear hb8))
          · go_wp2
            go_meet
            exact ⟨_, rfl, HW8.out.size, Blk.new _ _ _, HW8.out.alloc HW8.out.size _⟩
          · go_wp2
            go_meet
            exact ⟨_, rfl, Nat.le_refl _, (HK8.out.set 0 (.int .i64 X)).set 1 (.int .i64 (X + E)), (HW8.out.setCell (p := ⟨wr.heap.size, 0, none⟩) (Nat.le_refl _) _).setCell (p := ⟨wr.heap.size, 1, none⟩) (Nat.le_refl _) _⟩
        case rest =>
          obtain ⟨P, rfl, hP, hBP, hbc⟩ := hcut
          clear hsb hcj HRd cj
          have HO5 := hide (HO.out.below hbc)
          have HB5 := hide (HBw.out.trans (hbc.mono HBw.out.size))
          have HP := hide (show w1.heap.size ≤ P ∧ wr.heap.size ≤ P by have := HBw.out.size; omega)
          have HBP := hide hBP
          have HBc := hide hbc
          clear hP hBP hbc
          -- ROUND
          by_cases hES : S < E
          · have p0 := HBP.out.cell 0 _ rfl
            have p1 := HBP.out.cell 1 _ rfl
            have y1 := HBP.out.frozen 1
            have hge : IntKind.i64.wrap (X + E - X) = E := by rw [IntKind.wrap_i64]; have := HEb.out; omega
            have hgx : IntKind.i64.wrap (X + S) = X + S := by rw [IntKind.wrap_i64]; have := HEb.out; have := HNx.out; omega
            have hMS : M = S := HMb.out.2.2.2.1 hES
            have hgy : IntKind.i64.wrap (X + S - X) = M := by rw [hMS, IntKind.wrap_i64]; have := HSb.out; omega
            have q2 : IntKind.i64.wrap (S - M) = S - M := by rw [IntKind.wrap_i64]; have := HSb.out; have := HMb.out; omega
            have HS2 := hide (show -9223372036854775808 ≤ S - M ∧ S - M ≤ 9223372036854775807 by have := HSb.out; have := HMb.out; omega)
            have HB3 := hide (show Below w1.heap.size w1 (wc.setCell ⟨P, 1, none⟩ (.int .i64 (X + S))) from HB5.out.setCell (p := ⟨P, 1, none⟩) HP.out.1 _)
            have HO3 := hide (show OwnE (wc.setCell ⟨P, 1, none⟩ (.int .i64 (X + S))) w1.heap.size (.slice ao O.length cO) O from ownsRow_chg HO5.out ((Chg.refl (fun i => i = P) wc).setR P 1 (.int .i64 (X + S)) rfl) (fun g hg e => by have h1 := (World.ownsRow.lt HO.out g hg).2; have h2 := HP.out; omega))
            have HBP3 := hide (show Blk (wc.setCell ⟨P, 1, none⟩ (.int .i64 (X + S))) P #[.int .i64 X, .int .i64 (X + M)] 72 by rw [hMS]; exact HBP.out.set 1 (.int .i64 (X + S)))
            have HMS := hide hMS
            clear hMS
            go_upto_region 10 with fail
            generalize (wc.setCell ⟨P, 1, none⟩ (.int .i64 (X + S))) = W3 at *
            have x0 := HBP3.out.cell 0 _ rfl
            have x1 := HBP3.out.cell 1 _ rfl
            clear p0 p1 y1
            have HLa := hide (addR_len O X M)
            obtain ⟨K, hK⟩ : ∃ K, K = O.length := ⟨_, rfl⟩
            rw [← hK] at HO3 hoc HLa HJ ⊢
            have HK := hide hK.symm
            by_cases hO0 : O = []
            · have HAd := hide (show addR O X M = O ++ [(X, X + M)] by rw [hO0]; rfl)
              have hL3 : decide (0 < K) = false := by rw [hO0] at hK; simp at hK; simp; omega
              clear hO0 hoc hom hK
              go_wp2_with fail
              go_quiet (fail)
              generalize hW : W3.drewN nq = W2
              have f0 : W2.cell? ⟨P, 0, none⟩ = some (.int .i64 X) := by rw [← hW]; exact x0
              have f1 : W2.cell? ⟨P, 1, none⟩ = some (.int .i64 (X + M)) := by rw [← hW]; exact x1
              have ho2 : OwnE W2 w1.heap.size (.slice ao K cO) O := by rw [← hW]; exact HO3.out
              have hb2 : Below w1.heap.size w1 W2 := by rw [← hW]; exact below_ahead HB3.out _
              have HO4 := hide (World.ownsRow.alloc ho2 (.cells #[.int .i64 X, .int .i64 (X + M)] 72))
              have HB4 := hide (hb2.alloc hb2.size (.cells #[.int .i64 X, .int .i64 (X + M)] 72))
              have HN4 := hide (lies_box W2 X (X + M))
              clear hW ho2 hb2 x0 x1
              go_wp2_with (at_builtin; refine wpList_append_R rfl (.tmp 68) (.tmp 70) 47 rfl Tryd.underlying47 w1.heap.size _ O rfl (by exact HO4.out) W2.heap.size X (X + M) rfl (by exact HN4.out) (by have := HK.out; have := HJ.out; have := HLl.out; omega) HB4.out.size ?_; intro v6 w6 ho6 hg6; have HB6 := hide (HB4.out.grown hg6 HB4.out.size (fun q hq => (World.ownsRow.lt HO4.out q hq).1)); have HO6 := hide ho6; clear ho6 hg6)
              exact ⟨⟨j + 1, S - M, _, by have := HJ.out; omega, rfl, HS2.out, by go_num, by have h1 := HLa.out; have h2 := HJ.out; omega, by rw [HAd.out]; exact HO6.out, HFin.out, HB6.out⟩, by have := HJ.out; simp [intOf]; omega⟩
            · obtain ⟨m, hm⟩ : ∃ m, K = m + 1 := ⟨K - 1, by have := List.length_pos_iff.2 hO0; omega⟩
              have hL1 : IntKind.i64.wrap ((K : Int) - 1) = (m : Int) := by rw [IntKind.wrap_i64]; have := HJ.out; have := HLl.out; omega
              have hL3 : decide (0 < K) = true := by simp; omega
              have hL4 : (0 : Int) ≤ (m : Int) := by omega
              have hL5 : (m : Int) < (K : Int) := by omega
              have hmK : O.length = m + 1 := by omega
              obtain ⟨g, cap, hv, hg1, hg2⟩ := own_someR HO3.out (by omega)
              have hao : ao = some ⟨g, 0, none⟩ := by simp at hv; exact hv.1
              subst hao
              clear hv
              have hcl := (OwnE.cells HO3.out m (by omega)).2
              obtain ⟨l2, hl2⟩ : ∃ l2, l2 = (O.getD m (0, 0)).2 := ⟨_, rfl⟩
              rw [← hl2] at hcl
              have HG := hide (And.intro hg1 hg2)
              have HM1 := hide hmK
              by_cases hlx : l2 = X
              · have HAd := hide (addR_on hmK X M (by rw [← hl2]; exact hlx))
                have hq : decide (l2 = X) = true := by simpa using hlx
                have hq2 : (l2 == X) = true := by simpa using hlx
                clear hl2 hmK hm hK hoc hom hO0 hg1 hg2
                go_wp2_with fail
                go_quiet (fail)
                generalize hW : W3.drewN nq = W2
                have fl : W2.cell? ⟨g, m * 2 + 1, none⟩ = some (.int .i64 l2) := by rw [← hW]; exact hcl
                have f1 : W2.cell? ⟨P, 1, none⟩ = some (.int .i64 (X + M)) := by rw [← hW]; exact x1
                have ho2 : OwnE W2 w1.heap.size (.slice (some ⟨g, 0, none⟩) K cO) O := by rw [← hW]; exact HO3.out
                have hb2 : Below w1.heap.size w1 W2 := by rw [← hW]; exact below_ahead HB3.out _
                have fz := OwnE.frz ho2 HK.out.symm (m * 2 + 1)
                obtain ⟨hst1, hst2⟩ := OwnE.put_to (w := W2) ho2 HK.out.symm m (by have := HM1.out; omega) (X + M)
                have HO7 := hide hst1
                have HB7 := hide (hb2.grown hst2 hb2.size (fun q hq => by simp at hq; have := HG.out; omega))
                clear hW ho2 hb2 x0 x1 hcl hst1 hst2 hq hq2 hlx
                go_wp2_with fail
                exact ⟨⟨j + 1, S - M, _, by have := HJ.out; omega, rfl, HS2.out, by go_num, by have h1 := HLa.out; have h2 := HJ.out; omega, by rw [HAd.out]; exact HO7.out, HFin.out, HB7.out⟩, by have := HJ.out; simp [intOf]; omega⟩
              · have HAd := hide (addR_new hmK X M (by rw [← hl2]; exact hlx))
                have hq : decide (l2 = X) = false := by simpa using hlx
                have hq2 : (l2 == X) = false := by simpa using hlx
                clear hl2 hmK hm hK hoc hom hO0 hg1 hg2
                go_wp2_with fail
                go_quiet (fail)
                generalize hW : W3.drewN nq = W2
                have f0 : W2.cell? ⟨P, 0, none⟩ = some (.int .i64 X) := by rw [← hW]; exact x0
                have f1 : W2.cell? ⟨P, 1, none⟩ = some (.int .i64 (X + M)) := by rw [← hW]; exact x1
                have ho2 : OwnE W2 w1.heap.size (.slice (some ⟨g, 0, none⟩) K cO) O := by rw [← hW]; exact HO3.out
                have hb2 : Below w1.heap.size w1 W2 := by rw [← hW]; exact below_ahead HB3.out _
                have HO4 := hide (World.ownsRow.alloc ho2 (.cells #[.int .i64 X, .int .i64 (X + M)] 72))
                have HB4 := hide (hb2.alloc hb2.size (.cells #[.int .i64 X, .int .i64 (X + M)] 72))
                have HN4 := hide (lies_box W2 X (X + M))
                clear hW ho2 hb2 x0 x1
                go_wp2_with (at_builtin; refine wpList_append_R rfl (.tmp 68) (.tmp 70) 47 rfl Tryd.underlying47 w1.heap.size _ O rfl (by exact HO4.out) W2.heap.size X (X + M) rfl (by exact HN4.out) (by have := HK.out; have := HJ.out; have := HLl.out; omega) HB4.out.size ?_; intro v6 w6 ho6 hg6; have HB6 := hide (HB4.out.grown hg6 HB4.out.size (fun q hq => (World.ownsRow.lt HO4.out q hq).1)); have HO6 := hide ho6; clear ho6 hg6)
                exact ⟨⟨j + 1, S - M, _, by have := HJ.out; omega, rfl, HS2.out, by go_num, by have h1 := HLa.out; have h2 := HJ.out; omega, by rw [HAd.out]; exact HO6.out, HFin.out, HB6.out⟩, by have := HJ.out; simp [intOf]; omega⟩
          · have p0 := HBP.out.cell 0 _ rfl
            have p1 := HBP.out.cell 1 _ rfl
            have hge : IntKind.i64.wrap (X + E - X) = E := by rw [IntKind.wrap_i64]; have := HEb.out; omega
            have hME : M = E := HMb.out.2.2.1 (by omega)
            have q2 : IntKind.i64.wrap (S - E) = S - M := by rw [hME, IntKind.wrap_i64]; have := HSb.out; have := HEb.out; omega
            have HS2 := hide (show -9223372036854775808 ≤ S - M ∧ S - M ≤ 9223372036854775807 by have := HSb.out; have := HMb.out; omega)
            have HB3 := hide HB5.out
            have HO3 := hide (show OwnE wc w1.heap.size (.slice ao O.length cO) O from HO5.out)
            have HBP3 := hide (show Blk wc P #[.int .i64 X, .int .i64 (X + M)] 72 by rw [hME]; exact HBP.out)
            clear hME
            go_upto_region 10 with fail
            obtain ⟨W3, hW3⟩ : ∃ W3, W3 = wc := ⟨_, rfl⟩
            subst hW3
            have x0 := HBP3.out.cell 0 _ rfl
            have x1 := HBP3.out.cell 1 _ rfl
            clear p0 p1
            have HLa := hide (addR_len O X M)
            obtain ⟨K, hK⟩ : ∃ K, K = O.length := ⟨_, rfl⟩
            rw [← hK] at HO3 hoc HLa HJ ⊢
            have HK := hide hK.symm
            by_cases hO0 : O = []
            · have HAd := hide (show addR O X M = O ++ [(X, X + M)] by rw [hO0]; rfl)
              have hL3 : decide (0 < K) = false := by rw [hO0] at hK; simp at hK; simp; omega
              clear hO0 hoc hom hK
              go_wp2_with fail
              go_quiet (fail)
              generalize hW : W3.drewN nq = W2
              have f0 : W2.cell? ⟨P, 0, none⟩ = some (.int .i64 X) := by rw [← hW]; exact x0
              have f1 : W2.cell? ⟨P, 1, none⟩ = some (.int .i64 (X + M)) := by rw [← hW]; exact x1
              have ho2 : OwnE W2 w1.heap.size (.slice ao K cO) O := by rw [← hW]; exact HO3.out
              have hb2 : Below w1.heap.size w1 W2 := by rw [← hW]; exact below_ahead HB3.out _
              have HO4 := hide (World.ownsRow.alloc ho2 (.cells #[.int .i64 X, .int .i64 (X + M)] 72))
              have HB4 := hide (hb2.alloc hb2.size (.cells #[.int .i64 X, .int .i64 (X + M)] 72))
              have HN4 := hide (lies_box W2 X (X + M))
              clear hW ho2 hb2 x0 x1
              go_wp2_with (at_builtin; refine wpList_append_R rfl (.tmp 68) (.tmp 70) 47 rfl Tryd.underlying47 w1.heap.size _ O rfl (by exact HO4.out) W2.heap.size X (X + M) rfl (by exact HN4.out) (by have := HK.out; have := HJ.out; have := HLl.out; omega) HB4.out.size ?_; intro v6 w6 ho6 hg6; have HB6 := hide (HB4.out.grown hg6 HB4.out.size (fun q hq => (World.ownsRow.lt HO4.out q hq).1)); have HO6 := hide ho6; clear ho6 hg6)
              exact ⟨⟨j + 1, S - M, _, by have := HJ.out; omega, rfl, HS2.out, by go_num, by have h1 := HLa.out; have h2 := HJ.out; omega, by rw [HAd.out]; exact HO6.out, HFin.out, HB6.out⟩, by have := HJ.out; simp [intOf]; omega⟩
            · obtain ⟨m, hm⟩ : ∃ m, K = m + 1 := ⟨K - 1, by have := List.length_pos_iff.2 hO0; omega⟩
              have hL1 : IntKind.i64.wrap ((K : Int) - 1) = (m : Int) := by rw [IntKind.wrap_i64]; have := HJ.out; have := HLl.out; omega
              have hL3 : decide (0 < K) = true := by simp; omega
              have hL4 : (0 : Int) ≤ (m : Int) := by omega
              have hL5 : (m : Int) < (K : Int) := by omega
              have hmK : O.length = m + 1 := by omega
              obtain ⟨g, cap, hv, hg1, hg2⟩ := own_someR HO3.out (by omega)
              have hao : ao = some ⟨g, 0, none⟩ := by simp at hv; exact hv.1
              subst hao
              clear hv
              have hcl := (OwnE.cells HO3.out m (by omega)).2
              obtain ⟨l2, hl2⟩ : ∃ l2, l2 = (O.getD m (0, 0)).2 := ⟨_, rfl⟩
              rw [← hl2] at hcl
              have HG := hide (And.intro hg1 hg2)
              have HM1 := hide hmK
              by_cases hlx : l2 = X
              · have HAd := hide (addR_on hmK X M (by rw [← hl2]; exact hlx))
                have hq : decide (l2 = X) = true := by simpa using hlx
                have hq2 : (l2 == X) = true := by simpa using hlx
                clear hl2 hmK hm hK hoc hom hO0 hg1 hg2
                go_wp2_with fail
                go_quiet (fail)
                generalize hW : W3.drewN nq = W2
                have fl : W2.cell? ⟨g, m * 2 + 1, none⟩ = some (.int .i64 l2) := by rw [← hW]; exact hcl
                have f1 : W2.cell? ⟨P, 1, none⟩ = some (.int .i64 (X + M)) := by rw [← hW]; exact x1
                have ho2 : OwnE W2 w1.heap.size (.slice (some ⟨g, 0, none⟩) K cO) O := by rw [← hW]; exact HO3.out
                have hb2 : Below w1.heap.size w1 W2 := by rw [← hW]; exact below_ahead HB3.out _
                have fz := OwnE.frz ho2 HK.out.symm (m * 2 + 1)
                obtain ⟨hst1, hst2⟩ := OwnE.put_to (w := W2) ho2 HK.out.symm m (by have := HM1.out; omega) (X + M)
                have HO7 := hide hst1
                have HB7 := hide (hb2.grown hst2 hb2.size (fun q hq => by simp at hq; have := HG.out; omega))
                clear hW ho2 hb2 x0 x1 hcl hst1 hst2 hq hq2 hlx
                go_wp2_with fail
                exact ⟨⟨j + 1, S - M, _, by have := HJ.out; omega, rfl, HS2.out, by go_num, by have h1 := HLa.out; have h2 := HJ.out; omega, by rw [HAd.out]; exact HO7.out, HFin.out, HB7.out⟩, by have := HJ.out; simp [intOf]; omega⟩
              · have HAd := hide (addR_new hmK X M (by rw [← hl2]; exact hlx))
                have hq : decide (l2 = X) = false := by simpa using hlx
                have hq2 : (l2 == X) = false := by simpa using hlx
                clear hl2 hmK hm hK hoc hom hO0 hg1 hg2
                go_wp2_with fail
                go_quiet (fail)
                generalize hW : W3.drewN nq = W2
                have f0 : W2.cell? ⟨P, 0, none⟩ = some (.int .i64 X) := by rw [← hW]; exact x0
                have f1 : W2.cell? ⟨P, 1, none⟩ = some (.int .i64 (X + M)) := by rw [← hW]; exact x1
                have ho2 : OwnE W2 w1.heap.size (.slice (some ⟨g, 0, none⟩) K cO) O := by rw [← hW]; exact HO3.out
                have hb2 : Below w1.heap.size w1 W2 := by rw [← hW]; exact below_ahead HB3.out _
                have HO4 := hide (World.ownsRow.alloc ho2 (.cells #[.int .i64 X, .int .i64 (X + M)] 72))
                have HB4 := hide (hb2.alloc hb2.size (.cells #[.int .i64 X, .int .i64 (X + M)] 72))
                have HN4 := hide (lies_box W2 X (X + M))
                clear hW ho2 hb2 x0 x1
                go_wp2_with (at_builtin; refine wpList_append_R rfl (.tmp 68) (.tmp 70) 47 rfl Tryd.underlying47 w1.heap.size _ O rfl (by exact HO4.out) W2.heap.size X (X + M) rfl (by exact HN4.out) (by have := HK.out; have := HJ.out; have := HLl.out; omega) HB4.out.size ?_; intro v6 w6 ho6 hg6; have HB6 := hide (HB4.out.grown hg6 HB4.out.size (fun q hq => (World.ownsRow.lt HO4.out q hq).1)); have HO6 := hide ho6; clear ho6 hg6)
                exact ⟨⟨j + 1, S - M, _, by have := HJ.out; omega, rfl, HS2.out, by go_num, by have h1 := HLa.out; have h2 := HJ.out; omega, by rw [HAd.out]; exact HO6.out, HFin.out, HB6.out⟩, by have := HJ.out; simp [intOf]; omega⟩
      · have HFin := hide (HFo.out.trans (HSd.out (by omega)))
        have hnl : ¬ (0 < S) := hS0
        have hnd : decide (0 < S) = false := by simpa using hS0
        go_wp2_with fail
        go_ret
        exact ⟨⟨_, rfl, by rw [HFin.out]; exact HO.out.mono HB1.out.size⟩, HB1.out.trans (HBw.out.mono HB1.out.size)⟩
    · obtain rfl : j = N := by omega
      have hnlt : ¬ ((j : Int) < (j : Int)) := by omega
      have HFin := hide (show F0 = O by have h := HFo.out; rw [HN.out, List.drop_length] at h; exact h)
      go_wp2_with fail
      go_ret
      exact ⟨⟨_, rfl, by rw [HFin.out]; exact HO.out.mono HB1.out.size⟩, HB1.out.trans (HBw.out.mono HB1.out.size)⟩
end Go.Proofs.YtcbbaoiefdbcpaaDoor.Oct
