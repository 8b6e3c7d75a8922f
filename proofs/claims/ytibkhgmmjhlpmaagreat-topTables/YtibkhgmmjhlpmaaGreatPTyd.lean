/- The runs of sectors of which a byte was put. -/
import Derived.Test.YtibkhgmmjhlpmaaGreatPTyc
import Derived.Test.YtibkhgmmjhlpmaaGreatPExmExv
namespace Go.Proofs.YtibkhgmmjhlpmaaGreat.Oct
open Go.RowKit Go.Deep Go.Sort

theorem info_X : (Tryz.prog.info? 31).map (fun i => (i.zero, i.size, i.bytes)) = some (some (.agg #[.int .i64 0, .int .i64 0]), 2, 16) := by kernel_rfl

theorem box2X (w : World) (t : TypeId) (x y : Value) : (w.alloc (.cells #[x, y] t)).cell? ⟨w.heap.size, 0, none⟩ = some x ∧ (w.alloc (.cells #[x, y] t)).cell? ⟨w.heap.size, 1, none⟩ = some y := by
  have h : (w.alloc (.cells #[x, y] t)).heap[w.heap.size]? = some (.cells #[x, y] t) := heap_alloc_new w _
  simp only [World.cell?, h]
  exact ⟨rfl, rfl⟩

theorem new2X (w : World) (t : TypeId) (x y : Value) : ∀ (j : Nat) (u : Value), [x, y][j]? = some u → (w.alloc (.cells #[x, y] t)).cell? ((⟨w.heap.size, 0, none⟩ : Addr).add j) = some u := by
  obtain ⟨h0, h1⟩ := box2X w t x y
  intro j u hj
  rw [Go.WideShapes.add_plain, Nat.zero_add]
  match j, hj with
  | 0, hj => simp at hj; subst hj; exact h0
  | 1, hj => simp at hj; subst hj; exact h1

theorem new1X (w : World) (t : TypeId) (x : Value) : ∀ (j : Nat) (u : Value), [x][j]? = some u → (w.alloc (.cells #[x] t)).cell? ((⟨w.heap.size, 0, none⟩ : Addr).add j) = some u := by
  have h : (w.alloc (.cells #[x] t)).heap[w.heap.size]? = some (.cells #[x] t) := heap_alloc_new w _
  intro j u hj
  rw [Go.WideShapes.add_plain, Nat.zero_add]
  match j, hj with
  | 0, hj =>
    simp at hj
    subst hj
    simp only [World.cell?, h]
    rfl

theorem rowX {w : World} {B : Nat} {v : Value} {L : List (Int × Int)} (h : OwnE w B v L) : (v = .slice none 0 0 ∧ L = []) ∨ ∃ g cap, v = .slice (some ⟨g, 0, none⟩) L.length cap ∧ B ≤ g ∧ g < w.heap.size := by
  rcases h.2 with ⟨rfl, hn⟩ | ⟨g, cap, cur, rfl, hb, hh, _⟩
  · exact Or.inl ⟨rfl, List.length_eq_zero_iff.1 hn⟩
  · exact Or.inr ⟨g, cap, rfl, hb, (Array.getElem?_eq_some_iff.1 hh).1⟩

theorem setX (O : List (Int × Int)) (n : Nat) (x1 x2 : Int) (hn : n < O.length) (h1 : x1 = (O.getD n (0, 0)).1) : (O.flatMap encE).set (n * 2 + 1) (.int .i64 x2) = (O.set n (x1, x2)).flatMap encE := by
  induction O generalizing n with
  | nil => simp at hn
  | cons p O ih =>
    cases n with
    | zero =>
      simp at h1
      subst h1
      simp [encE]
    | succ n =>
      simp only [List.flatMap_cons, List.set_cons_succ]
      rw [show (n + 1) * 2 + 1 = (encE p).length + (n * 2 + 1) by simp [encE]; omega, List.set_append_right _ _ (by omega), Nat.add_sub_cancel_left]
      rw [ih n (by simpa using hn) (by simpa using h1)]

theorem OwnE.monoX {w : World} {B B' : Nat} {v : Value} {L : List (Int × Int)} (h : OwnE w B v L) (hb : B' ≤ B) : OwnE w B' v L := by
  refine ⟨h.1, ?_⟩
  rcases h.2 with h1 | ⟨g, cap, cur, h1, hg, hr⟩
  · exact Or.inl h1
  · exact Or.inr ⟨g, cap, cur, h1, Nat.le_trans hb hg, hr⟩

/-- A whole value laid into a block. -/
theorem wpList_put_row {P : Program} {ops : Array Oper} {rest : List Oper} {o : Oper} {a : Act} {w : World} {Q : Exit → Act → World → Prop} (hgd : o.guard = none) (hd : o.dst = none) (ty : TypeId) (x y : Operand) (ho : o.op = .store ty x y) (g : Nat) (cells : Array Value) (hx : a.eval x = .pointer (some ⟨g, 0, none⟩)) (hy : a.eval y = .agg cells)
    (old : Array Value) (hg : w.heap[g]? = some (.cells old ty (0, 0))) (hi : (P.info? ty).map (·.size) = some cells.size) (hold : old.size = cells.size) (h1 : cells.all (·.oneCell') = true) (h : wpList P ops Q rest a (w.setRow g cells)) : wpList P ops Q (o :: rest) a w := by
  refine wpList_plain hgd fun K hK => ?_
  refine wp_store_row ty x y ho g cells hx hy ty old hg hi hold h1 (hK _ _ ?_)
  rw [hd]
  exact h

/-- A sector behind the runs so far. -/
def runS (O : List (Int × Int)) (s : Int) : List (Int × Int) :=
  if O ≠ [] ∧ (O.getD (O.length - 1) (0, 0)).2 = s * 512 then O.set (O.length - 1) ((O.getD (O.length - 1) (0, 0)).1, s * 512 + 512) else O ++ [(s * 512, s * 512 + 512)]

/-- The runs of sectors. -/
def runsL (K : List Int) : List (Int × Int) := K.foldl runS []

theorem runsL_snoc (K : List Int) (s : Int) : runsL (K ++ [s]) = runS (runsL K) s := by simp [runsL]

theorem runS_len (O : List (Int × Int)) (s : Int) : (runS O s).length ≤ O.length + 1 := by
  unfold runS
  split <;> simp

theorem runsL_len (K : List Int) : (runsL K).length ≤ K.length := by
  have h : ∀ (K : List Int) (O : List (Int × Int)), (K.foldl runS O).length ≤ O.length + K.length := by
    intro K
    induction K with
    | nil => intro O; simp
    | cons s K ih =>
      intro O
      have h1 := ih (runS O s)
      have h2 := runS_len O s
      simp only [List.foldl_cons, List.length_cons]
      omega
  have := h K []
  simpa [runsL] using this

theorem u8_inj : ∀ {l m : List Int}, l.map (Value.int .u8) = m.map (Value.int .u8) → l = m
  | [], [], _ => rfl
  | [], y :: m, h => by simp at h
  | x :: l, [], h => by simp at h
  | x :: l, y :: m, h => by
    simp only [List.map_cons, List.cons.injEq, Value.int.injEq, true_and] at h
    rw [h.1, u8_inj h.2]

/-- Numbers lie from the address on. -/
def LiesL (w : World) (a : Option Addr) (l : List Int) : Prop :=
  l = [] ∨ ∃ b, a = some ⟨b, 0, none⟩ ∧ b < w.heap.size ∧ ∀ k, k < l.length → w.cell? ⟨b, k, none⟩ = some (.int .i64 (l.getD k 0))

theorem OwnL.form {w : World} {B : Nat} {v : Value} {l : List Int} (h : OwnL w B v l) : ∃ a c, v = .slice a l.length c ∧ LiesL w a l ∧ l.length ≤ c ∧ c ≤ maxLen := by
  have h0 := h
  rcases h.2 with ⟨rfl, hn⟩ | ⟨g, cap, cur, rfl, hb, hh, h1, h2, h3, h4⟩
  · have : l = [] := List.length_eq_zero_iff.1 hn
    subst this
    exact ⟨none, 0, rfl, Or.inl rfl, by simp, by simp⟩
  · have hlt := (Array.getElem?_eq_some_iff.1 hh).1
    refine ⟨_, cap, rfl, Or.inr ⟨g, rfl, hlt, fun k hk => ?_⟩, h1, h2⟩
    have hc := World.ownsRow.cells (g := g) h0 rfl k (.int .i64 (l.getD k 0)) (by simp [hk])
    rw [Go.WideShapes.add_plain, Nat.zero_add] at hc
    exact hc

theorem sort_L (w : World) (B : Nat) (v : Value) (L : List Int) (h : OwnL w B v L) (hl : L.length ≤ 8192) :
    Calls Tryz.prog 91 #[v] w fun e w' => e = .returned (.tuple #[]) ∧ OwnL w' B v (L.mergeSort (fun x y => decide (x ≤ y))) ∧ w.grownBy w' v.ownBlock := by
  have h0 := h
  rcases h.2 with ⟨rfl, hn⟩ | ⟨g, cap, cur, rfl, hb, hh, h1, h2, h3, h4⟩
  · have : L = [] := List.length_eq_zero_iff.1 hn
    subst this
    have hc := AnyM.slices_Sort_int_none Tryz.sortI none 0 w
    change Calls Tryz.prog 91 _ _ _ at hc
    refine hc.mono ?_
    rintro e w' ⟨rfl, rfl⟩
    exact ⟨rfl, by simpa using OwnL.nil _ _, ⟨rfl, rfl, rfl, Nat.le_refl _, fun _ _ _ => rfl⟩⟩
  · have hlt := (Array.getElem?_eq_some_iff.1 hh).1
    have hH : Holds (Value.int .i64) w g 0 L.toArray := holds_of_blockI hh (by simpa using h4)
    have hc := AnyM.slices_Sort_int Tryz.sortI g 0 cap L w hH hlt (by omega)
    change Calls Tryz.prog 91 _ _ _ at hc
    refine hc.mono ?_
    rintro e w' ⟨rfl, n, os, rfl⟩
    have hlen : (L.mergeSort (fun x y => decide (x ≤ y))).length = L.length := List.length_mergeSort _
    refine ⟨rfl, ?_, grownBy_sortedI _⟩
    unfold OwnL
    rw [hlen]
    exact ownsRow_sortedI (cur := cur) hlen hb hh h1 h2 h3

set_option maxRecDepth 100000 in
set_option maxHeartbeats 8000000 in
theorem changed_tx (w : World) (T J : Nat) (vb va : Value) (bm : Nat) (d : Bool) (B M : Int → List Int) (ht : Txs w T J vb (.map (some bm)) va d) (ho : Ovr w vb (.map (some bm)) B M) (hM : ∀ s : Int, ¬ (0 ≤ s ∧ s < 8192) → ¬ 2 ∈ M s) :
    Calls Tryz.prog 66 #[.pointer (some ⟨T, 0, none⟩)] w fun e w' => ∃ v, e = .returned v ∧ OwnE w' w.heap.size v (runsL (secsM M)) ∧ Below w.heap.size w w' := by
  obtain ⟨es, clock, hb, hs, hks, hv, hn⟩ : MapR w bm (sec Z5) (fun s => sec (M s)) := by
    rcases ho.m with h | ⟨r, e, h⟩
    · cases h.1
    · cases e; exact h
  obtain ⟨c0, c1, c2, c3, c4⟩ := ht.cell
  have hrg := run_range_map (P := Tryz.prog) w 89 2 147 bm es clock Tryz.underlying89 hb
  go_enter Tryz.func66, Tryz.ntmps66
  go_wp2_with fail
  clear hrg c0 c1 c2 c3 c4
  have hbl : bm < w.heap.size := (Array.getElem?_eq_some_iff.1 hb).1
  have HS := hide hs
  have HV := hide hv
  have HN := hide hn
  have HM := hide hM
  have HKs := hide hks
  have HMl := hide ho.ml
  have hb0 : Below w.heap.size w (w.alloc (.mapIter (some bm) clock #[] clock)) := (Below.refl _ _).alloc (Nat.le_refl _) _
  have HB0 := hide hb0
  have HI0 : Hid ((w.alloc (.mapIter (some bm) clock #[] clock)).heap[w.heap.size]? = some (.mapIter (some bm) clock #[] clock)) := hide (heap_alloc_new w _)
  have HBb := hide hb
  obtain ⟨i1, hi, hz0, hz1, hz2⟩ := info_parts info_L
  clear hs hv hn hM hks ho ht hb0 hb
  go_loopw [3] (fun v wr => ∃ seen c0 L, wr.heap[w.heap.size]? = some (.mapIter (some bm) clock seen c0) ∧ clock ≤ c0 ∧ OwnL wr w.heap.size v L ∧ (∀ g, v.ownBlock = some g → g ≠ w.heap.size) ∧ L.Nodup ∧ (∀ x ∈ L, ∃ e ∈ es.toList, seen.contains e.born = true ∧ e.key = .int .i64 x ∧ 2 ∈ M x) ∧ (∀ e ∈ es.toList, seen.contains e.born = true → ∀ x, e.key = .int .i64 x → 2 ∈ M x → x ∈ L) ∧ Below w.heap.size w wr) (fun _ wr => wr.rangeLeft bm w.heap.size)
  case atStart => exact ⟨#[], clock, [], HI0.out, Nat.le_refl _, OwnL.nil _ _, fun g hg => by simp [Value.ownBlock] at hg, List.nodup_nil, fun x hx => by simp at hx, fun e he h => by simp at h, HB0.out⟩
  case round =>
    obtain ⟨seen, c0, L, hit, hcl, hown, hgr, hnd, hin, hall, hbel⟩ := hrel
    have hbm := (hbel.block bm hbl).trans HBb.out
    have HOw := hide hown
    have HBe := hide hbel
    have HNd := hide hnd
    have HIn := hide hin
    have HAl := hide hall
    have HGr := hide hgr
    have hml : wr.rangeLeft bm w.heap.size = (leftOf es seen).size := by simp only [World.rangeLeft, hbm, hit]
    have HMe := hide hml
    rcases next_map 0 hit hbm HS.out hcl with ⟨h0, hrun⟩ | ⟨e, he, hes, W, hrun, hen, hW1, hW2, hW3, hW4, hW5⟩
    · have HNd2 : Hid (L.mergeSort (fun x y => decide (x ≤ y)) = secsM M) := hide (secsM_sorted hnd (fun x => ⟨fun hx => by
        obtain ⟨e, he, _, hk, h2⟩ := hin x hx
        refine ⟨?_, h2⟩
        by_cases hr : 0 ≤ x ∧ x < 8192
        · exact hr
        · exact absurd h2 (HM.out x hr), fun ⟨_, h2⟩ => by
        by_cases hne : ∃ e ∈ es.toList, e.key = .int .i64 x
        · obtain ⟨e, he, hk⟩ := hne
          exact hall e he (all_seen es seen h0 e he) x hk h2
        · have hz := HN.out x (fun e he hk => hne ⟨e, he, hk⟩)
          have hM0 : M x = Z5 := by
            have h5 : (M x).map (Value.int .u8) = Z5.map (Value.int .u8) := by
              simp only [sec, secC, Value.agg.injEq] at hz
              simpa using congrArg Array.toList hz
            exact u8_inj h5
          rw [hM0] at h2
          exact absurd (List.eq_of_mem_replicate h2) (by decide)⟩))
      have HLl : Hid (L.length ≤ 8192) := hide (nodup_le 8192 L hnd (fun x hx => by
        obtain ⟨e, he, _, hk, h2⟩ := hin x hx
        by_cases hr : 0 ≤ x ∧ x < 8192
        · exact hr
        · exact absurd h2 (HM.out x hr)))
      have HSo := hide (sort_L wr w.heap.size u3 L hown HLl.out)
      clear hit hcl hown hnd hin hall hbel hml hbm hgr
      go_wp2_with fail
      refine HSo.out.mono ?_
      rintro e9 w2 ⟨rfl, ho2, hg2⟩
      have HO2 : Hid (OwnL w2 w.heap.size u3 (secsM M)) := hide (by rw [← HNd2.out]; exact ho2)
      have HB2 : Hid (Below w.heap.size w w2) := hide (HBe.out.grown hg2 HBe.out.size (fun q hq => (World.ownsRow.lt HOw.out q hq).1))
      have HKl : Hid ((secsM M).length ≤ 8192) := hide (by rw [← HNd2.out, List.length_mergeSort]; exact HLl.out)
      obtain ⟨ak, ck, rfl, hlk, hck, hcm⟩ := HO2.out.form
      have HKx : Hid (∀ x ∈ secsM M, 0 ≤ x ∧ x < 8192) := hide (fun x hx => ((secsM_mem M x).1 hx).1)
      have HLk := hide hlk
      obtain ⟨K, hK⟩ : ∃ K, K = secsM M := ⟨_, rfl⟩
      rw [← hK] at HKl HKx HLk hck ⊢
      have HKe := hide hK
      clear hK ho2 hg2 HSo HNd2 HLl HIn HAl HNd HMe HO2 HOw HGr hlk h0 hrun
      obtain ⟨j1, hj, hy0, hy1, hy2⟩ := info_parts info_X
      go_wp2_with fail
      go_loopw [6, 31] (fun v i wq => ∃ k : Nat, k ≤ K.length ∧ i = .int .i64 (k : Int) ∧ OwnE wq w2.heap.size v (runsL (K.take k)) ∧ Below w2.heap.size w2 wq) (fun _ i _ => K.length - (intOf i).toNat)
      case atStart => exact ⟨0, by omega, rfl, by simpa [runsL] using OwnE.nil _ _, Below.refl _ _⟩
      case round =>
        obtain ⟨k, hk, rfl, hoe, hbe⟩ := hrel
        have hOl := runsL_len (K.take k)
        have hkm := HKl.out
        by_cases hlt : k < K.length
        · rcases HLk.out with hnil | ⟨b, rfl, hblt, hc⟩
          · rw [hnil] at hlt; simp at hlt
          have r0 := (hbe.cell (p := ⟨b, k, none⟩) hblt).trans (hc k hlt)
          have hst : K.take (k + 1) = K.take k ++ [K.getD k 0] := by
            have e : K.getD k 0 = K[k] := by simp [hlt]
            rw [List.take_succ_eq_append_getElem hlt, e]
          have hx0 := HKx.out (K.getD k 0) (by simp [hlt])
          have hrn := runsL_snoc (K.take k) (K.getD k 0)
          rw [← hst] at hrn
          have hOl2 : (runsL (K.take k)).length ≤ 8192 := by simp at hOl; omega
          generalize K.getD k 0 = x at *
          have HRn := hide hrn
          have HOo := hide hoe
          have HBo := hide hbe
          generalize runsL (K.take k) = O at *
          clear hc hst hrn hoe hbe hOl
          obtain ⟨ao, co, hvo, _, hoc, hom, _⟩ := HOo.out.form
          subst hvo
          by_cases hO0 : O = []
          · subst hO0
            have HR2 : Hid (runsL (K.take (k + 1)) = [] ++ [(x * 512, x * 512 + 512)]) := hide (by rw [HRn.out]; unfold runS; rw [if_neg (by simp)])
            have HO3 := hide (World.ownsRow.alloc HOo.out (.cells #[.int .i64 (x * 512), .int .i64 (x * 512 + 512)] 31))
            have HB3 := hide (HBo.out.alloc HBo.out.size (.cells #[.int .i64 (x * 512), .int .i64 (x * 512 + 512)] 31))
            simp only [List.length_nil] at HO3 ⊢
            clear HRn
            have HN3 := hide (new2X wr 31 (.int .i64 (x * 512)) (.int .i64 (x * 512 + 512)))
            go_wp2_with (at_builtin; refine wpList_append_own_at _ rfl (.tmp 59) (.tmp 64) 122 rfl w2.heap.size 31 j1 (.agg #[.int .i64 0, .int .i64 0]) 2 16 Tryz.underlying122 hj hy0 hy1 hy2 rfl (by decide) (.slice ao 0 co) 0 (([] : List (Int × Int)).flatMap encE) rfl HO3.out ⟨wr.heap.size, 0, none⟩ 1 1 [.int .i64 (x * 512), .int .i64 (x * 512 + 512)] rfl rfl HN3.out (by simp [Value.oneCell']) (by unfold maxLen; omega) (by omega) HB3.out.size ?_; intro v5 w5 ho5 hg5 _ hw5; have HO5 := hide ho5; have HG5 := hide hg5; clear ho5 hg5 hw5)
            have ho6 : OwnE w5 w2.heap.size v5 (runsL (K.take (k + 1))) := by
              rw [HR2.out]
              unfold OwnE
              rw [List.flatMap_append, List.length_append]
              exact HO5.out
            have hb6 := HB3.out.grown HG5.out HB3.out.size (fun q hq => (World.ownsRow.lt HO3.out q hq).1)
            refine ⟨⟨k + 1, by omega, by go_num, ho6, hb6⟩, ?_⟩
            simp [intOf]; omega
          · obtain ⟨n, hn⟩ : ∃ n, O.length = n + 1 := ⟨O.length - 1, by have := List.length_pos_iff.2 hO0; omega⟩
            rcases rowX HOo.out with ⟨_, hnil⟩ | ⟨g, cap, hv, hg1, hg2⟩
            · exact absurd hnil hO0
            simp at hv
            obtain ⟨rfl, rfl⟩ := hv
            obtain ⟨l, hle⟩ : ∃ l, l = O.getD n (0, 0) := ⟨_, rfl⟩
            have hrs : runS O x = if l.2 = x * 512 then O.set n (l.1, x * 512 + 512) else O ++ [(x * 512, x * 512 + 512)] := by
              unfold runS
              rw [show O.length - 1 = n by omega, ← hle]
              by_cases h : l.2 = x * 512
              · rw [if_pos ⟨hO0, h⟩, if_pos h]
              · rw [if_neg (fun e => h e.2), if_neg h]
            rw [hrs] at HRn
            have HLe := hide hle
            have HHn := hide hn
            have hcl := (OwnE.cells HOo.out n (by omega)).2
            rw [← hle] at hcl
            obtain ⟨l1, l2⟩ := l
            dsimp only at hcl HRn
            rw [hn] at hOl2 hoc ⊢
            have hn0 : ¬ ((n : Int) < 0) := by omega
            have hn0' : (0 : Int) ≤ (n : Int) := by omega
            have hn1 : (n : Int) < ((n + 1 : Nat) : Int) := by omega
            clear hle hrs hn hO0
            by_cases hlx : l2 = x * 512
            · have HR2 : Hid (runsL (K.take (k + 1)) = O.set n (l1, x * 512 + 512)) := hide (by rw [HRn.out, if_pos hlx])
              clear HRn
              have ho2 : wr.ownsRow w2.heap.size 31 2 (.slice (some ⟨g, 0, none⟩) (n + 1) co) (n + 1) (O.flatMap encE) := by rw [← HHn.out]; exact HOo.out
              have fz := World.ownsRow.frozenAt ho2 (n * 2 + 1)
              obtain ⟨hst1, hst2⟩ := World.ownsRow.stored (w := wr) ho2 (n * 2 + 1) (.int .i64 (x * 512 + 512))
              have HO6 : Hid (OwnE (wr.setCell ⟨g, n * 2 + 1, none⟩ (.int .i64 (x * 512 + 512))) w2.heap.size (.slice (some ⟨g, 0, none⟩) (n + 1) co) (runsL (K.take (k + 1)))) := hide (by
                rw [HR2.out]
                unfold OwnE
                rw [← setX O n l1 (x * 512 + 512) (by have := HHn.out; omega) (by rw [← HLe.out]), List.length_set, HHn.out]
                exact hst1)
              have HB6 : Hid (Below w2.heap.size w2 (wr.setCell ⟨g, n * 2 + 1, none⟩ (.int .i64 (x * 512 + 512)))) := hide (HBo.out.grown hst2 HBo.out.size (fun q hq => by simp at hq; omega))
              subst hlx
              clear ho2 hst1 hst2
              go_wp2_with fail
              refine ⟨⟨k + 1, by omega, by go_num, HO6.out, HB6.out⟩, ?_⟩
              simp [intOf]; omega
            · have HR2 : Hid (runsL (K.take (k + 1)) = O ++ [(x * 512, x * 512 + 512)]) := hide (by rw [HRn.out, if_neg hlx])
              clear HRn
              have HO3 : Hid ((wr.alloc (.cells #[.int .i64 (x * 512), .int .i64 (x * 512 + 512)] 31)).ownsRow w2.heap.size 31 2 (.slice (some ⟨g, 0, none⟩) (n + 1) co) (n + 1) (O.flatMap encE)) := hide (by rw [← HHn.out]; exact World.ownsRow.alloc HOo.out _)
              have HB3 := hide (HBo.out.alloc HBo.out.size (.cells #[.int .i64 (x * 512), .int .i64 (x * 512 + 512)] 31))
              have HN3 := hide (new2X wr 31 (.int .i64 (x * 512)) (.int .i64 (x * 512 + 512)))
              go_wp2_with (at_builtin; refine wpList_append_own_at _ rfl (.tmp 59) (.tmp 64) 122 rfl w2.heap.size 31 j1 (.agg #[.int .i64 0, .int .i64 0]) 2 16 Tryz.underlying122 hj hy0 hy1 hy2 rfl (by decide) (.slice (some ⟨g, 0, none⟩) (n + 1) co) (n + 1) (O.flatMap encE) rfl HO3.out ⟨wr.heap.size, 0, none⟩ 1 1 [.int .i64 (x * 512), .int .i64 (x * 512 + 512)] rfl rfl HN3.out (by simp [Value.oneCell']) (by unfold maxLen; omega) (by omega) HB3.out.size ?_; intro v5 w5 ho5 hg5 _ hw5; have HO5 := hide ho5; have HG5 := hide hg5; clear ho5 hg5 hw5)
              have ho6 : OwnE w5 w2.heap.size v5 (runsL (K.take (k + 1))) := by
                rw [HR2.out]
                unfold OwnE
                rw [List.flatMap_append, List.length_append, HHn.out]
                exact HO5.out
              have hb6 := HB3.out.grown HG5.out HB3.out.size (fun q hq => (World.ownsRow.lt HO3.out q hq).1)
              refine ⟨⟨k + 1, by omega, by go_num, ho6, hb6⟩, ?_⟩
              simp [intOf]; omega
        · obtain rfl : k = K.length := by omega
          rw [List.take_length] at hoe
          have HOo := hide hoe
          have HBo := hide hbe
          clear hoe hbe hOl
          go_wp2_with fail
          go_ret
          exact ⟨_, rfl, by rw [← HKe.out]; exact OwnE.monoX HOo.out HB2.out.size, HB2.out.trans (HBo.out.mono HB2.out.size)⟩
    · obtain ⟨x, hx⟩ : ∃ x, e.key = .int .i64 x := by
        have := HKs.out e he
        generalize e.key = kv at this
        cases kv <;> simp [MapKept.IsKey] at this
        rename_i kk n
        subst this
        exact ⟨n, rfl⟩
      have hval := HV.out e he x hx
      obtain ⟨l, hl⟩ : ∃ l, l = M x := ⟨_, rfl⟩
      have hll : l.length = 512 := by rw [hl]; exact HMl.out x
      rw [hx, hval] at hrun hen
      rw [show sec (M x) = .agg (secC l) by rw [hl]; rfl] at hrun hen
      have hz : (zeroValue 147).run Tryz.prog W = .ok (.agg (secC Z5)) W := zero99 _
      have sG : Sec (W.alloc (.cells (secC Z5) 147)) W.heap.size 147 Z5 := Sec.new W _ Z5 Z5_len
      have HsG := hide sG
      have Hc1 : Hid ((Tryz.prog.info? 147).map (·.size) = some (secC l).size) := hide (by rw [secC_size, hll]; exact size99)
      have Hc2 : Hid ((secC Z5).size = (secC l).size) := hide (by rw [secC_size, secC_size, hll, Z5_len])
      have hst0 := run_storeVar_row (P := Tryz.prog) (W.alloc (.cells (secC Z5) 147)) W.heap.size 147 147 (secC Z5) (secC l) sG.at_ (by rw [secC_size, hll]; exact size99) (by rw [secC_size, secC_size, hll, Z5_len]) (secC_one l)
      have sG2 := sG.row l hll
      have hsl : (Instr.sliceAt 147 (.pointer (some ⟨W.heap.size, 0, none⟩)) none none none).run Tryz.prog ((W.alloc (.cells (secC Z5) 147)).setRow W.heap.size (secC l)) = .ok (.slice (some ⟨W.heap.size, 0, none⟩) 512 512) ((W.alloc (.cells (secC Z5) 147)).setRow W.heap.size (secC l)) := by
        rw [run_sliceAt_array_all _ 147 ⟨W.heap.size, 0, none⟩ arr99, sz99, Result.andThen_ok, len99]
        simp [slicedAt, Addr.add]
      have HCt := hide (contains_mark _ _ _ sG2 2)
      have hbW : Below w.heap.size w W := HBe.out.grown hW3 HBe.out.size (fun q hq => by simp at hq; omega)
      have hcW : Chg (fun i => i = w.heap.size) wr ((W.alloc (.cells (secC Z5) 147)).setRow W.heap.size (secC l)) := by
        have h1 : Chg (fun i => i = w.heap.size) wr W := (Chg.of_grown hW3).mono (fun i _ e => by simpa using e)
        refine (h1.alloc _).andThen (Chg.of_grown (grown_setRow _ W.heap.size (secC l))) (fun i hi e => ?_)
        simp at e
        omega
      have hW9 : W.heap.size = wr.heap.size := hW4
      have HIt2 : Hid (((W.alloc (.cells (secC Z5) 147)).setRow W.heap.size (secC l)).heap[w.heap.size]? = some (.mapIter (some bm) clock (seen.push e.born) clock)) := hide (by
        rw [setRow_other _ _ _ _ (by have := (Array.getElem?_eq_some_iff.1 hit).1; omega)]
        exact (Below.heap_alloc _ _ _ (by have := (Array.getElem?_eq_some_iff.1 hit).1; omega)).trans hW1)
      have hitl := (Array.getElem?_eq_some_iff.1 hit).1
      have HcW := hide hcW
      have HBw : Hid (Below w.heap.size w ((W.alloc (.cells (secC Z5) 147)).setRow W.heap.size (secC l))) := hide (HBe.out.trans (hcW.below _ HBe.out.size (fun i hi e => by omega)))
      have HHl := hide hl
      have HW5 := hide hW5
      have HEs := hide hes
      have HHx := hide hx
      have HHe := hide he
      have HW9 := hide hW9
      clear hW4 hW9 hit hcl hown hnd hin hall hbel hml hbm hgr hW1 hW2 hW3 hbW hcW sG sG2 hl hx hval hW5 hes he hst0
      go_wp2_with (refine wpList_put_row rfl rfl 147 (.tmp 5) (.tmp 20) rfl W.heap.size (secC l) rfl rfl (secC Z5) HsG.out.at_ Hc1.out Hc2.out (secC_one l) ?_)
      refine HCt.out.mono ?_
      rintro e9 W3 ⟨rfl, hb3⟩
      have hsz3 : ((W.alloc (.cells (secC Z5) 147)).setRow W.heap.size (secC l)).heap.size = W.heap.size + 1 := by simp [World.setRow]
      have HIt3 : Hid (W3.heap[w.heap.size]? = some (.mapIter (some bm) clock (seen.push e.born) clock)) := hide ((hb3.block _ (by have := HW9.out; omega)).trans HIt2.out)
      have HB3 : Hid (Below w.heap.size w W3) := hide (HBw.out.trans (hb3.mono HBw.out.size))
      have HO3 : Hid (OwnL W3 w.heap.size u3 L) := hide (ownsRow_chg HOw.out (HcW.out.trans (Chg.of_below hb3)) (fun g hg => HGr.out g hg))
      have hw3l : w.heap.size < W3.heap.size := by have := hb3.size; have := HW9.out; omega
      have Hcp : Hid (∀ y, (seen.push e.born).contains y = (seen.contains y || y == e.born)) := hide (contains_push seen e.born)
      have HLl : Hid (L.length ≤ 8192) := hide (nodup_le 8192 L HNd.out (fun x hx => by
        obtain ⟨e, he, _, hk, h2⟩ := HIn.out x hx
        by_cases hr : 0 ≤ x ∧ x < 8192
        · exact hr
        · exact absurd h2 (HM.out x hr)))
      have Hleft : Hid (∀ (W' : World), W'.heap[w.heap.size]? = some (.mapIter (some bm) clock (seen.push e.born) clock) → Below w.heap.size w W' → W'.rangeLeft bm w.heap.size < wr.rangeLeft bm w.heap.size) := hide (fun W' h1 h2 => by
        have hbm' := (h2.block bm hbl).trans HBb.out
        have : W'.rangeLeft bm w.heap.size = (leftOf es (seen.push e.born)).size := by simp only [World.rangeLeft, hbm', h1]
        rw [this, HMe.out]
        exact HW5.out)
      have Huniq : Hid (∀ e' ∈ es.toList, e'.key = .int .i64 x → e' = e) := hide (fun e' he' hk' => _root_.Go.entry_eq_of_key ((MapKept.stamped_iff es clock).1 HS.out).2.2 he' HHe.out (hk'.trans HHx.out.symm))
      clear hb3 HCt hsz3 HIt2 HBw HcW hz hsl hrun hen HMe HW5 hll Hc1 Hc2 HsG HOw
      by_cases h2 : 2 ∈ l
      · rw [decide_eq_true h2]
        have H2 : Hid (2 ∈ M x) := hide (by rw [← HHl.out]; exact h2)
        obtain ⟨a3, c3, rfl, _, hlc3, hcm3⟩ := HO3.out.form
        have HO4 : Hid ((W3.alloc (.cells #[.int .i64 x] 2)).ownsRow w.heap.size 2 1 (.slice a3 L.length c3) L.length (L.map (Value.int .i64))) := hide (World.ownsRow.alloc HO3.out _)
        have HB4 := hide (HB3.out.alloc HB3.out.size (.cells #[.int .i64 x] 2))
        have HN4 := hide (new1X W3 2 (.int .i64 x))
        have HIt4 : Hid ((W3.alloc (.cells #[.int .i64 x] 2)).heap[w.heap.size]? = some (.mapIter (some bm) clock (seen.push e.born) clock)) := hide ((Below.heap_alloc _ _ _ hw3l).trans HIt3.out)
        have hlm := HLl.out
        clear h2
        go_wp2_with (at_builtin; refine wpList_append_own_at _ rfl (.tmp 23) (.tmp 25) 22 rfl w.heap.size 2 i1 (.int .i64 0) 1 8 Tryz.underlying22 hi hz0 hz1 hz2 rfl (by decide) (.slice a3 L.length c3) L.length (L.map (Value.int .i64)) rfl HO4.out ⟨W3.heap.size, 0, none⟩ 1 1 [.int .i64 x] rfl rfl HN4.out (by simp [Value.oneCell']) (by unfold maxLen; omega) (by omega) HB4.out.size ?_; intro v5 w5 ho5 hg5 _ hw5; have HO5 := hide ho5; have HG5 := hide hg5; have HV5 := hide hw5; clear ho5 hg5 hw5)
        have hb5 := HB4.out.grown HG5.out HB4.out.size (fun q hq => (World.ownsRow.lt HO4.out q hq).1)
        have hit5 : w5.heap[w.heap.size]? = some (.mapIter (some bm) clock (seen.push e.born) clock) := (HG5.out.block _ (by simp; omega) (fun e => HGr.out _ e.symm rfl)).trans HIt4.out
        refine ⟨⟨seen.push e.born, clock, L ++ [x], hit5, Nat.le_refl _, ?_, fun g hg => ?_, ?_, fun y hy => ?_, fun e' he' hs' y hk' h2' => ?_, hb5⟩, Hleft.out w5 hit5 hb5⟩
        · unfold OwnL
          rw [List.map_append, List.length_append]
          exact HO5.out
        · rcases HV5.out with e5 | e5
          · rw [e5] at hg
            exact HGr.out g hg
          · rw [e5] at hg
            simp at hg
            omega
        · rw [List.nodup_append]
          refine ⟨HNd.out, by simp, fun y hy z hz e5 => ?_⟩
          simp at hz
          subst hz
          subst e5
          obtain ⟨e', he', hs', hk', _⟩ := HIn.out y hy
          rw [Huniq.out e' he' hk', HEs.out] at hs'
          cases hs'
        · rcases List.mem_append.1 hy with hy | hy
          · obtain ⟨e', he', hs', hk', h2'⟩ := HIn.out y hy
            exact ⟨e', he', by rw [Hcp.out, hs']; rfl, hk', h2'⟩
          · simp at hy
            subst hy
            exact ⟨e, HHe.out, by rw [Hcp.out]; simp, HHx.out, H2.out⟩
        · rw [Hcp.out] at hs'
          rcases Bool.or_eq_true_iff.1 hs' with h | h
          · exact List.mem_append.2 (Or.inl (HAl.out e' he' h y hk' h2'))
          · have hbe : e'.born = e.born := by simpa using h
            have hee : e' = e := _root_.Go.born_inj ((MapKept.stamped_iff es clock).1 HS.out).2.1 he' HHe.out hbe
            rw [hee, HHx.out] at hk'
            cases hk'
            simp
      · rw [decide_eq_false h2]
        have H2 : Hid (¬ 2 ∈ M x) := hide (by rw [← HHl.out]; exact h2)
        clear h2
        go_wp2_with fail
        refine ⟨⟨seen.push e.born, clock, L, HIt3.out, Nat.le_refl _, HO3.out, HGr.out, HNd.out, fun y hy => ?_, fun e' he' hs' y hk' h2' => ?_, HB3.out⟩, Hleft.out W3 HIt3.out HB3.out⟩
        · obtain ⟨e', he', hs', hk', h2'⟩ := HIn.out y hy
          exact ⟨e', he', by rw [Hcp.out, hs']; rfl, hk', h2'⟩
        · rw [Hcp.out] at hs'
          rcases Bool.or_eq_true_iff.1 hs' with h | h
          · exact HAl.out e' he' h y hk' h2'
          · have hbe : e'.born = e.born := by simpa using h
            have hee : e' = e := _root_.Go.born_inj ((MapKept.stamped_iff es clock).1 HS.out).2.1 he' HHe.out hbe
            rw [hee, HHx.out] at hk'
            cases hk'
            exact absurd h2' H2.out
end Go.Proofs.YtibkhgmmjhlpmaaGreat.Oct
