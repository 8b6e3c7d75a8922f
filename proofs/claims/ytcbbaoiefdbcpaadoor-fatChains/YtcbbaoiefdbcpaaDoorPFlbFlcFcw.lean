/- Rows of the document's numbers: several appended at once; is one among them; how many are 0. -/
import Derived.Test.YtcbbaoiefdbcpaaDoorPFobFotFon
import Derived.Test.YtcbbaoiefdbcpaaDoorPTxm
import Derived.Test.YtcbbaoiefdbcpaaDoorPExmExv
namespace Go.Proofs.YtcbbaoiefdbcpaaDoor.Oct
open Go.RowKit Go.MapKept

/-- The block r is a map that has the numbers of M, and nothing else. -/
def SetR (w : World) (r : Nat) (M : List Int) : Prop :=
  ∃ es clock, w.heap[r]? = some (.map es clock) ∧ Stamped es clock ∧ (∀ x ∈ es.toList, IsKey (.int .i64) x.key) ∧ (∀ x ∈ es.toList, x.val = .agg #[]) ∧ (∀ k, (∃ e ∈ es.toList, e.key = .int .i64 k) ↔ k ∈ M)

theorem SetR.lt {w : World} {r : Nat} {M : List Int} (h : SetR w r M) : r < w.heap.size := by
  obtain ⟨es, clock, hb, _⟩ := h
  exact (Array.getElem?_eq_some_iff.1 hb).1

theorem SetR.same {w w' : World} {r : Nat} {M : List Int} (h : SetR w r M) (he : w'.heap[r]? = w.heap[r]?) : SetR w' r M := by
  obtain ⟨es, clock, hb, hr⟩ := h
  exact ⟨es, clock, he.trans hb, hr⟩

theorem SetR.below {w w' : World} {r : Nat} {M : List Int} (h : SetR w r M) (hb : Below w.heap.size w w') : SetR w' r M := h.same (hb.block r h.lt)

theorem SetR.made (w : World) : SetR (w.alloc (.map #[] 0)) w.heap.size [] :=
  ⟨#[], 0, (heap_alloc w _).1, stamped_empty 0, by simp, by simp, fun k => by simp⟩

section
variable {P : Program} {w : World} {mty kt et : TypeId}

theorem set_look (hm : P.underlying mty = some (.map kt et)) (hd : P.underlying kt = some (.int .i64)) (hz : (zeroValue et).run P w = .ok (.agg #[]) w) {r : Nat} {M : List Int} (h : SetR w r M) (k : Int) :
    (Instr.lookup mty (.map (some r)) (.int .i64 k) true).run P w = .ok (.tuple #[.agg #[], .bool (decide (k ∈ M))]) w := by
  have hk : IsKey (.int .i64) (.int .i64 k) := rfl
  obtain ⟨es, clock, hb, hs, hks, hv, hn⟩ := h
  rcases findNow_spec hk es.toList 0 hks with ⟨h1, h2⟩ | ⟨j, e, h1, h2, h3⟩
  · have hno : ¬ k ∈ M := fun hc => by
      obtain ⟨e, he, hke⟩ := (hn k).2 hc
      exact h2 e he hke
    simp [Instr.lookup, run_underlying hm, MapKept.run_getObj_map hb, run_checkKey hd hk, run_findKey hd h1, hz, Result.andThen, hno]
  · have hmem : e ∈ es.toList := List.mem_of_getElem? h2
    have hyes : k ∈ M := (hn k).1 ⟨e, hmem, h3⟩
    have he : e.val = .agg #[] := hv e hmem
    simp [Instr.lookup, run_underlying hm, MapKept.run_getObj_map hb, run_checkKey hd hk, run_findKey hd h1, Result.andThen, he, hyes]

theorem set_put (hm : P.underlying mty = some (.map kt et)) (hd : P.underlying kt = some (.int .i64)) {r : Nat} {M : List Int} (h : SetR w r M) (k : Int) (hk9 : ¬ k ∈ M) :
    ∃ w1, (Instr.mapUpdate mty (.map (some r)) (.int .i64 k) (.agg #[])).run P w = .ok () w1 ∧ SetR w1 r (M ++ [k]) ∧ w.grownBy w1 (some r) := by
  have hk : IsKey (.int .i64) (.int .i64 k) := rfl
  obtain ⟨es, clock, hb, hs, hks, hv, hn⟩ := h
  have hgr : ∀ o : Obj, w.grownBy { w with heap := w.heap.setIfInBounds r o } (some r) := fun o => ⟨rfl, rfl, rfl, by simp, fun i _ hi => (heap_set hb).2 i (fun e => hi (by rw [e]))⟩
  rcases findNow_spec hk es.toList 0 hks with ⟨h1, h2⟩ | ⟨j, e, h1, h2, h3⟩
  · refine ⟨_, by simp [Instr.mapUpdate, run_underlying hm, MapKept.run_getObj_map hb, run_checkKey hd hk, run_findKey hd h1, MapKept.run_setObj_map _ hb, Result.andThen]; rfl, ?_, hgr _⟩
    refine ⟨_, _, (heap_set hb).1, stamped_push hs h2, ?_, ?_, ?_⟩
    · intro x hx
      simp only [Array.toList_push, List.mem_append, List.mem_singleton] at hx
      rcases hx with hx | rfl
      · exact hks x hx
      · exact hk
    · intro x hx
      simp only [Array.toList_push, List.mem_append, List.mem_singleton] at hx
      rcases hx with hx | rfl
      · exact hv x hx
      · rfl
    · intro k'
      simp only [Array.toList_push, List.mem_append, List.mem_singleton]
      constructor
      · rintro ⟨e, he | rfl, hke⟩
        · exact Or.inl ((hn k').1 ⟨e, he, hke⟩)
        · simp at hke
          exact Or.inr hke.symm
      · rintro (hc | rfl)
        · obtain ⟨e, he, hke⟩ := (hn k').2 hc
          exact ⟨e, Or.inl he, hke⟩
        · exact ⟨_, Or.inr rfl, rfl⟩
  · exact absurd ((hn k).1 ⟨e, List.mem_of_getElem? h2, h3⟩) hk9
end

def OwnC (w : World) (B : Nat) (v : Value) (L : List Int) : Prop := w.ownsRow B 2 1 v L.length (L.map (fun x => Value.int .i64 x))

theorem OwnC.mono {w : World} {B B' : Nat} {v : Value} {L : List Int} (h : OwnC w B v L) (hb : B' ≤ B) : OwnC w B' v L := by
  refine ⟨h.1, ?_⟩
  rcases h.2 with h2 | ⟨g, cap, cur, h3, h4, h5⟩
  · exact Or.inl h2
  · exact Or.inr ⟨g, cap, cur, h3, Nat.le_trans hb h4, h5⟩

theorem OwnC.below {w w' : World} {B : Nat} {v : Value} {L : List Int} (h : OwnC w B v L) (hb : RowKit.Below w.heap.size w w') : OwnC w' B v L :=
  World.ownsRow.kept (row := none) h ⟨hb.os, hb.tape, hb.output, hb.size, fun k hk _ => hb.block k hk⟩ (by cases v.ownBlock <;> simp)

theorem info_c64 : (Tryd.prog.info? 2).map (fun i => (i.zero, i.size, i.bytes)) = some (some (.int .i64 0), 1, 8) := by kernel_rfl

theorem wpList_append_C {w : World} {ops : Array Oper} {rest : List Oper} {o : Oper} {a : Act} {Q : Exit → Act → World → Prop} (hgd : o.guard = none) (s x : Operand) (t : TypeId)
    (ho : o.op = .call { callee := .builtin .append, args := #[s, x], argTypes := #[t, t] }) (ht : Tryd.prog.underlying t = some (.slice 2)) (B : Nat) (v : Value) (O : List Int) (hs : a.eval s = v) (hown : OwnC w B v O)
    (b n : Nat) (z : Int) (hx : a.eval x = .slice (some ⟨b, 0, none⟩) 1 n) (hc : w.cell? ⟨b, 0, none⟩ = some (.int .i64 z)) (hlen : O.length ≤ 10000000) (hB : B ≤ w.heap.size)
    (h : ∀ v' w', OwnC w' B v' (O ++ [z]) → w.grownBy w' v.ownBlock → wpList Tryd.prog ops Q rest (a.put o.dst v') w') : wpList Tryd.prog ops Q (o :: rest) a w := by
  obtain ⟨i, hi, hz0, hz1, hz2⟩ := info_parts info_c64
  refine wpList_append_own_at _ hgd s x t ho B 2 i (.int .i64 0) 1 8 ht hi hz0 hz1 hz2 rfl (by decide) v O.length (O.map (fun x => Value.int .i64 x)) hs hown ⟨b, 0, none⟩ 1 n [.int .i64 z] hx rfl ?_ (by simp [Value.oneCell']) (by unfold maxLen; omega) (by omega) hB ?_
  · intro j u hj
    match j, hj with
    | 0, hj => simp at hj; rw [Go.WideShapes.add_plain, ← hj]; exact hc
    | j + 1, hj => simp at hj
  · intro v' w' h1 h2 _ _
    refine h v' w' ?_ h2
    unfold OwnC
    simpa using h1

theorem nodup_leF : ∀ (N : Nat) (L : List Int), L.Nodup → (∀ x ∈ L, 0 ≤ x ∧ x < (N : Int)) → L.length ≤ N
  | 0, L, _, h => by
    cases L with
    | nil => simp
    | cons x L => have := h x (List.mem_cons_self ..); omega
  | N + 1, L, hn, h => by
    have ih := nodup_leF N (L.erase (N : Int)) (hn.erase _) (fun x hx => by
      have h1 := (hn.mem_erase_iff).1 hx
      have h2 := h x h1.2
      have : x ≠ (N : Int) := h1.1
      omega)
    by_cases hm : (N : Int) ∈ L
    · rw [List.length_erase_of_mem hm] at ih
      omega
    · rw [List.erase_of_not_mem hm] at ih
      omega

set_option maxHeartbeats 4000000 in
set_option maxRecDepth 100000 in
theorem next_any (b : Bt) (R g k : Nat) (f x : Int) (L : List Int) (c : Int) (w : World) (hc : -9223372036854775808 ≤ c ∧ c ≤ 9223372036854775807) (hR : Blk w R (volC b g k f x) 68) (hL : ∀ j, j < k → w.cell? ⟨g, j, none⟩ = some (.int .u32 (L.getD j 0))) :
    Calls Tryd.prog 52 #[.pointer (some ⟨R, 0, none⟩), .int .i64 c] w fun e w' => e = .returned (if 2 ≤ c ∧ c < (k : Int) + 2 then .tuple #[.int .u32 (L.getD (c - 2).toNat 0), .bool true] else .tuple #[.int .u32 0, .bool false]) ∧ w' = w := by
  have c8 := hR.cell 8 _ rfl
  by_cases h2 : c < 2
  · have d2 : decide (c < 2) = true := by simpa using h2
    rw [if_neg (by omega)]
    obtain ⟨Y, m1⟩ : ∃ Y, IntKind.i64.wrap (c - 2) = Y := ⟨_, rfl⟩
    clear h2 hL hR hc
    go_enter Tryd.func52, Tryd.ntmps52
    go_wp2_with fail
    go_ret2
    exact ⟨rfl, rfl⟩
  have m1 : IntKind.i64.wrap (c - 2) = c - 2 := by rw [IntKind.wrap_i64]; omega
  have d2 : decide (c < 2) = false := by simpa using h2
  by_cases h3 : (k : Int) ≤ c - 2
  · have d3 : decide ((k : Int) ≤ c - 2) = true := by simpa using h3
    rw [if_neg (by omega)]
    clear h2 h3 hL hR hc
    go_enter Tryd.func52, Tryd.ntmps52
    go_wp2_with fail
    go_ret2
    exact ⟨rfl, rfl⟩
  have d3 : decide ((k : Int) ≤ c - 2) = false := by simpa using h3
  rw [if_pos (by omega)]
  obtain ⟨i, hi⟩ : ∃ i : Nat, c - 2 = (i : Int) := ⟨(c - 2).toNat, by omega⟩
  rw [show (c - 2).toNat = i by omega]
  have hik : i < k := by omega
  have hcell := hL i hik
  rw [hi] at m1 d3
  have hi2 : IntKind.i64.wrap (c - 2) = (i : Int) := by rw [hi]; exact m1
  obtain ⟨y, hy⟩ : ∃ y, y = L.getD i 0 := ⟨_, rfl⟩
  rw [← hy] at hcell ⊢
  clear h2 h3 hL hR hc hi hy
  go_enter Tryd.func52, Tryd.ntmps52
  go_wp2_with fail
  go_ret2
  exact ⟨rfl, rfl⟩
end Go.Proofs.YtcbbaoiefdbcpaaDoor.Oct

namespace Go.Proofs.YtcbbaoiefdbcpaaDoor.Oct
open Go.RowKit Go.MapKept

/-- The clusters from one on: those so far, and an error. -/
def fol (L : List Int) (k : Nat) (mk : Int → Int) : Nat → List Int → Int → List Int × Int
  | 0, _, _ => ([], 13)
  | n + 1, acc, c =>
    if 2 ≤ c ∧ c < (k : Int) + 2 then
      if c ∈ acc then ([], 13)
      else if 0 < mk c then ([], 14)
      else if L.getD (c - 2).toNat 0 = 0 ∨ L.getD (c - 2).toNat 0 = 268435447 then ([], 11)
      else if 268435448 ≤ L.getD (c - 2).toNat 0 then (acc ++ [c], 0)
      else fol L k mk n (acc ++ [c]) (L.getD (c - 2).toNat 0)
    else ([], 4)

theorem MapV.below {w w' : World} {v z : Value} {f : Int → Value} (h : MapV w v z f) (hb : Below w.heap.size w w') : MapV w' v z f := by
  rcases h with h | ⟨r, hr, hm⟩
  · exact Or.inl h
  · exact Or.inr ⟨r, hr, hm.same (hb.block r hm.lt)⟩

theorem OwnC.len {w : World} {B : Nat} {v : Value} {L : List Int} (h : OwnC w B v L) : ∃ a cap, v = .slice a L.length cap := by
  rcases h.2 with ⟨rfl, hn⟩ | ⟨g, cap, cur, rfl, _⟩
  · exact ⟨none, 0, by rw [hn]⟩
  · exact ⟨_, _, rfl⟩

set_option maxHeartbeats 8000000 in
set_option maxRecDepth 100000 in
theorem follow_any (b : Bt) (R g k : Nat) (f x : Int) (L : List Int) (first : Int) (mv : Value) (mk : Int → Int) (w : World) (hc : -9223372036854775808 ≤ first ∧ first ≤ 9223372036854775807) (hk2 : k ≤ 40000) (hR : Blk w R (volC b g k f x) 68) (hL : ∀ j, j < k → w.cell? ⟨g, j, none⟩ = some (.int .u32 (L.getD j 0))) (hLr : ∀ j, 0 ≤ L.getD j 0 ∧ L.getD j 0 < 4294967296) (hm : MapV w mv (.int .i64 0) (fun c => .int .i64 (mk c))) :
    Calls Tryd.prog 32 #[.pointer (some ⟨R, 0, none⟩), .int .i64 first, mv] w fun e w' => (((fol L k mk (k + 1) [] first).2 = 0 ∧ ∃ v, e = .returned (.tuple #[v, .int .i64 0]) ∧ OwnC w' w.heap.size v (fol L k mk (k + 1) [] first).1) ∨ ((fol L k mk (k + 1) [] first).2 ≠ 0 ∧ e = .returned (.tuple #[.slice none 0 0, .int .i64 (fol L k mk (k + 1) [] first).2]))) ∧ Below w.heap.size w w' := by
  obtain ⟨w1, hw1⟩ : ∃ w1, w1 = w.alloc (.map #[] 0) := ⟨_, rfl⟩
  have hb1 : Below w.heap.size w w1 := by rw [hw1]; exact (Below.refl _ _).alloc (Nat.le_refl _) _
  have hs1 : w1.heap.size = w.heap.size + 1 := by rw [hw1]; simp
  have HM1 := hide (show SetR w1 w.heap.size [] by rw [hw1]; exact SetR.made w)
  have HB1 := hide hb1
  have HS1 := hide hs1
  have HW1 := hide hw1
  have hmk : (Instr.makeMap 105 none).run Tryd.prog w = .ok (.map (some w.heap.size)) w1 := by rw [hw1]; rfl
  have HNx := fun c u (h1 : -9223372036854775808 ≤ c ∧ c ≤ 9223372036854775807) (hu : Below w.heap.size w u) => hide (next_any b R g k f x L c u h1 (hR.below hu) (fun j hj => (hu.cell (p := ⟨g, j, none⟩) (lt_of_cell (hL j hj))).trans (hL j hj)))
  have HMv := fun u (hu : Below w.heap.size w u) => hide (hm.below hu)
  have HLr := hide hLr
  have HK2 := hide hk2
  obtain ⟨F0, hF0⟩ : ∃ F0, F0 = fol L k mk (k + 1) [] first := ⟨_, rfl⟩
  rw [← hF0]
  have HF0 := hide hF0
  clear hw1 hb1 hs1 hR hL hm hLr hF0 hk2
  go_enter Tryd.func32, Tryd.ntmps32
  go_wp2_with fail
  clear hmk
  go_loopw [8, 10] (fun v i wr => ∃ (n : Nat) (acc : List Int) (c : Int), i = .int .i64 c ∧ (-9223372036854775808 ≤ c ∧ c ≤ 9223372036854775807) ∧ OwnC wr (w.heap.size + 1) v acc ∧ SetR wr w.heap.size acc ∧ n + acc.length = k + 1 ∧ acc.Nodup ∧ (∀ a ∈ acc, 2 ≤ a ∧ a < (k : Int) + 2) ∧ F0 = fol L k mk n acc c ∧ Below w.heap.size w wr) (fun v _ _ => k + 1 - (match v with | .slice _ m _ => m | _ => 0))
  case atStart => exact ⟨k + 1, [], first, rfl, hc, World.ownsRow_nil _ _ _ _, HM1.out, by simp, by simp, by simp, HF0.out, HB1.out⟩
  case round =>
    obtain ⟨n, acc, c, rfl, hcb, how, hset, hlen, hnd, hin, hfo, hbw⟩ := hrel
    have hacc : acc.length ≤ k := by
      have := nodup_leF k (acc.map (fun a => a - 2)) (hnd.map _ (fun p q h e => h (by omega))) (by intro y hy; obtain ⟨a, ha, rfl⟩ := List.mem_map.1 hy; have := hin a ha; omega)
      simpa using this
    obtain ⟨m, rfl⟩ : ∃ m, n = m + 1 := ⟨n - 1, by omega⟩
    have HOw := hide how
    have HSe := hide hset
    have HBw := hide hbw
    have HNd := hide hnd
    have HIn := hide hin
    have HN := HNx c wr hcb hbw
    have HLe := hide (And.intro hlen hacc)
    have hfo' := hfo
    rw [fol] at hfo'
    have HT := hide hfo'
    clear how hset hbw hnd hin hlen hacc hfo hfo' HNx hcb
    by_cases h2 : 2 ≤ c ∧ c < (k : Int) + 2
    rotate_left
    · have HE := hide (show F0 = ([], 4) by rw [HT.out, if_neg h2])
      have HN2 := hide (HN.out)
      go_wp2_with fail
      refine HN2.out.mono ?_
      rintro e9 w2 ⟨rfl, h3⟩
      rw [h3, if_neg h2]
      clear h3
      go_wp2_with fail
      go_ret2
      exact ⟨Or.inr ⟨by rw [HE.out]; decide, by rw [HE.out]; rfl⟩, HBw.out⟩
    have HH2 := hide h2
    rw [if_pos h2] at HT
    obtain ⟨y, hy⟩ : ∃ y, y = L.getD (c - 2).toNat 0 := ⟨_, rfl⟩
    have hyr := HLr.out (c - 2).toNat
    rw [← hy] at HT hyr
    have HN2 : Hid (Calls Tryd.prog 52 #[.pointer (some ⟨R, 0, none⟩), .int .i64 c] wr fun e w' => e = .returned (.tuple #[.int .u32 y, .bool true]) ∧ w' = wr) := hide (HN.out.mono fun e w' ⟨g1, g2⟩ => ⟨by rw [g1, if_pos h2, hy], g2⟩)
    have HYr := hide hyr
    have hyw : IntKind.i64.wrap y = y := by rw [IntKind.wrap_i64]; omega
    clear h2 hy hyr HN
    have hlook := set_look (P := Tryd.prog) (w := wr) Tryd.underlying105 Tryd.underlying2 (by kernel_rfl) HSe.out c
    have hb2 := (Below.refl wr.heap.size wr).alloc (Nat.le_refl _) (.cells #[] 107)
    have HB2 := hide (HBw.out.trans (hb2.mono HBw.out.size))
    by_cases hin2 : c ∈ acc
    · have hdi : decide (c ∈ acc) = true := by simpa using hin2
      rw [hdi] at hlook
      have HE := hide (show F0 = ([], 13) by rw [HT.out, if_pos hin2])
      clear hin2 hdi HT hb2
      go_wp2_with fail
      refine HN2.out.mono ?_
      rintro e9 w2 ⟨rfl, h3⟩
      rw [h3]
      clear h3
      go_wp2_with fail
      go_ret2
      exact ⟨Or.inr ⟨by rw [HE.out]; decide, by rw [HE.out]; rfl⟩, HB2.out⟩
    have hdi : decide (c ∈ acc) = false := by simpa using hin2
    rw [hdi] at hlook
    rw [if_neg hin2] at HT
    have hmarks := look_run (P := Tryd.prog) (w := (wr.alloc (.cells #[] 107))) (mty := 40) Tryd.underlying40 Tryd.underlying2 (by kernel_rfl) (HMv _ HB2.out).out c
    by_cases hmk : 0 < mk c
    · have hmd : decide (0 < mk c) = true := by simpa using hmk
      have HE := hide (show F0 = ([], 14) by rw [HT.out, if_pos hmk])
      clear hmk hin2 hdi HT hb2
      go_wp2_with fail
      refine HN2.out.mono ?_
      rintro e9 w2 ⟨rfl, h3⟩
      rw [h3]
      clear h3
      go_wp2_with fail
      go_ret2
      exact ⟨Or.inr ⟨by rw [HE.out]; decide, by rw [HE.out]; rfl⟩, HB2.out⟩
    have hmd : decide (0 < mk c) = false := by simpa using hmk
    rw [if_neg hmk] at HT
    by_cases hy0 : y = 0 ∨ y = 268435447
    · have hyc : (y == 0) = true ∨ ((y == 0) = false ∧ (y == 268435447) = true) := by simp; omega
      have HE := hide (show F0 = ([], 11) by rw [HT.out, if_pos hy0])
      clear hy0 hmk hin2 hdi HT hb2
      rcases hyc with y0 | ⟨y0, y1⟩
      all_goals
        go_wp2_with fail
        refine HN2.out.mono ?_
        rintro e9 w2 ⟨rfl, h3⟩
        rw [h3]
        clear h3
        go_wp2_with fail
        go_ret2
        exact ⟨Or.inr ⟨by rw [HE.out]; decide, by rw [HE.out]; rfl⟩, HB2.out⟩
    have y0 : (y == 0) = false := by simp; omega
    have y1 : (y == 268435447) = false := by simp; omega
    rw [if_neg hy0] at HT
    obtain ⟨w3, hup, hse3, hg3⟩ := set_put (P := Tryd.prog) (w := (wr.alloc (.cells #[] 107))) (mty := 105) Tryd.underlying105 Tryd.underlying2 (HSe.out.below hb2) c hin2
    have how3 : OwnC w3 (w.heap.size + 1) u8 acc := World.ownsRow.kept (row := some w.heap.size) (HOw.out.below hb2) hg3 (Or.inr (fun e => by
      have := (World.ownsRow.lt HOw.out _ e).1
      omega))
    have hb3 : Below w.heap.size w w3 := HB2.out.trans (Chg.below w.heap.size (Chg.of_grown hg3) HB2.out.size (fun i hi e => by have := Option.some.inj e; omega))
    obtain ⟨w4, hw4⟩ : ∃ w4, w4 = w3.alloc (.cells #[.int .i64 c] 2) := ⟨_, rfl⟩
    have hb4 : Below w3.heap.size w3 w4 := by rw [hw4]; exact (Below.refl _ _).alloc (Nat.le_refl _) _
    have HK4 := hide (show Blk w4 w3.heap.size #[.int .i64 c] 2 by rw [hw4]; exact Blk.new _ _ _)
    have HO4 := hide (how3.below hb4)
    have HS4 := hide (hse3.below hb4)
    have HB4 := hide (hb3.trans (hb4.mono hb3.size))
    have HW4 := hide hw4
    have HSz := hide (show w.heap.size + 1 ≤ w4.heap.size by
      have h1 := hse3.lt
      have h2 := hb4.size
      omega)
    have HNi := hide hin2
    clear how3 hb3 hb4 hw4 hse3 hg3 hb2 hdi hin2 hmk
    by_cases hye : 268435448 ≤ y
    · have hyd : decide (268435448 ≤ y) = true := by simpa using hye
      have HE := hide (show F0 = (acc ++ [c], 0) by rw [HT.out, if_pos hye])
      clear hye HT hy0
      go_wp2_with fail
      refine HN2.out.mono ?_
      rintro e9 w2 ⟨rfl, h3⟩
      rw [h3]
      clear h3
      go_wp2_with (at_builtin; rw [← HW4.out]; refine wpList_append_C rfl (.tmp 45) (.tmp 47) 25 rfl Tryd.underlying25 (w.heap.size + 1) _ acc rfl HO4.out w3.heap.size 1 c rfl (HK4.out.cell 0 _ rfl) (by have := HLe.out; have := HK2.out; omega) (by exact HSz.out) ?_; intro v5 w5 ho5 hg5; have HO5 := hide ho5; have HB5 := hide (HB4.out.trans (Chg.below w.heap.size (Chg.of_grown hg5) HB4.out.size (fun i hi e => by have := (World.ownsRow.lt HO4.out _ e.symm).1; omega))); clear ho5 hg5)
      go_ret2
      exact ⟨Or.inl ⟨by rw [HE.out], v5, rfl, by rw [HE.out]; exact HO5.out.mono (by omega)⟩, HB5.out⟩
    · have hyd : decide (268435448 ≤ y) = false := by simpa using hye
      have HE := hide (show F0 = fol L k mk m (acc ++ [c]) y by rw [HT.out, if_neg hye])
      clear hye HT hy0
      go_wp2_with fail
      refine HN2.out.mono ?_
      rintro e9 w2 ⟨rfl, h3⟩
      rw [h3]
      clear h3
      go_wp2_with (at_builtin; rw [← HW4.out]; refine wpList_append_C rfl (.tmp 45) (.tmp 47) 25 rfl Tryd.underlying25 (w.heap.size + 1) _ acc rfl HO4.out w3.heap.size 1 c rfl (HK4.out.cell 0 _ rfl) (by have := HLe.out; have := HK2.out; omega) (by exact HSz.out) ?_; intro v5 w5 ho5 hg5; have HO5 := hide ho5; have HS5 := hide (HS4.out.same (hg5.block w.heap.size HS4.out.lt (fun e => by have := (World.ownsRow.lt HO4.out _ e.symm).1; omega))); have HB5 := hide (HB4.out.trans (Chg.below w.heap.size (Chg.of_grown hg5) HB4.out.size (fun i hi e => by have := (World.ownsRow.lt HO4.out _ e.symm).1; omega))); clear ho5 hg5)
      obtain ⟨a5, c5, hv5⟩ := HO5.out.len
      obtain ⟨a6, c6, hv6⟩ := HOw.out.len
      have hle := HLe.out
      refine ⟨⟨m, acc ++ [c], y, rfl, by have := HYr.out; omega, HO5.out, HS5.out, by simp; omega, ?_, ?_, HE.out, HB5.out⟩, ?_⟩
      · exact List.nodup_append.2 ⟨HNd.out, by simp, by intro p hp q hq; simp at hq; subst hq; exact fun e => HNi.out (e ▸ hp)⟩
      · intro a ha
        rcases List.mem_append.1 ha with h | h
        · exact HIn.out a h
        · simp at h; subst h; exact HH2.out
      · rw [hv5, hv6]
        simp
        omega
end Go.Proofs.YtcbbaoiefdbcpaaDoor.Oct

namespace Go.Proofs.YtcbbaoiefdbcpaaDoor.Oct
open Go.RowKit Go.MapKept

theorem wpList_append_Cs {w : World} {ops : Array Oper} {rest : List Oper} {o : Oper} {a : Act} {Q : Exit → Act → World → Prop} (hgd : o.guard = none) (s x : Operand) (t : TypeId)
    (ho : o.op = .call { callee := .builtin .append, args := #[s, x], argTypes := #[t, t] }) (ht : Tryd.prog.underlying t = some (.slice 2)) (B : Nat) (v : Value) (O : List Int) (hs : a.eval s = v) (hown : OwnC w B v O)
    (b m n : Nat) (zs : List Int) (hx : a.eval x = .slice (some ⟨b, 0, none⟩) m n) (hm : m = zs.length) (hc : ∀ j z, zs[j]? = some z → w.cell? ⟨b, j, none⟩ = some (.int .i64 z)) (hlen : O.length + zs.length ≤ 10000000) (hB : B ≤ w.heap.size)
    (h : ∀ v' w', OwnC w' B v' (O ++ zs) → w.grownBy w' v.ownBlock → wpList Tryd.prog ops Q rest (a.put o.dst v') w') : wpList Tryd.prog ops Q (o :: rest) a w := by
  obtain ⟨i, hi, hz0, hz1, hz2⟩ := info_parts info_c64
  subst hm
  refine wpList_append_own_at _ hgd s x t ho B 2 i (.int .i64 0) 1 8 ht hi hz0 hz1 hz2 rfl (by decide) v O.length (O.map (fun x => Value.int .i64 x)) hs hown ⟨b, 0, none⟩ zs.length n (zs.map (fun x => Value.int .i64 x)) hx (by simp) ?_ ?_ (by unfold maxLen; omega) (by omega) hB ?_
  · intro j u hj
    rw [List.getElem?_map] at hj
    cases hz : zs[j]? with
    | none => rw [hz] at hj; simp at hj
    | some z =>
      rw [hz] at hj
      simp at hj
      rw [Go.WideShapes.add_plain, Nat.zero_add, ← hj]
      exact hc j z hz
  · simp [Value.oneCell']
  · intro v' w' h1 h2 _ _
    refine h v' w' ?_ h2
    unfold OwnC
    simpa using h1

/-- A slice of such numbers, anybody's. -/
def LiesC (w : World) (v : Value) (L : List Int) : Prop := ∃ a c, v = .slice a L.length c ∧ (L = [] ∨ ∃ b off, a = some ⟨b, off, none⟩ ∧ ∀ (j : Nat) z, L[j]? = some z → w.cell? ⟨b, off + j, none⟩ = some (.int .i64 z))

theorem LiesC.below {w w' : World} {v : Value} {L : List Int} (h : LiesC w v L) (hb : Below w.heap.size w w') : LiesC w' v L := by
  obtain ⟨a, c, h1, h2⟩ := h
  refine ⟨a, c, h1, h2.imp id ?_⟩
  rintro ⟨b, off, h3, h4⟩
  exact ⟨b, off, h3, fun j z hz => (hb.cell (p := ⟨b, off + j, none⟩) (lt_of_cell (h4 j z hz))).trans (h4 j z hz)⟩

theorem OwnC.liesC {w : World} {B : Nat} {v : Value} {L : List Int} (h : OwnC w B v L) : LiesC w v L := by
  have h0 := h
  rcases h.2 with ⟨rfl, hn⟩ | ⟨g, cap, cur, rfl, _⟩
  · exact ⟨none, 0, by rw [hn], Or.inl (List.length_eq_zero_iff.1 hn)⟩
  · refine ⟨_, cap, rfl, Or.inr ⟨g, 0, rfl, fun j z hz => ?_⟩⟩
    have := World.ownsRow.cells (g := g) h0 rfl j (.int .i64 z) (by simp [hz])
    rw [Go.WideShapes.add_plain, Nat.zero_add] at this
    rw [Nat.zero_add]
    exact this

set_option maxHeartbeats 4000000 in
set_option maxRecDepth 100000 in
/-- In: is a number among them? -/
theorem rin_any (v : Value) (L : List Int) (n : Int) (w : World) (hL : L.length ≤ 100000) (hl : LiesC w v L) :
    Calls Tryd.prog 10 #[v, .int .i64 n] w fun e w' => e = .returned (.bool (decide (n ∈ L))) ∧ w' = w := by
  obtain ⟨a, c, rfl, hc⟩ := hl
  have HK := hide hL
  have HC := hide hc
  obtain ⟨m, hm⟩ : ∃ m, m = L.length := ⟨_, rfl⟩
  rw [← hm]
  have HM := hide hm
  clear hL hc hm
  go_enter Tryd.func10, Tryd.ntmps10
  go_wp2_with fail
  go_loopw [5] (fun i wr => ∃ j : Nat, j ≤ m ∧ i = .int .i64 (j : Int) ∧ (∀ x ∈ L.take j, x ≠ n) ∧ wr = w) (fun i _ => m - (intOf i).toNat)
  case atStart => exact ⟨0, by omega, rfl, by simp, rfl⟩
  case round =>
    obtain ⟨j, hj, rfl, hno, rfl⟩ := hrel
    have HNo := hide hno
    clear hno
    by_cases hjk : j < m
    · obtain ⟨b, off, rfl, hcs⟩ := HC.out.resolve_left (fun e => by have := HM.out; rw [e] at this; simp at this; omega)
      have hjl : j < L.length := by rw [← HM.out]; exact hjk
      have cj := hcs j L[j] (List.getElem?_eq_getElem hjl)
      obtain ⟨y, hy⟩ : ∃ y, y = L[j] := ⟨_, rfl⟩
      rw [← hy] at cj
      have HY := hide hy
      have hk3 := HK.out
      have hk4 := HM.out
      have hq3 : IntKind.i64.wrap ((j : Int) + 1) = (j : Int) + 1 := by rw [IntKind.wrap_i64]; omega
      have hlt : (j : Int) < (m : Int) := by omega
      have HJ := hide hjk
      clear hjk hj hy hk3 hk4 hcs
      by_cases h0 : y = n
      · have hq : (y == n) = true := by simpa using h0
        have HE := hide h0
        clear h0
        go_wp2_with fail
        go_ret
        refine ⟨?_, rfl⟩
        have hmem : n ∈ L := by rw [← HE.out, HY.out]; exact List.getElem_mem _
        simp [hmem]
      · have hq : (y == n) = false := by simpa using h0
        have HE := hide h0
        clear h0
        go_wp2_with fail
        go_roundw
        case rel =>
          refine ⟨j + 1, by have := HJ.out; omega, by push_cast; rfl, ?_, trivial⟩
          intro x hx
          have hjl : j < L.length := by rw [← HM.out]; exact HJ.out
          rw [List.take_add_one, List.getElem?_eq_getElem hjl] at hx
          rcases List.mem_append.1 hx with h | h
          · exact HNo.out x h
          · simp at h; rw [h, ← HY.out]; exact HE.out
        case measure => have := HJ.out; simp [intOf]; omega
    · obtain rfl : j = m := by omega
      clear hjk
      have hnlt : ¬ ((j : Int) < (j : Int)) := by omega
      go_wp2_with fail
      go_ret
      refine ⟨?_, rfl⟩
      have hno : ¬ n ∈ L := fun h => HNo.out n (by rw [HM.out, List.take_length]; exact h) rfl
      simp [hno]

set_option maxHeartbeats 4000000 in
set_option maxRecDepth 100000 in
/-- free: how many are 0, from the third on. -/
theorem rfree_any (v : Value) (N : List Int) (k : Nat) (w : World) (hk : N.length = k) (hk2 : k ≤ 40000) (hl : LiesC w v (0 :: 0 :: N)) :
    Calls Tryd.prog 31 #[v] w fun e w' => e = .returned (.int .i64 (frees N k)) ∧ w' = w := by
  obtain ⟨a, c, rfl, hc⟩ := hl
  obtain ⟨b, off, rfl, hcs⟩ := hc.resolve_left (by simp)
  have hl2 : (0 :: 0 :: N).length = k + 2 := by simp [hk]
  rw [hl2]
  have HK := hide (And.intro hk hk2)
  have HL := hide (show ∀ j, j < k → w.cell? ⟨b, off + (2 + j), none⟩ = some (.int .i64 (N.getD j 0)) from fun j hj => hcs (2 + j) (N.getD j 0) (by
    rw [show 2 + j = j + 1 + 1 by omega]
    simp [show j < N.length by omega]))
  clear hk hk2 hc hcs hl2
  go_enter Tryd.func31, Tryd.ntmps31
  go_wp2_with fail
  go_loopw [3, 4] (fun s i wr => ∃ j : Nat, j ≤ k ∧ i = .int .i64 (2 + (j : Int)) ∧ s = .int .i64 (frees N j) ∧ wr = w) (fun _ i _ => k + 2 - (intOf i).toNat)
  case atStart => exact ⟨0, by omega, rfl, by simp [frees], rfl⟩
  case round =>
    obtain ⟨j, hj, rfl, rfl, rfl⟩ := hrel
    by_cases hjk : j < k
    · have cj := HL.out j hjk
      have hst := frees_step N j (by have := HK.out.1; omega)
      have hle := frees_le N j
      have hk3 := HK.out.2
      have hj2 : (2 + (j : Int)) = ((2 + j : Nat) : Int) := by omega
      rw [hj2]
      obtain ⟨p, hp⟩ : ∃ p, p = 2 + j := ⟨_, rfl⟩
      rw [← hp] at cj ⊢
      have hq3 : IntKind.i64.wrap ((p : Int) + 1) = (p : Int) + 1 := by rw [IntKind.wrap_i64]; omega
      have hq4 : IntKind.i64.wrap (frees N j + 1) = frees N j + 1 := by rw [IntKind.wrap_i64]; omega
      have hlt : (p : Int) < ((k + 2 : Nat) : Int) := by omega
      have hlt2 : (p : Int) < (k : Int) + 2 := by omega
      have hlt3 : p < k + 2 := by omega
      have HJ := hide hjk
      have HP := hide hp
      have HST := hide hst
      clear hjk hst hle hk3 hj hp hj2
      by_cases h0 : N.getD j 0 = 0
      · have h1 := HST.out
        rw [if_pos h0] at h1
        have H1 := hide h1
        rw [h0] at cj
        clear h1 h0 HST
        go_wp2_with fail
        go_roundw
        case rel => exact ⟨j + 1, by have := HJ.out; omega, by have := HP.out; rw [this]; push_cast; congr 1, by rw [H1.out], trivial⟩
        case measure => have := HJ.out; have := HP.out; simp [intOf]; omega
      · have h1 := HST.out
        rw [if_neg h0] at h1
        have H1 := hide h1
        have hq : (N.getD j 0 == 0) = false := by simpa using h0
        generalize N.getD j 0 = v at *
        clear h1 h0 HST
        go_wp2_with fail
        go_roundw
        case rel => exact ⟨j + 1, by have := HJ.out; omega, by have := HP.out; rw [this]; push_cast; congr 1, by rw [H1.out], trivial⟩
        case measure => have := HJ.out; have := HP.out; simp [intOf]; omega
    · obtain rfl : j = k := by omega
      clear hjk
      have hnlt : ¬ (2 + (j : Int) < ((j + 2 : Nat) : Int)) := by omega
      have hnlt2 : ¬ (2 + (j : Int) < (j : Int) + 2) := by omega
      go_wp2_with fail
      go_ret
      exact ⟨rfl, rfl⟩
end Go.Proofs.YtcbbaoiefdbcpaaDoor.Oct
