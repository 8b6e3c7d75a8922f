/- MbrLoops, for all numbers: a chain that comes back to one of its sectors is told, wherever it does, and however long it is; one that ends is not (no condition). -/
import Derived.Test.YtgpggohkapdjpaaMbu
import Derived.Test.YtgpggohkapdjpaaMca
import Derived.Test.YtgpggohkapdjpaaOpen
import Derived.Test.YtgpggohkapdjpaaRows
namespace Go.Proofs.Ytgpggohkapdjpaa.Oct
open Go.RowKit Go.ChangeShapes Go.WideShapes Go.ChangeAt

def encL (x : LD) : List Value := [.int .i64 x.at_, .slice x.a x.L.length x.c, .slice x.ma x.mb.length x.mc]

def OwnL (w : World) (B : Nat) (v : Value) (X : List LD) : Prop := w.ownsRow B 61 3 v X.length (X.flatMap encL)

theorem OwnL.below {w w' : World} {B : Nat} {v : Value} {X : List LD} (h : OwnL w B v X) (hb : RowKit.Below w.heap.size w w') : OwnL w' B v X :=
  World.ownsRow.kept (row := none) h ⟨hb.os, hb.tape, hb.output, hb.size, fun k hk _ => hb.block k hk⟩ (by cases v.ownBlock <;> simp)

theorem flatL_get : ∀ (L : List LD) (k j : Nat), k < L.length → j < 3 → (L.flatMap encL)[k * 3 + j]? = (encL (L.getD k LD.z))[j]?
  | [], k, j, hk, _ => by simp at hk
  | x :: L, 0, j, _, hj => by
    simp only [List.flatMap_cons, Nat.zero_mul, Nat.zero_add]
    rw [List.getElem?_append_left (by simp [encL]; omega)]
    simp
  | x :: L, k + 1, j, hk, hj => by
    simp only [List.flatMap_cons]
    rw [List.getElem?_append_right (by simp [encL]; omega)]
    have := flatL_get L k j (by simpa using hk) hj
    simp only [List.getD_cons_succ]
    rw [← this]
    congr 1
    simp [encL]
    omega

theorem LiesM.lt' {w : World} {g o : Nat} {x : M3} {L : List M3} (h : LiesM w (some ⟨g, o, none⟩) (x :: L)) (_ : True = True) : g < w.heap.size := by
  rcases h with h | ⟨b, off, e, hb, _⟩
  · cases h
  · cases e; exact hb

theorem new3L (w : World) (t : TypeId) (x y z : Value) : ∀ (j : Nat) (v : Value), [x, y, z][j]? = some v → (w.alloc (.cells #[x, y, z] t)).cell? ((⟨w.heap.size, 0, none⟩ : Addr).add j) = some v := by
  intro j v hj
  have h := Blk.new w #[x, y, z] t
  rw [Go.WideShapes.add_plain, Nat.zero_add]
  exact h.cell j v (by simpa using hj)

/-- The rows of such a disk, the first j of its chain: where they lie. -/
structure RowX (w : World) (v : Value) (X : List LD) (n k : Nat) (ends : Bool) (j : Nat) : Prop where
  len : X.length = j + 1
  zero : (X.getD 0 LD.z).at_ = 0 ∧ (X.getD 0 LD.z).L = [(5, 10, 150)] ∧ (X.getD 0 LD.z).mb = []
  row : ∀ i, i < j → (X.getD (i + 1) LD.z).at_ = 10 + 4 * (i : Int) ∧ (X.getD (i + 1) LD.z).L = [(11, 1, 2), nxL n k ends i] ∧ (X.getD (i + 1) LD.z).mb = []
  lies : ∀ i, i < j + 1 → LiesM w (X.getD i LD.z).a (X.getD i LD.z).L ∧ ∀ ad, (X.getD i LD.z).a = some ad → v.ownBlock ≠ some ad.block ∧ ad.block < w.heap.size

theorem getD_app1 (X : List LD) (x : LD) (i : Nat) (hi : i < X.length) : (X ++ [x]).getD i LD.z = X.getD i LD.z := by
  rw [List.getD_eq_getElem?_getD, List.getElem?_append_left hi, List.getD_eq_getElem?_getD]

theorem getD_app2 (X : List LD) (x : LD) (i : Nat) (hi : i = X.length) : (X ++ [x]).getD i LD.z = x := by
  subst hi
  rw [List.getD_eq_getElem?_getD, List.getElem?_append_right (Nat.le_refl _)]
  simp

theorem RowX.grow {wr wa w5 : World} {B : Nat} {v v5 : Value} {X : List LD} {n k : Nat} {ends : Bool} {j : Nat} (h : RowX wr v X n k ends j) (hba : Below wr.heap.size wr wa) (hO : OwnL wr B v X) (ad0 : Option Addr)
    (hl : LiesM wa ad0 [(11, 1, 2), nxL n k ends j])
    (ho5 : w5.ownsRow B 61 3 v5 (X.length + 1) (X.flatMap encL ++ [.int .i64 (10 + 4 * (j : Int)), .slice ad0 2 2, .slice none 0 0])) (hg5 : wa.grownBy w5 v.ownBlock) (hw5 : v5.ownBlock = v.ownBlock ∨ v5.ownBlock = some wa.heap.size)
    (had : ∀ ad, ad0 = some ad → wr.heap.size ≤ ad.block ∧ ad.block < wa.heap.size) :
    RowX w5 v5 (X ++ [⟨10 + 4 * (j : Int), ad0, [(11, 1, 2), nxL n k ends j], 2, none, [], 0⟩]) n k ends (j + 1) ∧ OwnL w5 B v5 (X ++ [⟨10 + 4 * (j : Int), ad0, [(11, 1, 2), nxL n k ends j], 2, none, [], 0⟩]) := by
  have hne : ∀ i, i < j + 1 → ∀ ad, (X.getD i LD.z).a = some ad → v5.ownBlock ≠ some ad.block := fun i hi ad e e2 => by
    obtain ⟨h1, h2⟩ := (h.lies i hi).2 ad e
    rcases hw5 with h3 | h3
    · rw [h3] at e2; exact h1 e2
    · rw [h3] at e2
      have := hba.size
      simp at e2
      omega
  have hc := Chg.of_grown hg5
  refine ⟨⟨by rw [List.length_append, h.len]; rfl, ?_, ?_, ?_⟩, ?_⟩
  · rw [getD_app1 _ _ _ (by rw [h.len]; omega)]
    exact h.zero
  · intro i hi
    by_cases hij : i < j
    · rw [getD_app1 _ _ _ (by rw [h.len]; omega)]
      exact h.row i hij
    · obtain rfl : i = j := by omega
      rw [getD_app2 _ _ _ (by rw [h.len])]
      exact ⟨rfl, rfl, rfl⟩
  · intro i hi
    by_cases hij : i < j + 1
    · rw [getD_app1 _ _ _ (by rw [h.len]; omega)]
      refine ⟨((h.lies i hij).1.below hba).chg hc (fun ad e e2 => ((h.lies i hij).2 ad e).1 e2.symm), fun ad e => ⟨hne i hij ad e, ?_⟩⟩
      have := ((h.lies i hij).2 ad e).2
      have := hba.size
      have := hg5.size
      omega
    · obtain rfl : i = j + 1 := by omega
      rw [getD_app2 _ _ _ (by rw [h.len])]
      refine ⟨hl.chg hc (fun ad e e2 => ?_), fun ad e => ⟨fun e2 => ?_, ?_⟩⟩
      · have := (had ad e).1
        have := (World.ownsRow.lt hO _ e2.symm).2
        omega
      · have h4 := had ad e
        rcases hw5 with h3 | h3
        · rw [h3] at e2
          have := (World.ownsRow.lt hO _ e2).2
          omega
        · rw [h3] at e2
          simp at e2
          omega
      · have := (had ad e).2
        have := hg5.size
        omega
  · unfold OwnL
    rw [List.flatMap_append, List.length_append]
    exact ho5

theorem RowX.liesL {w : World} {B g n0 c : Nat} {X : List LD} {n k : Nat} {ends : Bool} {j : Nat} (h : RowX w (.slice (some ⟨g, 0, none⟩) n0 c) X n k ends j) (hO : OwnL w B (.slice (some ⟨g, 0, none⟩) n0 c) X) : LiesL w (some ⟨g, 0, none⟩) X := by
  refine Or.inr ⟨g, 0, rfl, (World.ownsRow.lt hO g rfl).2, fun q hq => ?_⟩
  have hc := World.ownsRow.cells (g := g) hO rfl
  have e : ∀ r, r < 3 → w.cell? ⟨g, q * 3 + r, none⟩ = (encL (X.getD q LD.z))[r]? := by
    intro r hr
    have hf := flatL_get X q r hq hr
    have h3 : r < (encL (X.getD q LD.z)).length := by simp [encL]; omega
    rw [List.getElem?_eq_getElem h3] at hf ⊢
    have := hc _ _ hf
    rw [Go.WideShapes.add_plain, Nat.zero_add] at this
    exact this
  have hb : (X.getD q LD.z).mb = [] := by
    cases q with
    | zero => exact h.zero.2.2
    | succ q => exact (h.row q (by rw [h.len] at hq; omega)).2.2
  refine ⟨⟨by rw [Nat.zero_add]; exact e 0 (by omega), by rw [Nat.zero_add]; exact e 1 (by omega), by rw [Nat.zero_add]; exact e 2 (by omega)⟩, (h.lies q (by rw [h.len] at hq; exact hq)).1, Or.inl hb⟩

theorem loop_pars' {X : List LD} {n k : Nat} {ends : Bool} (h : LoopX X n k ends) (hn : n ≤ 25) (hk : k < n) : parsM (diskD 170 X (n + 1)) = if ends = true then .ok (stJ n) else .error 13 := by
  classical
  unfold parsM
  rw [loop_first h hn]
  simp only
  rw [loop_pars h hn hk]
  cases ends
  · rfl
  · simp only [if_true]
    rw [if_pos (show (outerM (stJ n)).Pairwise Off ∧ (allM (stJ n)).Pairwise Off from loop_off n)]

theorem infoLd : (Try.prog.info? 61).map (fun i => (i.zero, i.size, i.bytes)) = some (some (.agg #[.int .i64 0, .slice none 0 0, .slice none 0 0]), 3, 56) := by kernel_rfl

set_option maxHeartbeats 16000000 in
set_option maxRecDepth 100000 in
theorem mloops_walk (long back : Int) (ends : Bool) (w : World) :
    Calls Try.prog 6 #[.int .i64 long, .int .i64 back, .bool ends] w fun e w' => e = .returned (.bool true) ∧ Below w.heap.size w w' := by
  have HCh := hide (chained_any sort_says w)
  obtain ⟨U, hU⟩ : ∃ U, U = long % p64 := ⟨_, rfl⟩
  have hU0 : 0 ≤ U ∧ U < 18446744073709551616 := by rw [hU]; unfold p64; omega
  have hwU : IntKind.u64.wrap long = U := by rw [IntKind.wrap_u64, hU]; rfl
  obtain ⟨n', hn'⟩ : ∃ n' : Nat, n' = (U % 25).toNat := ⟨_, rfl⟩
  have hre : U % 25 = (n' : Int) := by omega
  have hrt : U.tmod 25 = (n' : Int) := by rw [Int.tmod_eq_emod_of_nonneg hU0.1]; exact hre
  have hwn' : IntKind.i64.wrap (n' : Int) = (n' : Int) := by rw [IntKind.wrap_i64]; omega
  obtain ⟨n, hn⟩ : ∃ n : Nat, n = n' + 1 := ⟨_, rfl⟩
  have hnb : 0 < n ∧ n ≤ 25 := by omega
  have hadd : (1 : Int) + (n' : Int) = (n : Int) := by omega
  have hwn : IntKind.i64.wrap (n : Int) = (n : Int) := by rw [IntKind.wrap_i64]; omega
  have hwnu : IntKind.u64.wrap (n : Int) = (n : Int) := by rw [IntKind.wrap_u64]; omega
  obtain ⟨V, hV⟩ : ∃ V, V = back % p64 := ⟨_, rfl⟩
  have hV0 : 0 ≤ V ∧ V < 18446744073709551616 := by rw [hV]; unfold p64; omega
  have hwV : IntKind.u64.wrap back = V := by rw [IntKind.wrap_u64, hV]; rfl
  obtain ⟨k, hk⟩ : ∃ k : Nat, k = (V % n).toNat := ⟨_, rfl⟩
  have hkb : k < n := by
    have h1 := Int.emod_nonneg V (b := (n : Int)) (by omega)
    have h2 := Int.emod_lt_of_pos V (b := (n : Int)) (by omega)
    omega
  have hke : V % (n : Int) = (k : Int) := by have := Int.emod_nonneg V (b := (n : Int)) (by omega); omega
  have hkt : V.tmod (n : Int) = (k : Int) := by rw [Int.tmod_eq_emod_of_nonneg hV0.1]; exact hke
  have hwk : IntKind.i64.wrap (k : Int) = (k : Int) := by rw [IntKind.wrap_i64]; omega
  have hnz : ¬ (n : Int) = 0 := by omega
  obtain ⟨i1, hi, hz0, hz1, hz2⟩ := info_parts infoLd
  clear hU hn' hn hV hk
  go_enter Try.func6, Try.ntmps6
  go_wp2_with fail
  refine HCh.out.mono ?_
  rintro e9 w0 ⟨rfl, hb0⟩
  obtain ⟨w1, hw1⟩ : ∃ w1, w1 = (w0.alloc (.cells #[.int .i64 5, .int .i64 10, .int .i64 150] 32)).alloc (.cells #[.int .i64 0, .slice (some ⟨w0.heap.size, 0, none⟩) 1 1, .slice none 0 0] 61) := ⟨_, rfl⟩
  have hb1 : Below w0.heap.size w0 w1 := by rw [hw1]; exact ((Below.refl _ _).alloc (Nat.le_refl _) _).alloc (by simp) _
  have hA1 : Blk w1 w0.heap.size #[.int .i64 5, .int .i64 10, .int .i64 150] 32 := by rw [hw1]; exact (Blk.new _ _ _).below ((Below.refl _ _).alloc (Nat.le_refl _) _)
  have ho1 : OwnL w1 w.heap.size (.slice (some ⟨w0.heap.size + 1, 0, none⟩) 1 1) [⟨0, some ⟨w0.heap.size, 0, none⟩, [(5, 10, 150)], 1, none, [], 0⟩] := by
    rw [hw1]
    have := World.ownsRow_lit (base := w.heap.size) (e := 61) (size := 3) (w0.alloc (.cells #[.int .i64 5, .int .i64 10, .int .i64 150] 32)) #[.int .i64 0, .slice (some ⟨w0.heap.size, 0, none⟩) 1 1, .slice none 0 0] 1 (by have := hb0.size; simp; omega) (by unfold maxLen; omega) rfl
    unfold OwnL
    simpa [encL] using this
  have HR1 : Hid (RowX w1 (.slice (some ⟨w0.heap.size + 1, 0, none⟩) 1 1) [⟨0, some ⟨w0.heap.size, 0, none⟩, [(5, 10, 150)], 1, none, [], 0⟩] n k ends 0) := hide (by
    refine ⟨rfl, ⟨rfl, rfl, rfl⟩, fun i hi => by omega, fun i hi => ?_⟩
    obtain rfl : i = 0 := by omega
    refine ⟨Or.inr ⟨w0.heap.size, 0, rfl, hA1.lt, fun q hq => ?_⟩, fun ad e => ?_⟩
    · obtain rfl : q = 0 := by simp at hq; omega
      exact ⟨hA1.cell 0 _ rfl, hA1.cell 1 _ rfl, hA1.cell 2 _ rfl⟩
    · cases e
      exact ⟨by simp [Value.ownBlock], hA1.lt⟩)
  have HO1 := hide ho1
  have HB1 := hide (hb0.trans (hb1.mono hb0.size))
  have HW1 := hide hw1
  clear hb0 hb1 hA1 ho1 hw1
  go_wp2_with fail
  go_loopw [9, 10] (fun v9 i wr => ∃ (j : Nat) (X : List LD), j ≤ n ∧ i = .int .i64 j ∧ RowX wr v9 X n k ends j ∧ OwnL wr w.heap.size v9 X ∧ Below w.heap.size w wr) (fun _ i _ => n - (intOf i).toNat)
  case atStart => rw [← HW1.out]; exact ⟨0, _, by omega, rfl, HR1.out, HO1.out, HB1.out⟩
  case round =>
    obtain ⟨j, X, hj, rfl, hrx, hox, hbel⟩ := hrel
    have HRx := hide hrx
    have HO := hide hox
    have HB := hide hbel
    have HXl := hide hrx.len
    clear hrx hox hbel HR1 HO1 HB1 HW1
    by_cases hlt : j < n
    · have hltI : (j : Int) < (n : Int) := by omega
      have q1 : IntKind.i64.wrap ((j : Int) + 1) = (j : Int) + 1 := by rw [IntKind.wrap_i64]; omega
      have q2 : IntKind.i64.wrap (4 * ((j : Int) + 1)) = 4 * ((j : Int) + 1) := by rw [IntKind.wrap_i64]; omega
      have q3 : IntKind.i64.wrap ((n : Int) - 1) = (n : Int) - 1 := by rw [IntKind.wrap_i64]; omega
      have q4 : IntKind.i64.wrap (4 * (k : Int)) = 4 * (k : Int) := by rw [IntKind.wrap_i64]; omega
      have q5 : IntKind.i64.wrap (4 * (j : Int)) = 4 * (j : Int) := by rw [IntKind.wrap_i64]; omega
      have q6 : IntKind.i64.wrap (10 + 4 * (j : Int)) = 10 + 4 * (j : Int) := by rw [IntKind.wrap_i64]; omega
      by_cases hl : j + 1 = n
      · have hq : ((j : Int) == (n : Int) - 1) = true := by simp; omega
        cases ends
        · have HNx : Hid (nxL n k false j = (5, (4 * (k : Int)), 4)) := hide (by unfold nxL; rw [if_pos hl]; rfl)
          obtain ⟨wa, hwa⟩ : ∃ wa, wa = ((wr.alloc (.cells #[.int .i64 5, .int .i64 (4 * (k : Int)), .int .i64 4] 32)).alloc (.cells #[.int .i64 11, .int .i64 1, .int .i64 2, .int .i64 5, .int .i64 (4 * (k : Int)), .int .i64 4] 32)).alloc (.cells #[.int .i64 (10 + 4 * (j : Int)), .slice (some ⟨wr.heap.size + 1, 0, none⟩) 2 2, .slice none 0 0] 61) := ⟨_, rfl⟩
          have hba : Below wr.heap.size wr wa := by rw [hwa]; exact (((Below.refl _ _).alloc (Nat.le_refl _) _).alloc (by simp) _).alloc (by simp; omega) _
          have hbA : Blk wa (wr.heap.size + 1) #[.int .i64 11, .int .i64 1, .int .i64 2, .int .i64 5, .int .i64 (4 * (k : Int)), .int .i64 4] 32 := by
            rw [hwa]
            have := (Blk.new (wr.alloc (.cells #[.int .i64 5, .int .i64 (4 * (k : Int)), .int .i64 4] 32)) #[.int .i64 11, .int .i64 1, .int .i64 2, .int .i64 5, .int .i64 (4 * (k : Int)), .int .i64 4] 32).below ((Below.refl _ _).alloc (Nat.le_refl _) (.cells #[.int .i64 (10 + 4 * (j : Int)), .slice (some ⟨wr.heap.size + 1, 0, none⟩) 2 2, .slice none 0 0] 61))
            simpa using this
          have HNw : Hid (∀ q u, [Value.int .i64 (10 + 4 * (j : Int)), .slice (some ⟨wr.heap.size + 1, 0, none⟩) 2 2, .slice none 0 0][q]? = some u → wa.cell? ((⟨wr.heap.size + 2, 0, none⟩ : Addr).add q) = some u) := hide (by
            have := new3L ((wr.alloc (.cells #[.int .i64 5, .int .i64 (4 * (k : Int)), .int .i64 4] 32)).alloc (.cells #[.int .i64 11, .int .i64 1, .int .i64 2, .int .i64 5, .int .i64 (4 * (k : Int)), .int .i64 4] 32)) 61 (.int .i64 (10 + 4 * (j : Int))) (.slice (some ⟨wr.heap.size + 1, 0, none⟩) 2 2) (.slice none 0 0)
            rw [hwa]
            simpa using this)
          have hlA : LiesM wa (some ⟨wr.heap.size + 1, 0, none⟩) [(11, 1, 2), nxL n k false j] := by
            rw [HNx.out]
            refine Or.inr ⟨wr.heap.size + 1, 0, rfl, hbA.lt, fun q hq => ?_⟩
            have hq2 : q = 0 ∨ q = 1 := by simp at hq; omega
            rcases hq2 with rfl | rfl
            · exact ⟨hbA.cell 0 _ rfl, hbA.cell 1 _ rfl, hbA.cell 2 _ rfl⟩
            · exact ⟨hbA.cell 3 _ rfl, hbA.cell 4 _ rfl, hbA.cell 5 _ rfl⟩
          have HLA := hide hlA
          have HOa := hide (OwnL.below HO.out hba)
          have HBa := hide (HB.out.trans (hba.mono HB.out.size))
          have Hba := hide hba
          have HWa := hide hwa
          clear hba hbA hwa hlA
          go_wp2_with (at_builtin; rw [← HWa.out]; refine wpList_append_own_at _ rfl (.tmp 57) (.tmp 65) 43 rfl w.heap.size 61 i1 (.agg #[.int .i64 0, .slice none 0 0, .slice none 0 0]) 3 56 Try.underlying43 hi hz0 hz1 hz2 rfl (by decide) u9 X.length (X.flatMap encL) rfl HOa.out ⟨wr.heap.size + 2, 0, none⟩ 1 1 [.int .i64 (10 + 4 * (j : Int)), .slice (some ⟨wr.heap.size + 1, 0, none⟩) 2 2, .slice none 0 0] rfl rfl HNw.out (by simp [Value.oneCell']) (by rw [HXl.out]; unfold maxLen; omega) (by rw [HXl.out]; omega) HBa.out.size ?_; intro v5 w5 ho5 hg5 _ hw5; have HO5 := hide ho5; have HG5 := hide hg5; have HW5 := hide hw5; clear ho5 hg5 hw5)
          have hst := RowX.grow HRx.out Hba.out HO.out (some ⟨wr.heap.size + 1, 0, none⟩) HLA.out HO5.out HG5.out HW5.out (fun ad e => by cases e; exact ⟨by simp, by have := HLA.out.lt' rfl; exact this⟩)
          exact ⟨⟨j + 1, _, by omega, by go_num, hst.1, hst.2, HBa.out.grown HG5.out HBa.out.size (fun q hq => (World.ownsRow.lt HOa.out q hq).1)⟩, by simp [intOf]; omega⟩
        · have HNx : Hid (nxL n k true j = (0, 0, 0)) := hide (by unfold nxL; rw [if_pos hl]; rfl)
          obtain ⟨wa, hwa⟩ : ∃ wa, wa = ((wr.alloc (.cells #[.int .i64 0, .int .i64 0, .int .i64 0] 32)).alloc (.cells #[.int .i64 11, .int .i64 1, .int .i64 2, .int .i64 0, .int .i64 0, .int .i64 0] 32)).alloc (.cells #[.int .i64 (10 + 4 * (j : Int)), .slice (some ⟨wr.heap.size + 1, 0, none⟩) 2 2, .slice none 0 0] 61) := ⟨_, rfl⟩
          have hba : Below wr.heap.size wr wa := by rw [hwa]; exact (((Below.refl _ _).alloc (Nat.le_refl _) _).alloc (by simp) _).alloc (by simp; omega) _
          have hbA : Blk wa (wr.heap.size + 1) #[.int .i64 11, .int .i64 1, .int .i64 2, .int .i64 0, .int .i64 0, .int .i64 0] 32 := by
            rw [hwa]
            have := (Blk.new (wr.alloc (.cells #[.int .i64 0, .int .i64 0, .int .i64 0] 32)) #[.int .i64 11, .int .i64 1, .int .i64 2, .int .i64 0, .int .i64 0, .int .i64 0] 32).below ((Below.refl _ _).alloc (Nat.le_refl _) (.cells #[.int .i64 (10 + 4 * (j : Int)), .slice (some ⟨wr.heap.size + 1, 0, none⟩) 2 2, .slice none 0 0] 61))
            simpa using this
          have HNw : Hid (∀ q u, [Value.int .i64 (10 + 4 * (j : Int)), .slice (some ⟨wr.heap.size + 1, 0, none⟩) 2 2, .slice none 0 0][q]? = some u → wa.cell? ((⟨wr.heap.size + 2, 0, none⟩ : Addr).add q) = some u) := hide (by
            have := new3L ((wr.alloc (.cells #[.int .i64 0, .int .i64 0, .int .i64 0] 32)).alloc (.cells #[.int .i64 11, .int .i64 1, .int .i64 2, .int .i64 0, .int .i64 0, .int .i64 0] 32)) 61 (.int .i64 (10 + 4 * (j : Int))) (.slice (some ⟨wr.heap.size + 1, 0, none⟩) 2 2) (.slice none 0 0)
            rw [hwa]
            simpa using this)
          have hlA : LiesM wa (some ⟨wr.heap.size + 1, 0, none⟩) [(11, 1, 2), nxL n k true j] := by
            rw [HNx.out]
            refine Or.inr ⟨wr.heap.size + 1, 0, rfl, hbA.lt, fun q hq => ?_⟩
            have hq2 : q = 0 ∨ q = 1 := by simp at hq; omega
            rcases hq2 with rfl | rfl
            · exact ⟨hbA.cell 0 _ rfl, hbA.cell 1 _ rfl, hbA.cell 2 _ rfl⟩
            · exact ⟨hbA.cell 3 _ rfl, hbA.cell 4 _ rfl, hbA.cell 5 _ rfl⟩
          have HLA := hide hlA
          have HOa := hide (OwnL.below HO.out hba)
          have HBa := hide (HB.out.trans (hba.mono HB.out.size))
          have Hba := hide hba
          have HWa := hide hwa
          clear hba hbA hwa hlA
          go_wp2_with (at_builtin; rw [← HWa.out]; refine wpList_append_own_at _ rfl (.tmp 57) (.tmp 65) 43 rfl w.heap.size 61 i1 (.agg #[.int .i64 0, .slice none 0 0, .slice none 0 0]) 3 56 Try.underlying43 hi hz0 hz1 hz2 rfl (by decide) u9 X.length (X.flatMap encL) rfl HOa.out ⟨wr.heap.size + 2, 0, none⟩ 1 1 [.int .i64 (10 + 4 * (j : Int)), .slice (some ⟨wr.heap.size + 1, 0, none⟩) 2 2, .slice none 0 0] rfl rfl HNw.out (by simp [Value.oneCell']) (by rw [HXl.out]; unfold maxLen; omega) (by rw [HXl.out]; omega) HBa.out.size ?_; intro v5 w5 ho5 hg5 _ hw5; have HO5 := hide ho5; have HG5 := hide hg5; have HW5 := hide hw5; clear ho5 hg5 hw5)
          have hst := RowX.grow HRx.out Hba.out HO.out (some ⟨wr.heap.size + 1, 0, none⟩) HLA.out HO5.out HG5.out HW5.out (fun ad e => by cases e; exact ⟨by simp, by have := HLA.out.lt' rfl; exact this⟩)
          exact ⟨⟨j + 1, _, by omega, by go_num, hst.1, hst.2, HBa.out.grown HG5.out HBa.out.size (fun q hq => (World.ownsRow.lt HOa.out q hq).1)⟩, by simp [intOf]; omega⟩
      · have hq : ((j : Int) == (n : Int) - 1) = false := by simp; omega
        have HNx : Hid (nxL n k ends j = (5, (4 * ((j : Int) + 1)), 4)) := hide (by unfold nxL; rw [if_neg hl])
        obtain ⟨wa, hwa⟩ : ∃ wa, wa = ((wr.alloc (.cells #[.int .i64 5, .int .i64 (4 * ((j : Int) + 1)), .int .i64 4] 32)).alloc (.cells #[.int .i64 11, .int .i64 1, .int .i64 2, .int .i64 5, .int .i64 (4 * ((j : Int) + 1)), .int .i64 4] 32)).alloc (.cells #[.int .i64 (10 + 4 * (j : Int)), .slice (some ⟨wr.heap.size + 1, 0, none⟩) 2 2, .slice none 0 0] 61) := ⟨_, rfl⟩
        have hba : Below wr.heap.size wr wa := by rw [hwa]; exact (((Below.refl _ _).alloc (Nat.le_refl _) _).alloc (by simp) _).alloc (by simp; omega) _
        have hbA : Blk wa (wr.heap.size + 1) #[.int .i64 11, .int .i64 1, .int .i64 2, .int .i64 5, .int .i64 (4 * ((j : Int) + 1)), .int .i64 4] 32 := by
          rw [hwa]
          have := (Blk.new (wr.alloc (.cells #[.int .i64 5, .int .i64 (4 * ((j : Int) + 1)), .int .i64 4] 32)) #[.int .i64 11, .int .i64 1, .int .i64 2, .int .i64 5, .int .i64 (4 * ((j : Int) + 1)), .int .i64 4] 32).below ((Below.refl _ _).alloc (Nat.le_refl _) (.cells #[.int .i64 (10 + 4 * (j : Int)), .slice (some ⟨wr.heap.size + 1, 0, none⟩) 2 2, .slice none 0 0] 61))
          simpa using this
        have HNw : Hid (∀ q u, [Value.int .i64 (10 + 4 * (j : Int)), .slice (some ⟨wr.heap.size + 1, 0, none⟩) 2 2, .slice none 0 0][q]? = some u → wa.cell? ((⟨wr.heap.size + 2, 0, none⟩ : Addr).add q) = some u) := hide (by
          have := new3L ((wr.alloc (.cells #[.int .i64 5, .int .i64 (4 * ((j : Int) + 1)), .int .i64 4] 32)).alloc (.cells #[.int .i64 11, .int .i64 1, .int .i64 2, .int .i64 5, .int .i64 (4 * ((j : Int) + 1)), .int .i64 4] 32)) 61 (.int .i64 (10 + 4 * (j : Int))) (.slice (some ⟨wr.heap.size + 1, 0, none⟩) 2 2) (.slice none 0 0)
          rw [hwa]
          simpa using this)
        have hlA : LiesM wa (some ⟨wr.heap.size + 1, 0, none⟩) [(11, 1, 2), nxL n k ends j] := by
          rw [HNx.out]
          refine Or.inr ⟨wr.heap.size + 1, 0, rfl, hbA.lt, fun q hq => ?_⟩
          have hq2 : q = 0 ∨ q = 1 := by simp at hq; omega
          rcases hq2 with rfl | rfl
          · exact ⟨hbA.cell 0 _ rfl, hbA.cell 1 _ rfl, hbA.cell 2 _ rfl⟩
          · exact ⟨hbA.cell 3 _ rfl, hbA.cell 4 _ rfl, hbA.cell 5 _ rfl⟩
        have HLA := hide hlA
        have HOa := hide (OwnL.below HO.out hba)
        have HBa := hide (HB.out.trans (hba.mono HB.out.size))
        have Hba := hide hba
        have HWa := hide hwa
        clear hba hbA hwa hlA
        go_wp2_with (at_builtin; rw [← HWa.out]; refine wpList_append_own_at _ rfl (.tmp 57) (.tmp 65) 43 rfl w.heap.size 61 i1 (.agg #[.int .i64 0, .slice none 0 0, .slice none 0 0]) 3 56 Try.underlying43 hi hz0 hz1 hz2 rfl (by decide) u9 X.length (X.flatMap encL) rfl HOa.out ⟨wr.heap.size + 2, 0, none⟩ 1 1 [.int .i64 (10 + 4 * (j : Int)), .slice (some ⟨wr.heap.size + 1, 0, none⟩) 2 2, .slice none 0 0] rfl rfl HNw.out (by simp [Value.oneCell']) (by rw [HXl.out]; unfold maxLen; omega) (by rw [HXl.out]; omega) HBa.out.size ?_; intro v5 w5 ho5 hg5 _ hw5; have HO5 := hide ho5; have HG5 := hide hg5; have HW5 := hide hw5; clear ho5 hg5 hw5)
        have hst := RowX.grow HRx.out Hba.out HO.out (some ⟨wr.heap.size + 1, 0, none⟩) HLA.out HO5.out HG5.out HW5.out (fun ad e => by cases e; exact ⟨by simp, by have := HLA.out.lt' rfl; exact this⟩)
        exact ⟨⟨j + 1, _, by omega, by go_num, hst.1, hst.2, HBa.out.grown HG5.out HBa.out.size (fun q hq => (World.ownsRow.lt HOa.out q hq).1)⟩, by simp [intOf]; omega⟩
    · obtain rfl : j = n := by omega
      have ho := HO.out
      unfold OwnL at ho
      rw [HXl.out] at ho
      obtain ⟨g, c, hv⟩ := row_succM ho
      subst hv
      have hlx := HRx.out.liesL HO.out
      have HLp := hide (loop_pars' ⟨HRx.out.len, HRx.out.zero, HRx.out.row⟩ hnb.2 hkb)
      have HBx : Hid (∀ x ∈ X, x.L.length ≤ maxLen ∧ x.mb.length ≤ maxLen ∧ x.mb = []) := hide (fun x hx => by
        obtain ⟨q, hq, he⟩ := List.getElem_of_mem hx
        have hg : X.getD q LD.z = x := by simp [hq, he]
        have hq2 := hq
        rw [HXl.out] at hq2
        unfold maxLen
        cases q with
        | zero =>
          have := HRx.out.zero
          rw [hg] at this
          rw [this.2.1, this.2.2]
          simp
        | succ q =>
          have := HRx.out.row q (by omega)
          rw [hg] at this
          rw [this.2.1, this.2.2]
          simp)
      have HD := hide (disk_any wr 170 (some ⟨g, 0, none⟩) c X hlx (by rw [HXl.out]; omega) (fun x hx => ⟨(HBx.out x hx).1, (HBx.out x hx).2.1⟩) 170 (by decide) (by omega))
      have h512 : 512 * 170 = 87040 := rfl
      rw [HXl.out, h512] at HD
      have HEb : Hid (Byts (diskD 170 X (j + 1))) := hide (Byts.diskD _ _ (fun x hx => by rw [(HBx.out x hx).2.2]; intro q; simp) _)
      have HEl : Hid ((diskD 170 X (j + 1)).length = 87040) := hide loop_len
      have HPs := fun u (a : Option Addr) (c : Nat) (d : List Int) h1 h2 h3 h4 h5 => hide (parse_any sort_says u a c d h1 h2 h3 h4 h5)
      generalize diskD 170 X (j + 1) = d at *
      have hjj : ¬ (j : Int) < (j : Int) := by omega
      clear ho hlx h512 HBx
      go_wp2_with fail
      refine HD.out.mono ?_
      rintro e9 w2 ⟨a2, c2, rfl, ho2, hb2⟩
      have HB2 := hide (HB.out.trans (hb2.mono HB.out.size))
      have hcap : d.length ≤ c2 := by
        obtain ⟨a', c', e, _, _, h, _⟩ := ho2.form
        simp only [Value.slice.injEq] at e
        rw [e.2.2]
        exact h
      have hli : Lies w2 a2 d := by
        obtain ⟨a', c', e, h, _⟩ := ho2.form
        simp only [Value.slice.injEq] at e
        rw [e.1]
        exact h
      have hal : ∀ x, a2 = some x → x.block < w2.heap.size := fun x hx => (World.ownsRow.lt ho2 x.block (by rw [hx]; rfl)).2
      have HP := HPs w2 a2 c2 d hli hal HEb.out (by rw [HEl.out]; omega) hcap
      rw [HEl.out] at HP
      clear ho2 hb2 hcap hli hal HPs HD
      go_wp2_with fail
      refine HP.out.mono ?_
      rintro e9 w3 ⟨he3, hb3⟩
      have HB3 := hide (HB2.out.trans (hb3.mono HB2.out.size))
      cases ends
      · rcases he3 with ⟨st, aP, cP, aH, cH, h5, _⟩ | ⟨c3, h5, _, rfl⟩
        · rw [HLp.out] at h5
          cases h5
        · rw [HLp.out] at h5
          cases h5
          have hba := (Below.refl w3.heap.size w3).alloc (Nat.le_refl _) (.cells #[.slice none 0 0, .slice none 0 0, .int .i64 0, .int .i64 0, .bool false] 51)
          have HB4 := hide (HB3.out.trans (hba.mono HB3.out.size))
          clear hb3 hba
          go_wp2_with fail
          go_ret
          exact ⟨rfl, HB4.out⟩
      · rcases he3 with ⟨st, aP, cP, aH, cH, h5, rfl, _⟩ | ⟨c3, h5, _⟩
        · rw [HLp.out] at h5
          cases h5
          have hp : (stJ j).P.length = j := by simp [stJ]
          have hh : (stJ j).H.length = j + 1 := by simp [stJ]
          rw [hp, hh]
          have hj1 : IntKind.i64.wrap ((j : Int) + 1) = (j : Int) + 1 := by rw [IntKind.wrap_i64]; omega
          have hba := (Below.refl w3.heap.size w3).alloc (Nat.le_refl _) (.cells #[.slice aP j cP, .slice aH (j + 1) cH, .int .i64 (stJ j).i1, .int .i64 (stJ j).i2, .bool (stJ j).g] 51)
          have HB4 := hide (HB3.out.trans (hba.mono HB3.out.size))
          have hcj : (((j + 1 : Nat)) : Int) = (j : Int) + 1 := by omega
          generalize (stJ j).i1 = s1 at *
          generalize (stJ j).i2 = s2 at *
          generalize (stJ j).g = s3 at *
          clear hb3 hba hp hh
          go_wp2_with fail
          go_ret
          exact ⟨rfl, HB4.out⟩
        · rw [HLp.out] at h5
          cases h5
set_option maxRecDepth 100000 in
theorem mbrLoops_lifted (os : Os) (started : os.Started) (H : Type) (enc : TypeId × Value → H) :
    ReturnsInHanded {} Try.checked os 6 .any (Rows.mbrLoopsSpec.pre6 enc Try.prog Try.f6 Rows.mbrLoopsRow.domain false) (Rows.mbrLoopsSpec.post enc Try.prog Try.f6 false true false false) := by
  refine returnsInHanded_of_change (C := Try.checked) own started (by kernel_rfl) Try.func6
    (ChangeSpec.witness6 (enc := enc) (C := Try.checked) false ⟨#[], #[.int .i64 0, .int .i64 0, .bool false], []⟩ 8 (by kernel_rfl) (by kernel_rfl) (by kernel_rfl) (by kernel_rfl)) ?_
  intro W base args ds gs before hval0 hW _ _
  have hval : ∀ (j : Nat) t v, Try.f6.params[j]? = some t → args[j]? = some v → Value.okWide Try.prog W .any base t v := hval0
  have hW' := hW
  obtain ⟨p, q, hA0, hV, rfl, hfz, hnd⟩ := hW
  have hA : DataW.TrodAll enc Try.prog W 0 (fun _ => true) true Try.f6.params.toList args.toList ds p := hA0
  rw [Try.params6] at hA hval
  obtain ⟨v0, vs0, d0, ds0, p0, q0, hargs0, rfl, rfl, h0, r0⟩ := trodAll_cons hA
  obtain ⟨v1, vs1, d1, ds1, p1, q1, hargs1, rfl, rfl, h1, r1⟩ := trodAll_cons r0
  obtain ⟨v2, vs2, d2, ds2, p2, q2, hargs2, rfl, rfl, h2, r2⟩ := trodAll_cons r1
  obtain ⟨rfl, rfl, rfl⟩ := trodAll_nil r2
  subst hargs2
  subst hargs1
  obtain rfl : args = #[v0, v1, v2] := by cases args; simp_all
  obtain ⟨rfl, rfl⟩ := trodVars_none hV
  simp only [List.append_nil] at hW'
  obtain ⟨x0, rfl, rfl, rfl, w0⟩ := open_int Try.underlying3 (hval 0 3 v0 rfl rfl) h0
  obtain ⟨x1, rfl, rfl, rfl, w1⟩ := open_int Try.underlying3 (hval 1 3 v1 rfl rfl) h1
  obtain ⟨x2, rfl, rfl, rfl⟩ := open_bool Try.underlying4 (hval 2 4 v2 rfl rfl) h2
  clear hA0
  refine (mloops_walk x0 x1 x2 W).mono fun e W' ⟨he, hb⟩ => ?_
  subst he
  refine ⟨_, rfl, _, _, _, [], ([] ++ ([] ++ ([] ++ []))), [], hW', ?_, ?_, rfl, hb.frame _, fun h => by cases h⟩
  · exact trodAll_cons_mk (shut_bool Try.underlying4 _) trodAll_mk0
  · exact trodAll_cons_mk (shut_int Try.underlying3 w0) (trodAll_cons_mk (shut_int Try.underlying3 w1) (trodAll_cons_mk (shut_bool Try.underlying4 _) (trodAll_mk0)))

theorem mbrLoops_holds : Rows.MbrLoopsSaid :=
  OpenClaim.holds_of_wide 6 Try.f6 rfl rfl rfl rfl rfl rfl rfl ⟨rfl, rfl, rfl, rfl, rfl⟩ rfl rfl rfl rfl rfl (by kernel_rfl) Try.func6 (by kernel_rfl)
    (of_decide_eq_true (by kernel_rfl)) (by unfold Func.isWrapper; first | (rw [if_pos (by decide +kernel)]; kernel_rfl) | (rw [if_neg (by decide +kernel)]; exact ⟨rfl, rfl⟩))
    (fun os started H enc _ => mbrLoops_lifted os started H enc)
end Go.Proofs.Ytgpggohkapdjpaa.Oct
