/- The path of a name is found: Find. -/
import Derived.Test.YtjpdfchdgphdoaaGreatDoorPQfa
import Derived.Test.YtjpdfchdgphdoaaGreatDoorPQpf
namespace Go.Proofs.YtjpdfchdgphdoaaGreatDoor.Oct
open Go.RowKit

/-- Is it the name? -/
def eqS (s name : ByteArray) : Bool := s.toList == name.toList

set_option maxHeartbeats 1000000 in
theorem findf_any (s name : ByteArray) (k z : Int) (a : Option Addr) (n c B : Nat) (w : World) (hB : w.cell? ⟨B, 0, none⟩ = some (.string name)) :
    Calls Tryz.prog 25 #[.agg #[.string s, .int .i64 k, .int .i64 z, .slice a n c], .pointer (some ⟨B, 0, none⟩)] w fun e w' => e = .returned (.bool (eqS s name)) ∧ Below w.heap.size w w' := by
  have hb := (Below.refl w.heap.size w).alloc (Nat.le_refl _) (.cells #[.string s, .int .i64 k, .int .i64 z, .slice a n c] 42)
  have HB := hide hb
  have c0 : (w.alloc (.cells #[.string s, .int .i64 k, .int .i64 z, .slice a n c] 42)).cell? ⟨w.heap.size, 0, none⟩ = some (.string s) := (Blk.new w #[.string s, .int .i64 k, .int .i64 z, .slice a n c] 42).cell 0 _ rfl
  have c1 : (w.alloc (.cells #[.string s, .int .i64 k, .int .i64 z, .slice a n c] 42)).cell? ⟨B, 0, none⟩ = some (.string name) := (hb.cell (p := ⟨B, 0, none⟩) (lt_of_cell hB)).trans hB
  clear hb
  go_enter Tryz.func25, Tryz.ntmps25
  go_wp2_with fail
  go_ret
  exact ⟨rfl, HB.out⟩

/-- None of the first so many has the name. -/
def noneS (name : ByteArray) (L : List PT) (n : Nat) : Prop := ∀ j, j < n → eqS (L.getD j PT.nil).s name = false

/-- What the first of the name is; or there is none. -/
def IdxS (name : ByteArray) (L : List PT) (i : Int) : Prop := (∃ k : Nat, k < L.length ∧ i = (k : Int) ∧ eqS (L.getD k PT.nil).s name = true ∧ noneS name L k) ∨ (i = -1 ∧ noneS name L L.length)

set_option maxHeartbeats 4000000 in
set_option maxRecDepth 100000 in
theorem indexT_any (w : World) (a : Option Addr) (cap B : Nat) (L : List PT) (name : ByteArray) (hL : LiesT w a L) (hn : L.length ≤ 1000000) (hB : w.cell? ⟨B, 0, none⟩ = some (.string name)) :
    Calls Tryz.prog 24 #[.slice a L.length cap, .func (.func 25) #[] #[.pointer (some ⟨B, 0, none⟩)]] w fun e w' => (∃ i : Int, e = .returned (.int .i64 i) ∧ IdxS name L i) ∧ Below w.heap.size w w' := by
  have HL := hide hL
  have HLk := fun s k z a n c u (hu : Below w.heap.size w u) => hide (findf_any s name k z a n c B u ((hu.cell (p := ⟨B, 0, none⟩) (lt_of_cell hB)).trans hB))
  clear hL hB
  go_enter Tryz.func24, Tryz.ntmps24
  go_wp2_with fail
  go_loopw [8] (fun i wr => ∃ (k : Nat), k ≤ L.length ∧ i = .int .i64 (k : Int) ∧ noneS name L k ∧ Below w.heap.size w wr) (fun i _ => L.length - (intOf i).toNat)
  case atStart => exact ⟨0, by omega, rfl, fun j hj => by omega, Below.refl _ _⟩
  case round =>
    obtain ⟨k, hk, rfl, hno, hbel⟩ := hrel
    have HB := hide hbel
    have HNo := hide hno
    clear hbel hno
    by_cases hlt : k < L.length
    · rcases HL.out with hE | ⟨b, off, rfl, hblt, hc⟩
      · rw [hE] at hlt; simp at hlt
      obtain ⟨⟨q0, q1, q2, q3⟩, _⟩ := hc k hlt
      have r0 := (HB.out.cell (p := ⟨b, off + k * 4, none⟩) hblt).trans q0
      have r1 := (HB.out.cell (p := ⟨b, off + k * 4 + 1, none⟩) hblt).trans q1
      have r2 := (HB.out.cell (p := ⟨b, off + k * 4 + 2, none⟩) hblt).trans q2
      have r3 := (HB.out.cell (p := ⟨b, off + k * 4 + 3, none⟩) hblt).trans q3
      have HHit : Hid (eqS (L.getD k PT.nil).s name = true → IdxS name L (k : Int)) := hide (fun h => Or.inl ⟨k, hlt, rfl, h, HNo.out⟩)
      have HNxt : Hid (eqS (L.getD k PT.nil).s name = false → noneS name L (k + 1)) := hide (fun h j hj => by
        by_cases hj2 : j < k
        · exact HNo.out j hj2
        · obtain rfl : j = k := by omega
          exact h)
      clear hc q0 q1 q2 q3
      generalize L.getD k PT.nil = r at *
      obtain ⟨s, rk, rz, ra, rc, rL⟩ := r
      dsimp only at r0 r1 r2 r3 HHit HNxt
      obtain ⟨bq, hbq⟩ : ∃ bq, bq = eqS s name := ⟨_, rfl⟩
      have HF := HLk s rk rz ra rL.length rc wr HB.out
      rw [← hbq] at HHit HNxt HF
      clear hbq HLk
      have hk0 : (0 : Int) ≤ (k : Int) := by omega
      have hk1 : (k : Int) < (L.length : Int) := by omega
      go_wp2_with fail
      refine HF.out.mono ?_
      rintro e9 w9 ⟨rfl, hb9⟩
      have HB9 := hide (HB.out.trans (hb9.mono HB.out.size))
      clear hb9
      cases bq
      · go_wp2_with fail
        go_roundw
        case rel => exact ⟨k + 1, by omega, by go_num, HNxt.out trivial, HB9.out⟩
        case measure => simp [intOf]; omega
      · go_wp2_with fail
        go_ret
        exact ⟨⟨_, rfl, HHit.out trivial⟩, HB9.out⟩
    · obtain rfl : k = L.length := by omega
      go_wp2_with fail
      go_ret
      exact ⟨⟨_, rfl, Or.inr ⟨rfl, HNo.out⟩⟩, HB.out⟩

/-- New memory that holds the parts. -/
def FreshE (B : Nat) (w : World) (v : Value) (L : List (Int × Int)) : Prop := ∃ a c, v = .slice a L.length c ∧ LiesE w a L ∧ ∀ x, a = some x → B ≤ x.block

set_option maxHeartbeats 1000000 in
set_option maxRecDepth 100000 in
theorem cloneE_any (w : World) (a : Option Addr) (cap : Nat) (L : List (Int × Int)) (hl : LiesE w a L) (hlen : L.length * 16 ≤ 140737488351232) :
    Calls Tryz.prog 26 #[.slice a L.length cap] w fun e w' => ∃ v, e = .returned v ∧ FreshE w.heap.size w' v L ∧ Below w.heap.size w w' := by
  cases a with
  | none =>
    have hl0 : L = [] := by
      rcases hl with h | ⟨b, off, h, _⟩
      · exact h
      · cases h
    subst hl0
    have hq := fun u : World => Lib.run_eql_slice_nil u 40 24 none 0 cap 0 0 Tryz.underlying40
    go_enter Tryz.func26, Tryz.ntmps26
    go_wp2_with fail
    go_ret
    exact ⟨_, rfl, ⟨none, 0, rfl, Or.inl rfl, fun x hx => by cases hx⟩, Below.refl _ _⟩
  | some x =>
    have hb0 : Below w.heap.size w (w.alloc (.cells #[] 24)) := (Below.refl _ _).alloc (Nat.le_refl _) _
    have HB0 := hide hb0
    have HE : Hid ((w.alloc (.cells #[] 24)).ownsRow w.heap.size 24 2 (.slice (some ⟨w.heap.size, 0, none⟩) 0 0) 0 []) := hide ⟨rfl, Or.inr ⟨w.heap.size, 0, #[], rfl, Nat.le_refl _, heap_alloc_new w _, Nat.le_refl _, by simp, rfl, rfl⟩⟩
    have HL := hide (liesE_cells (hl.below hb0))
    have HN := hide hlen
    obtain ⟨i1, hi1, hz0, hz1, hz2⟩ := info_parts info_E
    clear hl hlen hb0
    have hq := fun u : World => Lib.run_eql_slice_nil u 40 24 (some x) L.length cap 0 0 Tryz.underlying40
    go_enter Tryz.func26, Tryz.ntmps26
    go_wp2_with (at_builtin; refine wpList_append_own_at _ rfl _ _ 40 rfl w.heap.size 24 i1 (.agg #[.int .i64 0, .int .i64 0]) 2 16 Tryz.underlying40 hi1 hz0 hz1 hz2 rfl (by decide) _ 0 [] rfl HE.out x L.length cap (L.flatMap encE) rfl (flatE_len L) HL.out (by
      intro u hu
      obtain ⟨p, _, hp⟩ := List.mem_flatMap.1 hu
      simp [encE] at hp
      rcases hp with rfl | rfl <;> rfl) (by have := HN.out; unfold maxLen; omega) (by have := HN.out; omega) (by simp) ?_; intro v9 w9 ho9 hg9 _ hw9; have HO9 := hide ho9; have HB9 := hide (HB0.out.grown hg9 HB0.out.size (fun i hi => (World.ownsRow.lt HE.out i hi).1)); clear ho9 hg9 hw9)
    go_ret
    have ho : OwnE w9 w.heap.size v9 L := by unfold OwnE; simpa using HO9.out
    obtain ⟨a9, c9, rfl, hl9, _, _, hb9⟩ := ho.form
    exact ⟨_, rfl, ⟨a9, c9, rfl, hl9, fun x hx => (hb9 x hx).1⟩, HB9.out⟩

/-- What Find answers. -/
def FindS (name : ByteArray) (L : List PT) (e : Ending) (w' : World) : Prop :=
  (∃ (k : Nat) (v : Value), k < L.length ∧ e = .returned (.tuple #[.agg #[.string (L.getD k PT.nil).s, .int .i64 (L.getD k PT.nil).k, .int .i64 (L.getD k PT.nil).z, v], .bool true]) ∧ FreshE 0 w' v (L.getD k PT.nil).L ∧ eqS (L.getD k PT.nil).s name = true ∧ noneS name L k) ∨
  (e = .returned (.tuple #[.agg #[.string ⟨#[]⟩, .int .i64 0, .int .i64 0, .slice none 0 0], .bool false]) ∧ noneS name L L.length)

set_option maxHeartbeats 4000000 in
set_option maxRecDepth 100000 in
theorem find_any (w : World) (a : Option Addr) (cap : Nat) (L : List PT) (name : ByteArray) (hL : LiesT w a L) (hn : L.length ≤ 1000000) (hw : ∀ r ∈ L, (PT.L r).length * 16 ≤ 140737488351232) :
    Calls Tryz.prog 13 #[.slice a L.length cap, .string name] w fun e w' => FindS name L e w' ∧ Below w.heap.size w w' := by
  obtain ⟨w1, hw1⟩ : ∃ w1, w1 = (w.alloc (.cells #[.string name] 9)).alloc (.cells #[.string ⟨#[]⟩, .int .i64 0, .int .i64 0, .slice none 0 0] 42) := ⟨_, rfl⟩
  have hb1 : Below w.heap.size w w1 := by rw [hw1]; exact ((Below.refl _ _).alloc (Nat.le_refl _) _).alloc (by simp) _
  have hk1 : Blk w1 w.heap.size #[.string name] 9 := by rw [hw1]; exact (Blk.new _ _ _).below ((Below.refl _ _).alloc (Nat.le_refl _) _)
  have hr1 : Blk w1 (w.heap.size + 1) #[.string ⟨#[]⟩, .int .i64 0, .int .i64 0, .slice none 0 0] 42 := by
    rw [hw1]
    have := Blk.new (w.alloc (.cells #[.string name] 9)) #[.string ⟨#[]⟩, .int .i64 0, .int .i64 0, .slice none 0 0] 42
    rw [show (w.alloc (.cells #[.string name] 9)).heap.size = w.heap.size + 1 by simp] at this
    exact this
  have HI := hide (indexT_any w1 a cap w.heap.size L name (hL.below hb1) hn (hk1.cell 0 _ rfl))
  have HB1 := hide hb1
  have HW1 := hide hw1
  have HR1 := hide hr1
  have HL := hide hL
  have HWe := hide hw
  have HN := hide hn
  clear hw1 hb1 hk1 hr1 hL hn hw
  go_enter Tryz.func13, Tryz.ntmps13
  go_wp2_with fail
  rw [← HW1.out]
  refine HI.out.mono ?_
  rintro e9 w2 ⟨⟨i, rfl, hi⟩, hb2⟩
  have hr2 := HR1.out.below hb2
  have HB2 := hide (HB1.out.trans (hb2.mono HB1.out.size))
  have HR2 := hide hr2
  clear hb2 hr2 HR1 HB1 HW1 HI
  rcases hi with ⟨k, hk, rfl, hh, hno⟩ | ⟨rfl, hno⟩
  · have HH := hide hh
    have HNo := hide hno
    have HK := hide hk
    rcases HL.out.below HB2.out with hE | ⟨b, off, rfl, hblt, hc⟩
    · rw [hE] at hk; simp at hk
    obtain ⟨⟨q0, q1, q2, q3⟩, q4⟩ := hc k hk
    have hmem : L.getD k PT.nil ∈ L := by
      rw [List.getD_eq_getElem?_getD, List.getElem?_eq_getElem hk]
      exact List.getElem_mem _
    have hwe := HWe.out _ hmem
    have HP : Hid (∀ v w', FreshE 0 w' v (L.getD k PT.nil).L → FindS name L (.returned (.tuple #[.agg #[.string (L.getD k PT.nil).s, .int .i64 (L.getD k PT.nil).k, .int .i64 (L.getD k PT.nil).z, v], .bool true])) w') := hide (fun v w' hf => Or.inl ⟨k, v, hk, rfl, hf, hh, hno⟩)
    have hk0 : (0 : Int) ≤ (k : Int) := by omega
    have hk1 : (k : Int) < (L.length : Int) := by omega
    clear hc hno hh hmem HH HNo HWe
    generalize L.getD k PT.nil = r at *
    obtain ⟨s, rk, rz, ra, rc, rL⟩ := r
    dsimp only at q0 q1 q2 q3 q4 HP hwe
    obtain ⟨n, hnn⟩ : ∃ n, n = rL.length := ⟨_, rfl⟩
    rw [← hnn] at q3
    obtain ⟨w3, hw3⟩ : ∃ w3, w3 = w2.alloc (.cells #[.string s, .int .i64 rk, .int .i64 rz, .slice ra n rc] 42) := ⟨_, rfl⟩
    have hb3 : Below w2.heap.size w2 w3 := by rw [hw3]; exact (Below.refl _ _).alloc (Nat.le_refl _) _
    have hk3 : Blk w3 w2.heap.size #[.string s, .int .i64 rk, .int .i64 rz, .slice ra n rc] 42 := by rw [hw3]; exact Blk.new _ _ _
    have HC := hide (cloneE_any w3 ra rc rL (q4.below hb3) hwe)
    rw [← hnn] at HC
    have x3 : (w2.alloc (.cells #[.string s, .int .i64 rk, .int .i64 rz, .slice ra n rc] 42)).cell? ⟨w2.heap.size, 3, none⟩ = some (.slice ra n rc) := by rw [← hw3]; exact hk3.cell 3 _ rfl
    have HR3 := hide (HR2.out.below hb3)
    have HK3 := hide hk3
    have HB3 := hide (HB2.out.trans (hb3.mono HB2.out.size))
    have HW3 := hide hw3
    have HS2 := hide HR2.out.lt
    have HS3 := hide (show w2.heap.size < w3.heap.size by rw [hw3]; simp)
    clear hb3 hk3 hw3 hwe q4 hnn HB2 HR2 hk
    go_wp2_with fail
    rw [← HW3.out]
    refine HC.out.mono ?_
    rintro e9 w4 ⟨v4, rfl, hf4, hb4⟩
    have hk4 := HK3.out.below hb4
    have hr4 := HR3.out.below hb4
    obtain ⟨a4, c4, rfl, hl4, hfr⟩ := hf4
    have hs3 := HS3.out
    obtain ⟨N, hN⟩ : ∃ N, N = rL.length := ⟨_, rfl⟩
    rw [← hN]
    have y3 : w4.cell? ⟨w2.heap.size, 3, none⟩ = some (.slice ra n rc) := hk4.cell 3 _ rfl
    have f3 := hk4.frozen 3
    have hs2 := HS2.out
    have hrl := hr4.lt
    obtain ⟨w5, hw5⟩ : ∃ w5, w5 = w4.setCell ⟨w2.heap.size, 3, none⟩ (.slice a4 N c4) := ⟨_, rfl⟩
    have hc5 : Chg (fun i => i = w2.heap.size) w4 w5 := by rw [hw5]; exact (Chg.refl _ _).setC _ 3 _ (fun _ => rfl)
    have hk5 : Blk w5 w2.heap.size #[.string s, .int .i64 rk, .int .i64 rz, .slice a4 N c4] 42 := by
      rw [hw5]
      have := hk4.set 3 (.slice a4 N c4)
      simpa using this
    have hr5 : Blk w5 (w.heap.size + 1) #[.string ⟨#[]⟩, .int .i64 0, .int .i64 0, .slice none 0 0] 42 := hr4.chg hc5 (by omega)
    obtain ⟨w6, hw6⟩ : ∃ w6, w6 = w5.setRow (w.heap.size + 1) #[.string s, .int .i64 rk, .int .i64 rz, .slice a4 N c4] := ⟨_, rfl⟩
    have hc6 : Chg (fun i => i = w.heap.size + 1) w5 w6 := by rw [hw6]; exact ⟨rfl, rfl, rfl, by simp, fun k _ hk => setRow_other _ _ k _ hk⟩
    have HR6 : Hid (Blk w6 (w.heap.size + 1) #[.string s, .int .i64 rk, .int .i64 rz, .slice a4 N c4] 42) := hide (by rw [hw6]; exact setRow_heap _ _ _ _ _ _ hr5)
    have HB6 : Hid (Below w.heap.size w w6) := hide (((HB3.out.trans (hb4.mono HB3.out.size)).trans (Chg.below w.heap.size hc5 (by have := HB3.out.size; have := hb4.size; omega) (fun i hi e => by omega))).trans (Chg.below w.heap.size hc6 (by have := HB3.out.size; have := hb4.size; have := hc5.size; omega) (fun i hi e => by omega)))
    have HL6 : Hid (LiesE w6 a4 rL) := hide (by
      refine (hl4.chgE hc5 (fun x hx e => ?_)).chgE hc6 (fun x hx e => ?_)
      · have := hfr x hx
        omega
      · have := hfr x hx
        omega)
    have HI4 : Hid ((Tryz.prog.info? 42).map (·.size) = some 4) := hide (by kernel_rfl)
    have HK5 := hide hk5
    have HR5 := hide hr5
    have HW5 := hide hw5
    have HW6 := hide hw6
    have HK5' : Hid (Blk (w4.setCell ⟨w2.heap.size, 3, none⟩ (.slice a4 N c4)) w2.heap.size #[.string s, .int .i64 rk, .int .i64 rz, .slice a4 N c4] 42) := hide (by rw [← hw5]; exact hk5)
    have HR5' : Hid (Blk (w4.setCell ⟨w2.heap.size, 3, none⟩ (.slice a4 N c4)) (w.heap.size + 1) #[.string ⟨#[]⟩, .int .i64 0, .int .i64 0, .slice none 0 0] 42) := hide (by rw [← hw5]; exact hr5)
    have HN' := hide hN
    clear hc5 hk5 hr5 hw5 hw6 hc6 hl4 hk4 hr4 hb4 hs2 hrl hs3 hfr hN
    go_wp2_with (first | (refine wpList_at (.load 42 (.tmp 7)) rfl ?_; refine wpList_load_row rfl 42 (.tmp 7) rfl w2.heap.size rfl 42 #[.string s, .int .i64 rk, .int .i64 rz, .slice a4 N c4] (0, 0) _ HK5'.out Tryz.underlying42 rfl HI4.out ?_) | (refine wpList_at (.store 42 (.tmp 4) (.tmp 22)) rfl ?_; refine wpList_store_row rfl 42 (.tmp 4) (.tmp 22) rfl (w.heap.size + 1) #[.string s, .int .i64 rk, .int .i64 rz, .slice a4 N c4] rfl rfl 42 #[.string ⟨#[]⟩, .int .i64 0, .int .i64 0, .slice none 0 0] HR5'.out HI4.out rfl (by simp [Value.oneCell']) ?_))
    rw [← HW5.out, ← HW6.out]
    refine bodyPost_ret (ret_agg rfl _ _ (w.heap.size + 1) #[.string s, .int .i64 rk, .int .i64 rz, .slice a4 N c4] _ rfl rfl (run_loadVar_row _ (w.heap.size + 1) 42 42 _ (0, 0) _ HR6.out Tryz.underlying42 rfl HI4.out)) rfl ?_
    exact ⟨HP.out _ _ ⟨a4, c4, by rw [← HN'.out], HL6.out, fun x hx => Nat.zero_le _⟩, HB6.out⟩
  · have HNo := hide hno
    have HI4 : Hid ((Tryz.prog.info? 42).map (·.size) = some 4) := hide (by kernel_rfl)
    obtain ⟨w6, hw6⟩ : ∃ w6, w6 = w2.setRow (w.heap.size + 1) #[.string ⟨#[]⟩, .int .i64 0, .int .i64 0, .slice none 0 0] := ⟨_, rfl⟩
    have hc6 : Chg (fun i => i = w.heap.size + 1) w2 w6 := by rw [hw6]; exact ⟨rfl, rfl, rfl, by simp, fun k _ hk => setRow_other _ _ k _ hk⟩
    have HR6 : Hid (Blk w6 (w.heap.size + 1) #[.string ⟨#[]⟩, .int .i64 0, .int .i64 0, .slice none 0 0] 42) := hide (by rw [hw6]; exact setRow_heap _ _ _ _ _ _ HR2.out)
    have HB6 : Hid (Below w.heap.size w w6) := hide (HB2.out.trans (Chg.below w.heap.size hc6 HB2.out.size (fun i hi e => by omega)))
    have HW6 := hide hw6
    clear hno hc6 hw6
    go_wp2_with (refine wpList_at (.store 42 (.tmp 4) (.tmp 13)) rfl ?_; refine wpList_store_row rfl 42 (.tmp 4) (.tmp 13) rfl (w.heap.size + 1) #[.string ⟨#[]⟩, .int .i64 0, .int .i64 0, .slice none 0 0] rfl rfl 42 #[.string ⟨#[]⟩, .int .i64 0, .int .i64 0, .slice none 0 0] HR2.out HI4.out rfl (by simp [Value.oneCell']) ?_)
    rw [← HW6.out]
    refine bodyPost_ret (ret_agg rfl _ _ (w.heap.size + 1) #[.string ⟨#[]⟩, .int .i64 0, .int .i64 0, .slice none 0 0] _ rfl rfl (run_loadVar_row _ (w.heap.size + 1) 42 42 _ (0, 0) _ HR6.out Tryz.underlying42 rfl HI4.out)) rfl ?_
    exact ⟨Or.inr ⟨rfl, HNo.out⟩, HB6.out⟩
end Go.Proofs.YtjpdfchdgphdoaaGreatDoor.Oct
