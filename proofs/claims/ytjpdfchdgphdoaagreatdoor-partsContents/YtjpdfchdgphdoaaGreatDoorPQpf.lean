/- The map of the given disk: Parse. -/
import Derived.Test.YtjpdfchdgphdoaaGreatDoorPQpdQpe
import Derived.Test.YtjpdfchdgphdoaaGreatDoorPMbqMbtQbf
import Derived.Deep.RegionWith
namespace Go.Proofs.YtjpdfchdgphdoaaGreatDoor.Oct
open Go.RowKit

theorem wpList_built {P : Program} {ops : Array Oper} {rest : List Oper} {o : Oper} {a : Act} {w : World} {Q : Exit → Act → World → Prop} (hg : o.guard = none) (t : TypeId) (parts : Array (Nat × Operand)) (ho : o.op = .build t parts) (vs : List (Nat × Value)) (hv : (parts.map fun (i, x) => (i, a.eval x)).toList = vs) (cells : Array Value) (hb : P.built t vs = some cells)
    (h : wpList P ops Q rest (a.put o.dst (.agg cells)) w) : wpList P ops Q (o :: rest) a w := by
  refine wpList_build hg t parts ho (by rw [hv, hb]; rfl) ?_
  rw [hv, hb]
  exact h

/-- The map of the given disk, as it lies: its four first parts, the rows of the table. -/
def mapC (q1 q2 q3 p h : Value) : Array Value := #[.int .i64 1, q1, q2, q3, p, h, .int .i64 0, .int .i64 0, .bool false, .int .i64 0, .int .i64 0, .int .i64 0, .int .u8 0, .int .u8 0, .int .u8 0, .int .u8 0, .int .u8 0, .int .u8 0, .int .u8 0, .int .u8 0, .int .u8 0, .int .u8 0, .int .u8 0, .int .u8 0, .int .u8 0, .int .u8 0, .int .u8 0, .int .u8 0, .slice none 0 0, .int .i64 0, .int .i64 0]

theorem wpList_at {P : Program} {ops : Array Oper} {rest : List Oper} {o : Oper} {a : Act} {w : World} {Q : Exit → Act → World → Prop} (op : Op) (_ : o.op = op) (h : wpList P ops Q (o :: rest) a w) : wpList P ops Q (o :: rest) a w := h

theorem own_base {w : World} {B e s n : Nat} {v : Value} {xs : List Value} (h : w.ownsRow B e s v n xs) : ∀ g, v.ownBlock = some g → B ≤ g := by
  intro g hg
  rcases h.2 with ⟨rfl, _⟩ | ⟨g2, cap, cur, rfl, hb, _⟩
  · cases hg
  · simp [Value.ownBlock] at hg
    omega

theorem OwnP.base {T : Nat} {w : World} {B : Nat} {v : Value} {L : List M4} (h : OwnP T w B v L) : ∀ g, v.ownBlock = some g → B ≤ g := own_base h

theorem OwnP.mono2 {T : Nat} {w : World} {B B' : Nat} {v : Value} {L : List M4} (h : OwnP T w B v L) (hb : B' ≤ B) : OwnP T w B' v L := by
  refine ⟨h.1, ?_⟩
  rcases h.2 with h2 | ⟨g, cap, cur, h3, h4, h5⟩
  · exact Or.inl h2
  · exact Or.inr ⟨g, cap, cur, h3, Nat.le_trans hb h4, h5⟩

set_option maxRecDepth 100000 in
theorem mparse_one (hS : SortSays) (u : World) (a : Option Addr) (cap : Nat) (n : Nat) (d : List Int) (hn : d.length = n) (hl : Lies u a d) (hal : ∀ x, a = some x → x.block < u.heap.size) (hby : Byts d) (hd : n ≤ 1000000000) (hcap : n ≤ cap) (hp : parsM d = .ok stMap) :
    Calls Tryz.prog 27 #[.iface 33 (.slice a n cap)] u fun e w' => ∃ aP cP aH cH, e = .returned (.tuple #[.agg #[.slice aP 1 cP, .slice aH 1 cH, .int .i64 0, .int .i64 0, .bool false], .int .i64 0]) ∧ LiesP w' aP [(4096, 24576, 12, 0)] ∧ LiesE w' aH [(0, 512)] ∧ Below u.heap.size u w' := by
  subst hn
  refine (parse_any hS u a cap d hl hal hby hd hcap).mono ?_
  rintro e9 w9 ⟨h9 | h9, hb9⟩
  · obtain ⟨st, aP, cP, aH, cH, h1, rfl, h3, h4, _⟩ := h9
    rw [hp] at h1
    cases h1
    exact ⟨aP, cP, aH, cH, rfl, h3, h4, hb9⟩
  · obtain ⟨c, h1, _⟩ := h9
    rw [hp] at h1
    cases h1

set_option maxHeartbeats 4000000 in
set_option maxRecDepth 100000 in
theorem pparse_one (hS : SortSays) (w : World) (a : Option Addr) (cap : Nat) (d : List Int) (hd : d.length = 51200) (hby : Byts d) (hp : parsM d = .ok stMap) (hl : Lies w a d) (hal : ∀ x, a = some x → x.block < w.heap.size) (hcap : 51200 ≤ cap) :
    Calls Tryz.prog 14 #[(.iface 33 (.slice a 51200 cap))] w fun e w' => ∃ q1 q2 q3 p h, e = .returned (.tuple #[.agg (mapC q1 q2 q3 p h), .int .i64 0]) ∧ p.oneCell' = true ∧ h.oneCell' = true ∧ OwnP 74 w' w.heap.size q1 [(4096, 24576, 12, 0)] ∧ OwnE w' w.heap.size q2 [(0, 512)] ∧ OwnE w' w.heap.size q3 [(512, 4096), (24576, 51200)] ∧ Below w.heap.size w w' := by
  have HPa : ∀ u, Below w.heap.size w u → Hid (Calls Tryz.prog 27 #[(.iface 33 (.slice a 51200 cap))] u fun e w' => ∃ aP cP aH cH, e = .returned (.tuple #[.agg #[.slice aP 1 cP, .slice aH 1 cH, .int .i64 0, .int .i64 0, .bool false], .int .i64 0]) ∧ LiesP w' aP [(4096, 24576, 12, 0)] ∧ LiesE w' aH [(0, 512)] ∧ Below u.heap.size u w') := fun u hu => hide (mparse_one hS u a cap 51200 d hd (hl.below hu) (fun x hx => Nat.lt_of_lt_of_le (hal x hx) hu.size) hby (by omega) hcap hp)
  have HS := hide hS
  clear hl hal hcap hS hd hby hp
  go_enter Tryz.func14, Tryz.ntmps14
  go_wp2_with fail
  have hb1 : Below w.heap.size w (w.alloc (.cells #[.int .i64 0, .slice none 0 0, .slice none 0 0, .slice none 0 0, .slice none 0 0, .slice none 0 0, .int .i64 0, .int .i64 0, .bool false, .int .i64 0, .int .i64 0, .int .i64 0, .int .u8 0, .int .u8 0, .int .u8 0, .int .u8 0, .int .u8 0, .int .u8 0, .int .u8 0, .int .u8 0, .int .u8 0, .int .u8 0, .int .u8 0, .int .u8 0, .int .u8 0, .int .u8 0, .int .u8 0, .int .u8 0, .slice none 0 0, .int .i64 0, .int .i64 0] 63)) := (Below.refl _ _).alloc (Nat.le_refl _) _
  have hq1 : Blk (w.alloc (.cells #[.int .i64 0, .slice none 0 0, .slice none 0 0, .slice none 0 0, .slice none 0 0, .slice none 0 0, .int .i64 0, .int .i64 0, .bool false, .int .i64 0, .int .i64 0, .int .i64 0, .int .u8 0, .int .u8 0, .int .u8 0, .int .u8 0, .int .u8 0, .int .u8 0, .int .u8 0, .int .u8 0, .int .u8 0, .int .u8 0, .int .u8 0, .int .u8 0, .int .u8 0, .int .u8 0, .int .u8 0, .int .u8 0, .slice none 0 0, .int .i64 0, .int .i64 0] 63)) w.heap.size #[.int .i64 0, .slice none 0 0, .slice none 0 0, .slice none 0 0, .slice none 0 0, .slice none 0 0, .int .i64 0, .int .i64 0, .bool false, .int .i64 0, .int .i64 0, .int .i64 0, .int .u8 0, .int .u8 0, .int .u8 0, .int .u8 0, .int .u8 0, .int .u8 0, .int .u8 0, .int .u8 0, .int .u8 0, .int .u8 0, .int .u8 0, .int .u8 0, .int .u8 0, .int .u8 0, .int .u8 0, .int .u8 0, .slice none 0 0, .int .i64 0, .int .i64 0] 63 := Blk.new _ _ _
  have HB1 := hide hb1
  have HQ1 := hide hq1
  clear hb1 hq1
  refine (HPa _ HB1.out).out.mono ?_
  rintro e9 w2 ⟨aP, cP, aH, cH, rfl, hP, hH, hb2⟩
  have HB2 := hide (HB1.out.trans (hb2.mono HB1.out.size))
  have HQ2 := hide (HQ1.out.below hb2)
  have HP := hide hP
  have HH := hide hH
  clear hP hH hb2 HQ1 HB1 HPa
  have hT := Blk.new w2 #[.slice aP 1 cP, .slice aH 1 cH, .int .i64 0, .int .i64 0, .bool false] 57
  have t0 : (w2.alloc (.cells #[.slice aP 1 cP, .slice aH 1 cH, .int .i64 0, .int .i64 0, .bool false] 57)).cell? ⟨w2.heap.size, 0, none⟩ = some (.slice aP 1 cP) := hT.cell 0 _ rfl
  have t1 : (w2.alloc (.cells #[.slice aP 1 cP, .slice aH 1 cH, .int .i64 0, .int .i64 0, .bool false] 57)).cell? ⟨w2.heap.size, 1, none⟩ = some (.slice aH 1 cH) := hT.cell 1 _ rfl
  have t2 : (w2.alloc (.cells #[.slice aP 1 cP, .slice aH 1 cH, .int .i64 0, .int .i64 0, .bool false] 57)).cell? ⟨w2.heap.size, 2, none⟩ = some (.int .i64 0) := hT.cell 2 _ rfl
  have t3 : (w2.alloc (.cells #[.slice aP 1 cP, .slice aH 1 cH, .int .i64 0, .int .i64 0, .bool false] 57)).cell? ⟨w2.heap.size, 3, none⟩ = some (.int .i64 0) := hT.cell 3 _ rfl
  have t4 : (w2.alloc (.cells #[.slice aP 1 cP, .slice aH 1 cH, .int .i64 0, .int .i64 0, .bool false] 57)).cell? ⟨w2.heap.size, 4, none⟩ = some (.bool false) := hT.cell 4 _ rfl
  have hbT : Below w2.heap.size w2 (w2.alloc (.cells #[.slice aP 1 cP, .slice aH 1 cH, .int .i64 0, .int .i64 0, .bool false] 57)) := (Below.refl _ _).alloc (Nat.le_refl _) _
  have hz2 := Blk.new (w2.alloc (.cells #[.slice aP 1 cP, .slice aH 1 cH, .int .i64 0, .int .i64 0, .bool false] 57)) #[.int .i64 0, .slice none 0 0, .slice none 0 0, .slice none 0 0, .slice none 0 0, .slice none 0 0, .int .i64 0, .int .i64 0, .bool false, .int .i64 0, .int .i64 0, .int .i64 0, .int .u8 0, .int .u8 0, .int .u8 0, .int .u8 0, .int .u8 0, .int .u8 0, .int .u8 0, .int .u8 0, .int .u8 0, .int .u8 0, .int .u8 0, .int .u8 0, .int .u8 0, .int .u8 0, .int .u8 0, .int .u8 0, .slice none 0 0, .int .i64 0, .int .i64 0] 63
  have hn2 : (w2.alloc (.cells #[.slice aP 1 cP, .slice aH 1 cH, .int .i64 0, .int .i64 0, .bool false] 57)).heap.size = w2.heap.size + 1 := by simp
  rw [hn2] at hz2
  have HZ2 := hide hz2
  have HbT := hide hbT
  have HT := hide hT
  clear hT hbT hz2 hn2
  have hbu : Tryz.prog.built 63 [(0, .int .i64 1), (4, .agg #[.slice aP 1 cP, .slice aH 1 cH, .int .i64 0, .int .i64 0, .bool false])] = some #[.int .i64 1, .slice none 0 0, .slice none 0 0, .slice none 0 0, .slice aP 1 cP, .slice aH 1 cH, .int .i64 0, .int .i64 0, .bool false, .int .i64 0, .int .i64 0, .int .i64 0, .int .u8 0, .int .u8 0, .int .u8 0, .int .u8 0, .int .u8 0, .int .u8 0, .int .u8 0, .int .u8 0, .int .u8 0, .int .u8 0, .int .u8 0, .int .u8 0, .int .u8 0, .int .u8 0, .int .u8 0, .int .u8 0, .slice none 0 0, .int .i64 0, .int .i64 0] := by kernel_rfl
  have HBu := hide hbu
  have h1c : (#[.int .i64 1, .slice none 0 0, .slice none 0 0, .slice none 0 0, .slice aP 1 cP, .slice aH 1 cH, .int .i64 0, .int .i64 0, .bool false, .int .i64 0, .int .i64 0, .int .i64 0, .int .u8 0, .int .u8 0, .int .u8 0, .int .u8 0, .int .u8 0, .int .u8 0, .int .u8 0, .int .u8 0, .int .u8 0, .int .u8 0, .int .u8 0, .int .u8 0, .int .u8 0, .int .u8 0, .int .u8 0, .int .u8 0, .slice none 0 0, .int .i64 0, .int .i64 0] : Array Value).all (·.oneCell') = true := by simp [Value.oneCell']
  have H1c := hide h1c
  have H1i : Hid ((Tryz.prog.info? 63).map (·.size) = some (#[.int .i64 1, .slice none 0 0, .slice none 0 0, .slice none 0 0, .slice aP 1 cP, .slice aH 1 cH, .int .i64 0, .int .i64 0, .bool false, .int .i64 0, .int .i64 0, .int .i64 0, .int .u8 0, .int .u8 0, .int .u8 0, .int .u8 0, .int .u8 0, .int .u8 0, .int .u8 0, .int .u8 0, .int .u8 0, .int .u8 0, .int .u8 0, .int .u8 0, .int .u8 0, .int .u8 0, .int .u8 0, .int .u8 0, .slice none 0 0, .int .i64 0, .int .i64 0] : Array Value).size) := hide (by kernel_rfl)
  clear hbu h1c
  obtain ⟨W4, hW4⟩ : ∃ W4, W4 = ((w2.alloc (.cells #[.slice aP 1 cP, .slice aH 1 cH, .int .i64 0, .int .i64 0, .bool false] 57)).alloc (.cells #[.int .i64 0, .slice none 0 0, .slice none 0 0, .slice none 0 0, .slice none 0 0, .slice none 0 0, .int .i64 0, .int .i64 0, .bool false, .int .i64 0, .int .i64 0, .int .i64 0, .int .u8 0, .int .u8 0, .int .u8 0, .int .u8 0, .int .u8 0, .int .u8 0, .int .u8 0, .int .u8 0, .int .u8 0, .int .u8 0, .int .u8 0, .int .u8 0, .int .u8 0, .int .u8 0, .int .u8 0, .int .u8 0, .slice none 0 0, .int .i64 0, .int .i64 0] 63)).setRow (w2.heap.size + 1) #[.int .i64 1, .slice none 0 0, .slice none 0 0, .slice none 0 0, .slice aP 1 cP, .slice aH 1 cH, .int .i64 0, .int .i64 0, .bool false, .int .i64 0, .int .i64 0, .int .i64 0, .int .u8 0, .int .u8 0, .int .u8 0, .int .u8 0, .int .u8 0, .int .u8 0, .int .u8 0, .int .u8 0, .int .u8 0, .int .u8 0, .int .u8 0, .int .u8 0, .int .u8 0, .int .u8 0, .int .u8 0, .int .u8 0, .slice none 0 0, .int .i64 0, .int .i64 0] := ⟨_, rfl⟩
  have hc4 : Chg (fun i => i = w2.heap.size + 1) ((w2.alloc (.cells #[.slice aP 1 cP, .slice aH 1 cH, .int .i64 0, .int .i64 0, .bool false] 57)).alloc (.cells #[.int .i64 0, .slice none 0 0, .slice none 0 0, .slice none 0 0, .slice none 0 0, .slice none 0 0, .int .i64 0, .int .i64 0, .bool false, .int .i64 0, .int .i64 0, .int .i64 0, .int .u8 0, .int .u8 0, .int .u8 0, .int .u8 0, .int .u8 0, .int .u8 0, .int .u8 0, .int .u8 0, .int .u8 0, .int .u8 0, .int .u8 0, .int .u8 0, .int .u8 0, .int .u8 0, .int .u8 0, .int .u8 0, .slice none 0 0, .int .i64 0, .int .i64 0] 63)) W4 := by
    rw [hW4]
    exact ⟨rfl, rfl, rfl, by simp, fun k _ hk => setRow_other _ _ k _ hk⟩
  have hM4 : Blk W4 (w2.heap.size + 1) #[.int .i64 1, .slice none 0 0, .slice none 0 0, .slice none 0 0, .slice aP 1 cP, .slice aH 1 cH, .int .i64 0, .int .i64 0, .bool false, .int .i64 0, .int .i64 0, .int .i64 0, .int .u8 0, .int .u8 0, .int .u8 0, .int .u8 0, .int .u8 0, .int .u8 0, .int .u8 0, .int .u8 0, .int .u8 0, .int .u8 0, .int .u8 0, .int .u8 0, .int .u8 0, .int .u8 0, .int .u8 0, .int .u8 0, .slice none 0 0, .int .i64 0, .int .i64 0] 63 := by rw [hW4]; exact setRow_heap _ _ #[.int .i64 0, .slice none 0 0, .slice none 0 0, .slice none 0 0, .slice none 0 0, .slice none 0 0, .int .i64 0, .int .i64 0, .bool false, .int .i64 0, .int .i64 0, .int .i64 0, .int .u8 0, .int .u8 0, .int .u8 0, .int .u8 0, .int .u8 0, .int .u8 0, .int .u8 0, .int .u8 0, .int .u8 0, .int .u8 0, .int .u8 0, .int .u8 0, .int .u8 0, .int .u8 0, .int .u8 0, .int .u8 0, .slice none 0 0, .int .i64 0, .int .i64 0] _ 63 (0, 0) HZ2.out
  have hT4 : Blk W4 w2.heap.size #[.slice aP 1 cP, .slice aH 1 cH, .int .i64 0, .int .i64 0, .bool false] 57 := (HT.out.below ((Below.refl _ _).alloc (Nat.le_refl _) _)).chg hc4 (by omega)
  have hB4 : Below w2.heap.size w2 W4 := ((HbT.out.alloc (by simp) _)).trans (Chg.below w2.heap.size hc4 (by simp; omega) (fun i hi => by omega))
  have u4 : (((w2.alloc (.cells #[.slice aP 1 cP, .slice aH 1 cH, .int .i64 0, .int .i64 0, .bool false] 57)).alloc (.cells #[.int .i64 0, .slice none 0 0, .slice none 0 0, .slice none 0 0, .slice none 0 0, .slice none 0 0, .int .i64 0, .int .i64 0, .bool false, .int .i64 0, .int .i64 0, .int .i64 0, .int .u8 0, .int .u8 0, .int .u8 0, .int .u8 0, .int .u8 0, .int .u8 0, .int .u8 0, .int .u8 0, .int .u8 0, .int .u8 0, .int .u8 0, .int .u8 0, .int .u8 0, .int .u8 0, .int .u8 0, .int .u8 0, .slice none 0 0, .int .i64 0, .int .i64 0] 63)).setRow (w2.heap.size + 1) #[.int .i64 1, .slice none 0 0, .slice none 0 0, .slice none 0 0, .slice aP 1 cP, .slice aH 1 cH, .int .i64 0, .int .i64 0, .bool false, .int .i64 0, .int .i64 0, .int .i64 0, .int .u8 0, .int .u8 0, .int .u8 0, .int .u8 0, .int .u8 0, .int .u8 0, .int .u8 0, .int .u8 0, .int .u8 0, .int .u8 0, .int .u8 0, .int .u8 0, .int .u8 0, .int .u8 0, .int .u8 0, .int .u8 0, .slice none 0 0, .int .i64 0, .int .i64 0]).cell? ⟨w2.heap.size, 4, none⟩ = some (.bool false) := by
    rw [← hW4]
    exact hT4.cell 4 _ rfl
  have hs4 : w2.heap.size + 2 = W4.heap.size := by rw [hW4]; simp
  have HW4 := hide hW4
  have HM4 := hide hM4
  have HT4 := hide hT4
  have HB4 := hide hB4
  have HS4 := hide hs4
  clear hW4 hM4 hT4 hB4 hc4 hs4
  go_wp2_with (first | (refine wpList_at (.build 63 #[(0, .const (.int .i64 1)), (4, .tmp 16)]) rfl ?_; refine wpList_built rfl 63 #[(0, .const (.int .i64 1)), (4, .tmp 16)] rfl _ rfl _ HBu.out ?_) | (refine wpList_at (.store 63 (.tmp 6) (.tmp 17)) rfl ?_; refine wpList_store_row rfl 63 (.tmp 6) (.tmp 17) rfl (w2.heap.size + 1) #[.int .i64 1, .slice none 0 0, .slice none 0 0, .slice none 0 0, .slice aP 1 cP, .slice aH 1 cH, .int .i64 0, .int .i64 0, .bool false, .int .i64 0, .int .i64 0, .int .i64 0, .int .u8 0, .int .u8 0, .int .u8 0, .int .u8 0, .int .u8 0, .int .u8 0, .int .u8 0, .int .u8 0, .int .u8 0, .int .u8 0, .int .u8 0, .int .u8 0, .int .u8 0, .int .u8 0, .int .u8 0, .int .u8 0, .slice none 0 0, .int .i64 0, .int .i64 0] rfl rfl 63 #[.int .i64 0, .slice none 0 0, .slice none 0 0, .slice none 0 0, .slice none 0 0, .slice none 0 0, .int .i64 0, .int .i64 0, .bool false, .int .i64 0, .int .i64 0, .int .i64 0, .int .u8 0, .int .u8 0, .int .u8 0, .int .u8 0, .int .u8 0, .int .u8 0, .int .u8 0, .int .u8 0, .int .u8 0, .int .u8 0, .int .u8 0, .int .u8 0, .int .u8 0, .int .u8 0, .int .u8 0, .int .u8 0, .slice none 0 0, .int .i64 0, .int .i64 0] HZ2.out H1i.out (by simp) H1c.out ?_))
  rw [← HW4.out]
  clear u4 t0 t1 t2 t3 t4 HW4 HZ2 HBu H1c H1i HbT HT
  have hP4 := HP.out.below HB4.out
  have hH4 := HH.out.below HB4.out
  rcases hP4 with hP4 | ⟨b, off, rfl, hbl, hPc⟩
  · cases hP4
  have hLP : LiesP (W4.alloc (.cells #[.slice aH 1 cH] 40)).drew (some ⟨b, off, none⟩) [(4096, 24576, 12, 0)] := (HP.out.below HB4.out).below ((Below.refl _ _).alloc (Nat.le_refl _) _).drew
  have hLS : LiesS (W4.alloc (.cells #[.slice aH 1 cH] 40)).drew (some ⟨W4.heap.size, 0, none⟩) [⟨aH, cH, [(0, 512)]⟩] := by
    refine Or.inr ⟨W4.heap.size, 0, rfl, by simp, fun k hk => ?_⟩
    obtain rfl : k = 0 := by simp at hk; omega
    exact ⟨(Blk.new W4 #[.slice aH 1 cH] 40).cell 0 _ rfl, hH4.below ((Below.refl _ _).alloc (Nat.le_refl _) _).drew⟩
  have hMB : MapB (W4.alloc (.cells #[.slice aH 1 cH] 40)).drew (w2.heap.size + 1) (.int .i64 1) (.slice none 0 0) (.slice none 0 0) (.slice none 0 0) [.slice (some ⟨b, off, none⟩) 1 cP, .slice aH 1 cH, .int .i64 0, .int .i64 0, .bool false, .int .i64 0, .int .i64 0, .int .i64 0, .int .u8 0, .int .u8 0, .int .u8 0, .int .u8 0, .int .u8 0, .int .u8 0, .int .u8 0, .int .u8 0, .int .u8 0, .int .u8 0, .int .u8 0, .int .u8 0, .int .u8 0, .int .u8 0, .int .u8 0, .int .u8 0, .slice none 0 0, .int .i64 0, .int .i64 0] := HM4.out.below ((Below.refl _ _).alloc (Nat.le_refl _) _).drew
  have hs4 := HS4.out
  have HLay := hide (lay_one HS.out (W4.alloc (.cells #[.slice aH 1 cH] 40)).drew (w2.heap.size + 1) _ _ _ _ _ hMB b off cP hLP W4.heap.size 0 1 aH cH hLS (by omega) (fun x hx e => by
    rcases HH.out with h9 | ⟨b9, o9, h9, h8, _⟩
    · cases h9
    · rw [h9] at hx
      cases hx
      simp at e
      omega))
  have hmS : ∀ (u : World) (a : Option Addr) (n c : Nat), (method 342 33 (.slice a n c) "Size").run Tryz.prog u = .ok (157, .slice a n c) u := fun u a n c => by kernel_rfl
  have c0 : W4.drew.cell? ⟨w2.heap.size, 0, none⟩ = some (.slice (some ⟨b, off, none⟩) 1 cP) := HT4.out.cell 0 _ rfl
  have c1 : W4.drew.cell? ⟨w2.heap.size, 1, none⟩ = some (.slice aH 1 cH) := HT4.out.cell 1 _ rfl
  have d1 : (W4.alloc (.cells #[.slice aH 1 cH] 40)).drew.cell? ⟨w2.heap.size, 1, none⟩ = some (.slice aH 1 cH) := (HT4.out.below ((Below.refl _ _).alloc (Nat.le_refl _) _).drew).cell 1 _ rfl
  have d0 : (W4.alloc (.cells #[.slice aH 1 cH] 40)).drew.cell? ⟨w2.heap.size, 0, none⟩ = some (.slice (some ⟨b, off, none⟩) 1 cP) := (HT4.out.below ((Below.refl _ _).alloc (Nat.le_refl _) _).drew).cell 0 _ rfl
  clear hH4 hbl hPc hLP hLS hMB hs4
  go_region_held3 (fun u => u.cell? ⟨w2.heap.size, 0, none⟩ = some (.slice (some ⟨b, off, none⟩) 1 cP) ∧ u.cell? ⟨w2.heap.size, 1, none⟩ = some (.slice aH 1 cH)) (first | go_keep | exact ⟨c0, c1⟩ | exact ⟨d0, d1⟩ | exact HS5.out) (first | (go_at_call 157; refine (msize_any _ _ _ _).mono ?_; rintro e9 w9 ⟨rfl, h9⟩; rw [h9]; clear h9) | (go_at_call 28; refine HLay.out.mono ?_; rintro e9 w5 ⟨rfl, q1, q2, q3, hM5, hq1, hq2, hq3, hc5⟩; have HS5 := hide (And.intro (hc5.cell d0 (by omega)) (hc5.cell d1 (by omega))); have HM5 := hide hM5; have HQa := hide hq1; have HQb := hide hq2; have HQc := hide hq3; have HC5 := hide hc5; clear hM5 hq1 hq2 hq3 hc5))
  all_goals
    have hq5 : Blk w5 w.heap.size #[.int .i64 0, .slice none 0 0, .slice none 0 0, .slice none 0 0, .slice none 0 0, .slice none 0 0, .int .i64 0, .int .i64 0, .bool false, .int .i64 0, .int .i64 0, .int .i64 0, .int .u8 0, .int .u8 0, .int .u8 0, .int .u8 0, .int .u8 0, .int .u8 0, .int .u8 0, .int .u8 0, .int .u8 0, .int .u8 0, .int .u8 0, .int .u8 0, .int .u8 0, .int .u8 0, .int .u8 0, .int .u8 0, .slice none 0 0, .int .i64 0, .int .i64 0] 63 := ((HQ2.out.below HB4.out).below ((Below.refl _ _).alloc (Nat.le_refl _) _).drew).chg HC5.out (by have := HQ2.out.lt; omega)
    have HQ5 := hide hq5
    have h1c : (.int .i64 1 :: q1 :: q2 :: q3 :: [.slice (some ⟨b, off, none⟩) 1 cP, .slice aH 1 cH, .int .i64 0, .int .i64 0, .bool false, .int .i64 0, .int .i64 0, .int .i64 0, .int .u8 0, .int .u8 0, .int .u8 0, .int .u8 0, .int .u8 0, .int .u8 0, .int .u8 0, .int .u8 0, .int .u8 0, .int .u8 0, .int .u8 0, .int .u8 0, .int .u8 0, .int .u8 0, .int .u8 0, .int .u8 0, .slice none 0 0, .int .i64 0, .int .i64 0] : List Value).toArray.all (·.oneCell') = true := by
      obtain ⟨_, _, rfl, _⟩ := HQa.out.form
      obtain ⟨_, _, rfl, _⟩ := HQb.out.form
      obtain ⟨_, _, rfl, _⟩ := HQc.out.form
      simp [Value.oneCell']
    have H1c := hide h1c
    have H1i : Hid ((Tryz.prog.info? 63).map (·.size) = some (.int .i64 1 :: q1 :: q2 :: q3 :: [.slice (some ⟨b, off, none⟩) 1 cP, .slice aH 1 cH, .int .i64 0, .int .i64 0, .bool false, .int .i64 0, .int .i64 0, .int .i64 0, .int .u8 0, .int .u8 0, .int .u8 0, .int .u8 0, .int .u8 0, .int .u8 0, .int .u8 0, .int .u8 0, .int .u8 0, .int .u8 0, .int .u8 0, .int .u8 0, .int .u8 0, .int .u8 0, .int .u8 0, .int .u8 0, .slice none 0 0, .int .i64 0, .int .i64 0] : List Value).toArray.size) := hide (by kernel_rfl)
    have hsz : (#[.int .i64 0, .slice none 0 0, .slice none 0 0, .slice none 0 0, .slice none 0 0, .slice none 0 0, .int .i64 0, .int .i64 0, .bool false, .int .i64 0, .int .i64 0, .int .i64 0, .int .u8 0, .int .u8 0, .int .u8 0, .int .u8 0, .int .u8 0, .int .u8 0, .int .u8 0, .int .u8 0, .int .u8 0, .int .u8 0, .int .u8 0, .int .u8 0, .int .u8 0, .int .u8 0, .int .u8 0, .int .u8 0, .slice none 0 0, .int .i64 0, .int .i64 0] : Array Value).size = (.int .i64 1 :: q1 :: q2 :: q3 :: [.slice (some ⟨b, off, none⟩) 1 cP, .slice aH 1 cH, .int .i64 0, .int .i64 0, .bool false, .int .i64 0, .int .i64 0, .int .i64 0, .int .u8 0, .int .u8 0, .int .u8 0, .int .u8 0, .int .u8 0, .int .u8 0, .int .u8 0, .int .u8 0, .int .u8 0, .int .u8 0, .int .u8 0, .int .u8 0, .int .u8 0, .int .u8 0, .int .u8 0, .int .u8 0, .slice none 0 0, .int .i64 0, .int .i64 0] : List Value).toArray.size := by simp
    have Hsz := hide hsz
    clear hq5 h1c hsz
    go_wp2_with (first | (refine wpList_at (.load 63 (.tmp 6)) rfl ?_; refine wpList_load_row rfl 63 (.tmp 6) rfl (w2.heap.size + 1) rfl 63 (.int .i64 1 :: q1 :: q2 :: q3 :: [.slice (some ⟨b, off, none⟩) 1 cP, .slice aH 1 cH, .int .i64 0, .int .i64 0, .bool false, .int .i64 0, .int .i64 0, .int .i64 0, .int .u8 0, .int .u8 0, .int .u8 0, .int .u8 0, .int .u8 0, .int .u8 0, .int .u8 0, .int .u8 0, .int .u8 0, .int .u8 0, .int .u8 0, .int .u8 0, .int .u8 0, .int .u8 0, .int .u8 0, .int .u8 0, .slice none 0 0, .int .i64 0, .int .i64 0] : List Value).toArray (0, 0) _ HM5.out Tryz.underlying63 rfl H1i.out ?_) | (refine wpList_at (.store 63 (.tmp 2) (.tmp 29)) rfl ?_; refine wpList_store_row rfl 63 (.tmp 2) (.tmp 29) rfl w.heap.size (.int .i64 1 :: q1 :: q2 :: q3 :: [.slice (some ⟨b, off, none⟩) 1 cP, .slice aH 1 cH, .int .i64 0, .int .i64 0, .bool false, .int .i64 0, .int .i64 0, .int .i64 0, .int .u8 0, .int .u8 0, .int .u8 0, .int .u8 0, .int .u8 0, .int .u8 0, .int .u8 0, .int .u8 0, .int .u8 0, .int .u8 0, .int .u8 0, .int .u8 0, .int .u8 0, .int .u8 0, .int .u8 0, .int .u8 0, .slice none 0 0, .int .i64 0, .int .i64 0] : List Value).toArray rfl rfl 63 #[.int .i64 0, .slice none 0 0, .slice none 0 0, .slice none 0 0, .slice none 0 0, .slice none 0 0, .int .i64 0, .int .i64 0, .bool false, .int .i64 0, .int .i64 0, .int .i64 0, .int .u8 0, .int .u8 0, .int .u8 0, .int .u8 0, .int .u8 0, .int .u8 0, .int .u8 0, .int .u8 0, .int .u8 0, .int .u8 0, .int .u8 0, .int .u8 0, .int .u8 0, .int .u8 0, .int .u8 0, .int .u8 0, .slice none 0 0, .int .i64 0, .int .i64 0] HQ5.out H1i.out Hsz.out H1c.out ?_))
    have hs4 := HS4.out
    have hlq := HQ2.out.lt
    have hsz2 := HB2.out.size
    have hw8 : w.heap.size ≤ (W4.alloc (.cells #[.slice aH 1 cH] 40)).drew.heap.size := by simp; omega
    have hc6 : Chg (fun i => i = w.heap.size) w5 (w5.setRow w.heap.size (.int .i64 1 :: q1 :: q2 :: q3 :: [.slice (some ⟨b, off, none⟩) 1 cP, .slice aH 1 cH, .int .i64 0, .int .i64 0, .bool false, .int .i64 0, .int .i64 0, .int .i64 0, .int .u8 0, .int .u8 0, .int .u8 0, .int .u8 0, .int .u8 0, .int .u8 0, .int .u8 0, .int .u8 0, .int .u8 0, .int .u8 0, .int .u8 0, .int .u8 0, .int .u8 0, .int .u8 0, .int .u8 0, .int .u8 0, .slice none 0 0, .int .i64 0, .int .i64 0] : List Value).toArray) := ⟨rfl, rfl, rfl, by simp, fun k _ hk => setRow_other _ _ k _ hk⟩
    refine bodyPost_ret (ret_agg rfl _ _ w.heap.size (.int .i64 1 :: q1 :: q2 :: q3 :: [.slice (some ⟨b, off, none⟩) 1 cP, .slice aH 1 cH, .int .i64 0, .int .i64 0, .bool false, .int .i64 0, .int .i64 0, .int .i64 0, .int .u8 0, .int .u8 0, .int .u8 0, .int .u8 0, .int .u8 0, .int .u8 0, .int .u8 0, .int .u8 0, .int .u8 0, .int .u8 0, .int .u8 0, .int .u8 0, .int .u8 0, .int .u8 0, .int .u8 0, .int .u8 0, .slice none 0 0, .int .i64 0, .int .i64 0] : List Value).toArray _ rfl rfl (run_loadVar_row _ w.heap.size 63 63 _ (0, 0) _ (setRow_heap _ _ _ _ _ _ HQ5.out) Tryz.underlying63 rfl H1i.out)) rfl ?_
    refine ⟨q1, q2, q3, .slice (some ⟨b, off, none⟩) 1 cP, .slice aH 1 cH, rfl, rfl, rfl, ?_, ?_, ?_, ?_⟩
    · refine OwnP.mono2 (HQa.out.chg hc6 (fun g hg e => ?_)) hw8
      have h1 := OwnP.base HQa.out g hg
      simp at h1
      omega
    · refine OwnE.mono (ownsRow_chg HQb.out hc6 (fun g hg e => ?_)) hw8
      have h1 := own_base HQb.out g hg
      simp at h1
      omega
    · refine OwnE.mono (ownsRow_chg HQc.out hc6 (fun g hg e => ?_)) hw8
      have h1 := own_base HQc.out g hg
      simp at h1
      omega
    · have hA : Below w.heap.size w (W4.alloc (.cells #[.slice aH 1 cH] 40)).drew := ((HB2.out.trans (HB4.out.mono HB2.out.size)).alloc (by omega) _).drew
      exact (hA.trans (Chg.below w.heap.size HC5.out hw8 (fun i hi => by omega))).trans (Chg.below w.heap.size hc6 (Nat.le_trans hw8 HC5.out.size) (fun i hi => by omega))
end Go.Proofs.YtjpdfchdgphdoaaGreatDoor.Oct
