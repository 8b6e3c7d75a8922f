/- What the program's calls of a header answer: its numbers. -/
import Derived.Test.YtibkhgmmjhlpmaaGreatPNumMem
import Derived.Test.YtibkhgmmjhlpmaaGreatChecked
import Derived.WalkKit
import Derived.Deep.RegionHeld3
namespace Go.Proofs.YtibkhgmmjhlpmaaGreat.Oct

/-- A header's fields. -/
structure Hd where
  bits : Int
  size : Int
  host : Int
  journal : Int
  backed : Bool

/-- A number of eight bytes with a sign. -/
def I64 (x : Int) : Prop := -9223372036854775808 ≤ x ∧ x ≤ 9223372036854775807

structure Hd.Ok (h : Hd) : Prop where
  b : I64 h.bits
  s : I64 h.size
  o : I64 h.host
  j : I64 h.journal

/-- A cluster's bytes. -/
def clN (bits : Int) : Int := if bits = 10 then 1024 else if bits = 11 then 2048 else if bits = 12 then 4096 else 512

theorem clN_cases (b : Int) : clN b = 512 ∨ clN b = 1024 ∨ clN b = 2048 ∨ clN b = 4096 := by
  unfold clN
  split
  · omega
  split
  · omega
  split <;> omega

/-- A number, cut. -/
def cutN (n most : Int) : Int := if n < 0 then 0 else if most < n then most else n

theorem cutN_bd {n most : Int} (h : 0 ≤ most) : 0 ≤ cutN n most ∧ cutN n most ≤ most := by
  unfold cutN
  split
  · omega
  split <;> omega

/-- How many hold so many bytes. -/
def upN (b c : Int) : Int := (b + c - 1) / c

theorem upN_zero_or {b c : Int} (hc : 0 < c) : upN b c = if b % c = 0 then b / c else b / c + 1 := by
  unfold upN
  have h1 := Int.emod_add_mul_ediv b c
  have h2 := Int.emod_nonneg b (show c ≠ 0 by omega)
  have h3 := Int.emod_lt_of_pos b hc
  generalize b / c = q at *
  generalize b % c = r at *
  have e : b + c - 1 = (r + c - 1) + c * q := by omega
  rw [e, Int.add_mul_ediv_left _ _ (by omega)]
  split
  · rename_i h; subst h
    rw [Int.zero_add, Int.ediv_eq_zero_of_lt (by omega) (by omega)]; omega
  · have : (r + c - 1) / c = 1 := by
      have e2 : r + c - 1 = (r - 1) + c * 1 := by omega
      rw [e2, Int.add_mul_ediv_left _ _ (by omega), Int.ediv_eq_zero_of_lt (by omega) (by omega)]
      omega
    omega

theorem upN_bd {b c : Int} (hb : 0 ≤ b) (hc : 0 < c) : 0 ≤ upN b c ∧ upN b c ≤ b := by
  have h1 : 0 ≤ b / c := Int.ediv_nonneg hb (by omega)
  have h2 : b / c ≤ b := Int.ediv_le_self _ hb
  refine ⟨?_, ?_⟩
  · rw [upN_zero_or hc]; split <;> omega
  · by_cases h0 : b = 0
    · subst h0; unfold upN; rw [Int.zero_add, Int.ediv_eq_zero_of_lt (by omega) (by omega)]; omega
    · unfold upN
      have : b + c - 1 ≤ b * c := by
        have : (b - 1) * (c - 1) ≥ 0 := Int.mul_nonneg (by omega) (by omega)
        rw [Int.sub_mul, Int.mul_sub, Int.one_mul, Int.mul_one] at this
        omega
      exact Int.ediv_le_of_le_mul hc this

def Hd.cl (h : Hd) : Int := clN h.bits
def Hd.guest (h : Hd) : Int := upN (cutN h.size 16777216) h.cl
def Hd.refs (h : Hd) : Int := upN (2 * cutN h.host 8192) h.cl
def Hd.jour (h : Hd) : Int := cutN h.journal 8192
def Hd.at_ (h : Hd) : Nat → Int
  | 0 => 0
  | 1 => 1
  | 2 => 1 + h.jour
  | 3 => 1 + h.jour + h.refs
  | 4 => 1 + h.jour + h.refs + 1
  | _ => 1 + h.jour + h.refs + 1 + 1
def Hd.least (h : Hd) : Int := upN (4608 + (h.refs + 18) * h.cl) h.cl

theorem Hd.cl_cases (h : Hd) : h.cl = 512 ∨ h.cl = 1024 ∨ h.cl = 2048 ∨ h.cl = 4096 := clN_cases _
theorem Hd.cl_bd (h : Hd) : 512 ≤ h.cl ∧ h.cl ≤ 4096 := by have := h.cl_cases; omega
theorem Hd.guest_bd (h : Hd) : 0 ≤ h.guest ∧ h.guest ≤ 16777216 := by
  have h1 := cutN_bd (n := h.size) (most := 16777216) (by omega)
  have h2 := upN_bd h1.1 (show 0 < h.cl by have := h.cl_bd; omega)
  unfold Hd.guest; omega
theorem Hd.refs_bd (h : Hd) : 0 ≤ h.refs ∧ h.refs ≤ 16384 := by
  have h1 := cutN_bd (n := h.host) (most := 8192) (by omega)
  have h2 := upN_bd (b := 2 * cutN h.host 8192) (by omega) (show 0 < h.cl by have := h.cl_bd; omega)
  unfold Hd.refs; omega
theorem Hd.jour_bd (h : Hd) : 0 ≤ h.jour ∧ h.jour ≤ 8192 := cutN_bd (by omega)
theorem Hd.rc_bd (h : Hd) : 0 ≤ (h.refs + 18) * h.cl ∧ (h.refs + 18) * h.cl ≤ 16402 * 4096 := by
  have h1 := h.refs_bd
  have h2 := h.cl_bd
  exact ⟨Int.mul_nonneg (by omega) (by omega), Int.mul_le_mul (by omega) h2.2 (by omega) (by omega)⟩

/-- What Check answers. -/
def Hd.check (h : Hd) : Int :=
  if h.bits < 9 ∨ 12 < h.bits ∨ h.size < 512 ∨ 16777216 < h.size ∨ h.size % 512 ≠ 0 then 11
  else if h.cl / 8 * (h.cl / 8) < h.guest ∨ h.host < 1 ∨ 8192 < h.host ∨ 4194304 / h.cl < h.host then 20
  else if h.journal < h.least ∨ 8192 < h.journal ∨ h.host < h.at_ 5 then 11
  else 0
end Go.Proofs.YtibkhgmmjhlpmaaGreat.Oct

namespace Go.Proofs.YtibkhgmmjhlpmaaGreat.Oct
open Go.RowKit

set_option maxHeartbeats 400000 in
theorem cut_any (n most : Int) (hm : 0 ≤ most) (w : World) : Calls Tryz.prog 52 #[.int .i64 n, .int .i64 most] w fun e w' => e = .returned (.int .i64 (cutN n most)) ∧ w' = w := by
  obtain ⟨m1, h1⟩ : ∃ m1, m1 = if n < 0 then 0 else n := ⟨_, rfl⟩
  obtain ⟨m2, h2⟩ : ∃ m2, m2 = if most < m1 then most else m1 := ⟨_, rfl⟩
  have HE : Hid (m2 = cutN n most) := hide (by
    rw [h2, h1]; unfold cutN
    by_cases h : n < 0
    · rw [if_pos h, if_pos h, if_neg (by omega)]
    · rw [if_neg h, if_neg h])
  rw [← HE.out]
  go_enter Tryz.func52, Tryz.ntmps52
  go_wp2
  all_goals
    go_ret
    refine ⟨?_, rfl⟩
    subst h1 h2
    simp only [*]
    try rw [if_neg (by omega)]
    try rfl

/-- A number that fits is not wrapped. -/
theorem wrI {x : Int} (h1 : -9223372036854775808 ≤ x) (h2 : x ≤ 9223372036854775807) : IntKind.i64.wrap x = x := by rw [IntKind.wrap_i64]; omega

/-- The block holds a header. -/
def HBox (u : World) (H : Nat) (b s o j : Int) (k : Bool) : Prop :=
  u.cell? ⟨H, 0, none⟩ = some (.int .i64 b) ∧ u.cell? ⟨H, 1, none⟩ = some (.int .i64 s) ∧ u.cell? ⟨H, 2, none⟩ = some (.int .i64 o) ∧ u.cell? ⟨H, 3, none⟩ = some (.int .i64 j) ∧ u.cell? ⟨H, 4, none⟩ = some (.bool k)

theorem HBox.new (w : World) (t : TypeId) (b s o j : Int) (k : Bool) : HBox (w.alloc (.cells #[.int .i64 b, .int .i64 s, .int .i64 o, .int .i64 j, .bool k] t)) w.heap.size b s o j k := by
  refine ⟨?_, ?_, ?_, ?_, ?_⟩ <;> simp

theorem HBox.below {u u' : World} {H : Nat} {b s o j : Int} {k : Bool} (h : HBox u H b s o j k) (hl : H < u.heap.size) (hb : Below u.heap.size u u') : HBox u' H b s o j k :=
  ⟨(hb.cell (p := ⟨H, 0, none⟩) hl).trans h.1, (hb.cell (p := ⟨H, 1, none⟩) hl).trans h.2.1, (hb.cell (p := ⟨H, 2, none⟩) hl).trans h.2.2.1, (hb.cell (p := ⟨H, 3, none⟩) hl).trans h.2.2.2.1, (hb.cell (p := ⟨H, 4, none⟩) hl).trans h.2.2.2.2⟩

/-- What stays while a call goes on: the header in its box; all that was there. -/
structure Kp (w : World) (H : Nat) (b s o j : Int) (k : Bool) (u : World) : Prop where
  box : HBox u H b s o j k
  below : Below w.heap.size w u
  lt : H < u.heap.size

theorem Kp.step {w u u' : World} {H : Nat} {b s o j : Int} {k : Bool} (h : Kp w H b s o j k u) (hb : Below u.heap.size u u') : Kp w H b s o j k u' :=
  ⟨h.box.below h.lt hb, h.below.trans (hb.mono h.below.size), Nat.lt_of_lt_of_le h.lt hb.size⟩

theorem Kp.new (w : World) (b s o j : Int) (k : Bool) : Kp w w.heap.size b s o j k (w.alloc (.cells #[.int .i64 b, .int .i64 s, .int .i64 o, .int .i64 j, .bool k] 25)) :=
  ⟨HBox.new _ _ _ _ _ _ _, (Below.refl _ _).alloc (Nat.le_refl _) _, by simp⟩

/-- A block of the call's own stays, too. -/
def Stay (u : World) (R : Nat) (cs : Array Value) (t : TypeId) : Prop := u.heap[R]? = some (.cells cs t (0, 0))

theorem Stay.below {u u' : World} {R : Nat} {cs : Array Value} {t : TypeId} (h : Stay u R cs t) (hb : Below u.heap.size u u') : Stay u' R cs t :=
  (hb.block R (Array.getElem?_eq_some_iff.1 h).1).trans h

theorem Stay.drew {u : World} {R : Nat} {cs : Array Value} {t : TypeId} (h : Stay u R cs t) : Stay u.drew R cs t := h

theorem Stay.cell {u : World} {R : Nat} {cs : Array Value} {t : TypeId} (h : Stay u R cs t) (i : Nat) (v : Value) (hv : cs[i]? = some v) : u.cell? ⟨R, i, none⟩ = some v := by
  unfold Stay at h
  simp only [World.cell?, h]
  exact hv

theorem Stay.frozen {u : World} {R : Nat} {cs : Array Value} {t : TypeId} (h : Stay u R cs t) (i : Nat) : u.frozen? ⟨R, i, none⟩ = false := by
  unfold Stay at h
  simp [World.frozen?, h]

theorem Stay.set {u : World} {R : Nat} {cs : Array Value} {t : TypeId} (h : Stay u R cs t) (i : Nat) (v : Value) : Stay (u.setCell ⟨R, i, none⟩ v) R (cs.setIfInBounds i v) t :=
  heap_setCell_same u R i cs t v h

theorem Stay.new2 (w : World) (A : Obj) (cs : Array Value) (t : TypeId) : Stay ((w.alloc A).alloc (.cells cs t)) (w.heap.size + 1) cs t := heap_alloc2_new w A _

theorem Kp.drew {w u : World} {H : Nat} {b s o j : Int} {k : Bool} (h : Kp w H b s o j k u) : Kp w H b s o j k u.drew := ⟨h.box, h.below.drew, h.lt⟩

set_option maxHeartbeats 1000000 in
theorem cluster_any (b s o j : Int) (k : Bool) (w : World) : Calls Tryz.prog 20 #[.agg #[.int .i64 b, .int .i64 s, .int .i64 o, .int .i64 j, .bool k]] w fun e w' => e = .returned (.int .i64 (clN b)) ∧ Below w.heap.size w w' := by
  have hK := Kp.new w b s o j k
  have HK := hide hK
  obtain ⟨c0, c1, c2, c3, c4⟩ := hK.box
  clear hK
  by_cases h1 : b < 9
  · have e : clN b = 512 := by unfold clN; rw [if_neg (by omega), if_neg (by omega), if_neg (by omega)]
    rw [e]
    go_enter Tryz.func20, Tryz.ntmps20
    go_wp2
    go_ret
    exact ⟨rfl, HK.out.below⟩
  · by_cases h2 : 12 < b
    · have e : clN b = 512 := by unfold clN; rw [if_neg (by omega), if_neg (by omega), if_neg (by omega)]
      rw [e]
      go_enter Tryz.func20, Tryz.ntmps20
      go_wp2
      go_ret
      exact ⟨rfl, HK.out.below⟩
    · have h3 : b = 9 ∨ b = 10 ∨ b = 11 ∨ b = 12 := by omega
      rcases h3 with rfl | rfl | rfl | rfl <;>
      · go_enter Tryz.func20, Tryz.ntmps20
        go_wp2
        go_ret
        exact ⟨rfl, HK.out.below⟩

set_option maxHeartbeats 1000000 in
theorem entries_any (b s o j : Int) (k : Bool) (w : World) : Calls Tryz.prog 19 #[.agg #[.int .i64 b, .int .i64 s, .int .i64 o, .int .i64 j, .bool k]] w fun e w' => e = .returned (.int .i64 (clN b / 8)) ∧ Below w.heap.size w w' := by
  have hK := Kp.new w b s o j k
  have HK := hide hK
  obtain ⟨c0, c1, c2, c3, c4⟩ := hK.box
  have hc := clN_cases b
  clear hK
  go_enter Tryz.func19, Tryz.ntmps19
  go_wp2_with fail
  refine (cluster_any b s o j k _).mono ?_
  rintro e w2 ⟨rfl, hb2⟩
  have HK2 := hide (HK.out.step hb2)
  obtain ⟨c, hce⟩ : ∃ c, c = clN b := ⟨_, rfl⟩
  rw [← hce] at hc ⊢
  have h0 : 0 ≤ c := by omega
  have HCe := hide hce
  clear hb2 hce
  go_wp2
  go_ret
  refine ⟨congrArg (fun z => Ending.returned (.int .i64 z)) ?_, HK2.out.below⟩
  rw [HCe.out]

set_option maxHeartbeats 1000000 in
theorem holding_any (b s o j : Int) (k : Bool) (n : Int) (hn : 0 ≤ n ∧ n ≤ 1000000000) (w : World) : Calls Tryz.prog 51 #[.agg #[.int .i64 b, .int .i64 s, .int .i64 o, .int .i64 j, .bool k], .int .i64 n] w fun e w' => e = .returned (.int .i64 (upN n (clN b))) ∧ Below w.heap.size w w' := by
  have hK := Kp.new w b s o j k
  have HK := hide hK.drew
  obtain ⟨c0, c1, c2, c3, c4⟩ := hK.box
  have hc := clN_cases b
  have HC := fun u => hide (cluster_any b s o j k u)
  clear hK
  obtain ⟨c, hce⟩ : ∃ c, c = clN b := ⟨_, rfl⟩
  rw [← hce] at hc HC ⊢
  clear hce
  have h0 : 0 ≤ c := by omega
  have h00 : c ≠ 0 := by omega
  have h1 : 0 ≤ n + c - 1 := by omega
  go_enter Tryz.func51, Tryz.ntmps51
  go_wp2_with fail
  go_region_held3 (fun u => u.cell? ⟨w.heap.size, 0, none⟩ = some (.int .i64 b) ∧ u.cell? ⟨w.heap.size, 1, none⟩ = some (.int .i64 s) ∧ u.cell? ⟨w.heap.size, 2, none⟩ = some (.int .i64 o) ∧ u.cell? ⟨w.heap.size, 3, none⟩ = some (.int .i64 j) ∧ u.cell? ⟨w.heap.size, 4, none⟩ = some (.bool k)) (first | go_keep | (with_reducible exact HK.out.box) | exact HK.out.box) (first
    | (go_at_call 20; refine ((HC _).out).mono ?_; rintro e w2 ⟨rfl, hb2⟩; have HK := hide (HK.out.step hb2); clear hb2))
  all_goals
    go_wp2
    go_ret
    refine ⟨congrArg (fun z => Ending.returned (.int .i64 z)) ?_, HK.out.below⟩
    have hq := Int.ediv_le_self c (a := n + c - 1) (by omega)
    have hq0 : 0 ≤ (n + c - 1) / c := Int.ediv_nonneg (by omega) (by omega)
    rw [wrI (x := n + c) (by omega) (by omega), wrI (x := n + c - 1) (by omega) (by omega), Int.tdiv_eq_ediv_of_nonneg (by omega), wrI (by omega) (by omega)]
    rfl

set_option maxHeartbeats 1000000 in
theorem guest_any (b s o j : Int) (k : Bool) (w : World) : Calls Tryz.prog 18 #[.agg #[.int .i64 b, .int .i64 s, .int .i64 o, .int .i64 j, .bool k]] w fun e w' => e = .returned (.int .i64 (Hd.guest ⟨b, s, o, j, k⟩)) ∧ Below w.heap.size w w' := by
  have hK := Kp.new w b s o j k
  have HK := hide hK.drew
  obtain ⟨c0, c1, c2, c3, c4⟩ := hK.box
  have HC := fun u => hide (cut_any s 16777216 (by omega) u)
  have hcb := cutN_bd (n := s) (most := 16777216) (by omega)
  have HH := fun u => hide (holding_any b s o j k (cutN s 16777216) (by omega) u)
  clear hK
  have he : Hd.guest ⟨b, s, o, j, k⟩ = upN (cutN s 16777216) (clN b) := rfl
  rw [he]
  generalize cutN s 16777216 = x at *
  generalize upN x (clN b) = y at *
  go_enter Tryz.func18, Tryz.ntmps18
  go_wp2_with fail
  go_region_held3 (fun u => u.cell? ⟨w.heap.size, 0, none⟩ = some (.int .i64 b) ∧ u.cell? ⟨w.heap.size, 1, none⟩ = some (.int .i64 s) ∧ u.cell? ⟨w.heap.size, 2, none⟩ = some (.int .i64 o) ∧ u.cell? ⟨w.heap.size, 3, none⟩ = some (.int .i64 j) ∧ u.cell? ⟨w.heap.size, 4, none⟩ = some (.bool k)) (first | go_keep | (with_reducible exact HK.out.box) | exact HK.out.box) (first
    | (go_at_call 52; refine ((HC _).out).mono ?_; rintro e w2 ⟨rfl, rfl⟩)
    | (go_at_call 51; refine ((HH _).out).mono ?_; rintro e w2 ⟨rfl, hb2⟩; have HK := hide (HK.out.step hb2); clear hb2))
  all_goals
    go_wp2
    go_ret
    exact ⟨rfl, HK.out.below⟩

set_option maxHeartbeats 1000000 in
theorem sizes_any (b s o j : Int) (k : Bool) (w : World) : Calls Tryz.prog 53 #[.agg #[.int .i64 b, .int .i64 s, .int .i64 o, .int .i64 j, .bool k]] w fun e w' => e = .returned (.agg #[.int .i64 1, .int .i64 (Hd.jour ⟨b, s, o, j, k⟩), .int .i64 (Hd.refs ⟨b, s, o, j, k⟩), .int .i64 1, .int .i64 1]) ∧ Below w.heap.size w w' := by
  have hK := (Kp.new w b s o j k).step (u' := (w.alloc (.cells #[.int .i64 b, .int .i64 s, .int .i64 o, .int .i64 j, .bool k] 25)).alloc (.cells #[.int .i64 0, .int .i64 0, .int .i64 0, .int .i64 0, .int .i64 0] 107)) ((Below.refl _ _).alloc (Nat.le_refl _) _)
  have hR : Stay ((w.alloc (.cells #[.int .i64 b, .int .i64 s, .int .i64 o, .int .i64 j, .bool k] 25)).alloc (.cells #[.int .i64 0, .int .i64 0, .int .i64 0, .int .i64 0, .int .i64 0] 107)) (w.heap.size + 1) #[.int .i64 0, .int .i64 0, .int .i64 0, .int .i64 0, .int .i64 0] 107 := Stay.new2 w (.cells #[.int .i64 b, .int .i64 s, .int .i64 o, .int .i64 j, .bool k] 25) #[.int .i64 0, .int .i64 0, .int .i64 0, .int .i64 0, .int .i64 0] 107
  have HK := hide hK.drew
  have HR := hide hR.drew
  obtain ⟨c0, c1, c2, c3, c4⟩ := hK.box
  have HC := fun u => hide (cut_any j 8192 (by omega) u)
  have HC2 := fun u => hide (cut_any o 8192 (by omega) u)
  have hcb := cutN_bd (n := o) (most := 8192) (by omega)
  have HH := fun u => hide (holding_any b s o j k (2 * cutN o 8192) (by omega) u)
  clear hK hR
  have he : Hd.jour ⟨b, s, o, j, k⟩ = cutN j 8192 := rfl
  have he2 : Hd.refs ⟨b, s, o, j, k⟩ = upN (2 * cutN o 8192) (clN b) := rfl
  rw [he, he2]
  clear he he2
  generalize cutN j 8192 = x at *
  generalize cutN o 8192 = z at *
  generalize upN (2 * z) (clN b) = y at *
  have hz : IntKind.i64.wrap (2 * z) = 2 * z := wrI (by omega) (by omega)
  go_enter Tryz.func53, Tryz.ntmps53
  go_wp2_with fail
  go_region_held3 (fun u => u.cell? ⟨w.heap.size, 0, none⟩ = some (.int .i64 b) ∧ u.cell? ⟨w.heap.size, 1, none⟩ = some (.int .i64 s) ∧ u.cell? ⟨w.heap.size, 2, none⟩ = some (.int .i64 o) ∧ u.cell? ⟨w.heap.size, 3, none⟩ = some (.int .i64 j) ∧ u.cell? ⟨w.heap.size, 4, none⟩ = some (.bool k)) (first | go_keep | (with_reducible exact HK.out.box) | exact HK.out.box) (first
    | (go_at_call_of 52 (Value.int IntKind.i64 j); refine ((HC _).out).mono ?_; rintro e w2 ⟨rfl, rfl⟩)
    | (go_at_call 52; refine ((HC2 _).out).mono ?_; rintro e w2 ⟨rfl, rfl⟩)
    | (go_at_call 51; refine ((HH _).out).mono ?_; rintro e w2 ⟨rfl, hb2⟩; have HK := hide (HK.out.step hb2); have HR := hide (HR.out.below hb2); have d0 : _ = some (Value.int .i64 0) := HR.out.cell 0 _ rfl; have f0 := HR.out.frozen 0; have d1 : _ = some (Value.int .i64 0) := HR.out.cell 1 _ rfl; have f1 := HR.out.frozen 1; have d2 : _ = some (Value.int .i64 0) := HR.out.cell 2 _ rfl; have f2 := HR.out.frozen 2; have d3 : _ = some (Value.int .i64 0) := HR.out.cell 3 _ rfl; have f3 := HR.out.frozen 3; have d4 : _ = some (Value.int .i64 0) := HR.out.cell 4 _ rfl; have f4 := HR.out.frozen 4; clear hb2))
  all_goals
    go_wp2_with fail
    refine bodyPost_ret (results_cell_row rfl _ _ (w.heap.size + 1) 107 _ (0, 0) _ rfl ((((((HR.out.set 0 (.int .i64 1)).set 1 (.int .i64 x)).set 2 (.int .i64 y)).set 3 (.int .i64 1)).set 4 (.int .i64 1))) Tryz.underlying107 rfl (by kernel_rfl)) rfl ?_
    have hw := HK.out.below.size
    exact ⟨rfl, ((((HK.out.below.setCell (p := ⟨w.heap.size + 1, 0, none⟩) (by simp) _).setCell (p := ⟨w.heap.size + 1, 1, none⟩) (by simp) _).setCell (p := ⟨w.heap.size + 1, 2, none⟩) (by simp) _).setCell (p := ⟨w.heap.size + 1, 3, none⟩) (by simp) _).setCell (p := ⟨w.heap.size + 1, 4, none⟩) (by simp) _⟩

end Go.Proofs.YtibkhgmmjhlpmaaGreat.Oct
