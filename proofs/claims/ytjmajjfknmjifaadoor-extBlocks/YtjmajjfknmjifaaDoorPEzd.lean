/- The root of a volume that is made: its inode, its rows; a block of the bytes. -/
import Derived.Test.YtjmajjfknmjifaaDoorPEza
import Derived.Test.YtjmajjfknmjifaaDoorPEzb
import Derived.Lib.ConvBytes
import Derived.Maps.AppendAt
namespace Go.Proofs.YtjmajjfknmjifaaDoor.Oct
open Go.RowKit

/-- Cells that stand in a block from its beginning on. -/
def CellsAt (w : World) (g : Nat) (cs : List Value) : Prop := ∀ j v, cs[j]? = some v → w.cell? ⟨g, j, none⟩ = some v

theorem CellsAt.below {w w' : World} {g : Nat} {cs : List Value} (h : CellsAt w g cs) (hb : Below w.heap.size w w') : CellsAt w' g cs := fun j v hv => (hb.cell (p := ⟨g, j, none⟩) (lt_of_cell (h j v hv))).trans (h j v hv)
theorem CellsAt.chg {X : Nat → Prop} {w w' : World} {g : Nat} {cs : List Value} (h : CellsAt w g cs) (hc : Chg X w w') (hx : ¬ X g) : CellsAt w' g cs := fun j v hv => hc.cell (h j v hv) hx
theorem CellsAt.drew {w : World} {g : Nat} {cs : List Value} (h : CellsAt w g cs) : CellsAt w.drew g cs := h
theorem Blk.cellsAt {u : World} {R : Nat} {cs : Array Value} {t : TypeId} (h : Blk u R cs t) : CellsAt u R cs.toList := fun j v hv => h.cell j v (by simpa using hv)

/-- One element is appended to a slice that is nil. -/
theorem app_one (w : World) (t ty e : TypeId) (i : TypeInfo) (z : Value) (size bytes : Nat) (ht : Tryd.prog.underlying t = some (.slice e)) (hi : Tryd.prog.info? e = some i) (hz : i.zero = some z)
    (hsize : i.size = size) (hby : i.bytes = bytes) (hzs : z.cells.size = size) (hsz : 0 < size) (H c : Nat) (news : List Value) (hl : news.length = size) (hn : CellsAt w H news) (h1 : ∀ u ∈ news, u.oneCell' = true) (hb : bytes ≤ 1000) :
    ∃ g k w', (Builtin.append_ #[t, t] ty #[.slice none 0 0, .slice (some ⟨H, 0, none⟩) 1 c]).run Tryd.prog w = .ok (.slice (some ⟨g, 0, none⟩) 1 k) w' ∧ CellsAt w' g news ∧ w.heap.size ≤ g ∧ 1 ≤ k ∧ k ≤ maxLen ∧ Below w.heap.size w w' := by
  obtain ⟨v', w', hr, ho, hg, _, _⟩ := run_append_own_at (P := Tryd.prog) w w.heap.size t ty e i z size bytes ht hi hz hsize hby hzs hsz (.slice none 0 0) 0 [] (World.ownsRow_nil _ _ _ _) ⟨H, 0, none⟩ 1 c news (by rw [hl, Nat.one_mul]) (fun j u hu => by rw [Go.WideShapes.add_plain, Nat.zero_add]; exact hn j u hu) h1 (by unfold maxLen; omega) (by omega) (Nat.le_refl _)
  rcases ho.2 with ⟨_, h0⟩ | ⟨g, cap, cur, rfl, hbg, hh, h1', h2', h3', h4'⟩
  · simp at h0
  · refine ⟨g, cap, w', by simpa using hr, fun j u hu => ?_, hbg, by omega, h2', (Below.refl _ _).grown hg (Nat.le_refl _) (fun k hk => by simp [Value.ownBlock] at hk)⟩
    have hc := World.ownsRow.cells (g := g) ho rfl j u (by simpa using hu)
    rw [Go.WideShapes.add_plain, Nat.zero_add] at hc
    exact hc

theorem below_bytesWorld (w : World) (e : TypeId) (s : ByteArray) : Below w.heap.size w (Lib.bytesWorld w e s) :=
  ⟨rfl, rfl, rfl, by rw [Lib.bytesWorld_size]; omega, fun k hk => Lib.bytesWorld_at_old w e s k hk⟩

set_option maxHeartbeats 1000000 in
/-- Bytes are put over a part of an own row. -/
theorem Patch_sub (B g cap0 off n cap : Nat) (l : List Int) (a' : Option Addr) (cap' : Nat) (m : List Int) (p : Nat) (w : World) (hlen : l.length ≤ 1000000) (hcap : n ≤ cap) (hm : m ≠ []) (hn : off + n ≤ l.length) (hp : p + m.length ≤ n)
    (hown : Own w B (.slice (some ⟨g, 0, none⟩) l.length cap0) l) (hl' : Lies w a' m) :
    Calls Tryd.prog 87 #[.slice (some ⟨g, off, none⟩) n cap, .int .i64 p, .slice a' m.length cap'] w fun e w' =>
      e = .returned (.bool true) ∧ Own w' B (.slice (some ⟨g, 0, none⟩) l.length cap0) (over l (off + p) m) ∧ w.grownBy w' (some g) := by
  have hpos : 0 < m.length := List.length_pos_iff.2 hm
  obtain ⟨w1, hrun, ho, hg⟩ := run_copy_part (P := Tryd.prog) (dT := 24) (sT := 24) (ty := 3) Tryd.underlying24 size5 w B g (off + p) l.length cap0 (n - p) (cap - p) m.length cap' (some ⟨g, off + p, none⟩) a'
    m l hown rfl hl' (fun _ => rfl) (Nat.min_eq_left (by omega)).symm (by omega)
  have HO := hide ho
  have HG := hide hg
  clear hown hl' ho hg hm
  go_enter Tryd.func87, Tryd.ntmps87
  go_wp2_with (go_at_call 67; refine (there_yes _ _ _ _ _ _ (by unfold maxLen; omega) (by omega) (by omega) (by omega)).mono ?_; rintro e w' ⟨rfl, rfl⟩)
  go_ret
  exact ⟨rfl, HO.out, HG.out⟩

set_option maxHeartbeats 4000000 in
set_option maxRecDepth 100000 in
theorem putRoot_ok (B g cap0 off n cap : Nat) (l : List Int) (blk : Int) (w : World) (hlen : l.length ≤ 100000000) (hn : off + n ≤ l.length) (h44 : 44 ≤ n) (hb : 0 ≤ blk ∧ blk ≤ 4294967295) (hown : Own w B (.slice (some ⟨g, 0, none⟩) l.length cap0) l) :
    Calls Tryd.prog 70 #[.slice (some ⟨g, off, none⟩) n cap, .int .i64 blk] w fun e w' => e = .returned (.tuple #[]) ∧ Own w' B (.slice (some ⟨g, 0, none⟩) l.length cap0) (rootB l off blk 5) ∧ w.grownBy w' (some g) := by
  have hw : IntKind.u32.wrap blk = blk := by rw [IntKind.wrap_u32]; omega
  have HP0 : ∀ u, Own u B (.slice (some ⟨g, 0, none⟩) l.length cap0) (rootB l off blk 0) → Hid (Calls Tryd.prog 39 #[.slice (some ⟨g, off, none⟩) n cap, .int .i64 0, .int .u16 16877] u fun e w' => e = .returned (.bool true) ∧ Own w' B (.slice (some ⟨g, 0, none⟩) l.length cap0) (rootB l off blk 1) ∧ u.grownBy w' (some g)) := fun u ho => hide (by
    have hl := rootB_len l off blk 0 (by omega)
    have h := Put16_sub B g cap0 (rootB l off blk 0) off n cap 0 16877 u (by rw [hl]; unfold maxLen; omega) (by rw [hl]; exact hn) (by omega) (by rw [hl]; exact ho)
    rw [hl] at h
    rw [show rootB l off blk 1 = putN (rootB l off blk 0) (off + 0) 16877 2 by conv => { lhs; rw [rootB] }]
    exact h)
  have HP1 : ∀ u, Own u B (.slice (some ⟨g, 0, none⟩) l.length cap0) (rootB l off blk 1) → Hid (Calls Tryd.prog 38 #[.slice (some ⟨g, off, none⟩) n cap, .int .i64 4, .int .u32 1024] u fun e w' => e = .returned (.bool true) ∧ Own w' B (.slice (some ⟨g, 0, none⟩) l.length cap0) (rootB l off blk 2) ∧ u.grownBy w' (some g)) := fun u ho => hide (by
    have hl := rootB_len l off blk 1 (by omega)
    have h := Put32_sub B g cap0 (rootB l off blk 1) off n cap 4 1024 u (by rw [hl]; unfold maxLen; omega) (by rw [hl]; exact hn) (by omega) (by rw [hl]; exact ho)
    rw [hl] at h
    rw [show rootB l off blk 2 = putN (rootB l off blk 1) (off + 4) 1024 4 by conv => { lhs; rw [rootB] }]
    exact h)
  have HP2 : ∀ u, Own u B (.slice (some ⟨g, 0, none⟩) l.length cap0) (rootB l off blk 2) → Hid (Calls Tryd.prog 39 #[.slice (some ⟨g, off, none⟩) n cap, .int .i64 26, .int .u16 2] u fun e w' => e = .returned (.bool true) ∧ Own w' B (.slice (some ⟨g, 0, none⟩) l.length cap0) (rootB l off blk 3) ∧ u.grownBy w' (some g)) := fun u ho => hide (by
    have hl := rootB_len l off blk 2 (by omega)
    have h := Put16_sub B g cap0 (rootB l off blk 2) off n cap 26 2 u (by rw [hl]; unfold maxLen; omega) (by rw [hl]; exact hn) (by omega) (by rw [hl]; exact ho)
    rw [hl] at h
    rw [show rootB l off blk 3 = putN (rootB l off blk 2) (off + 26) 2 2 by conv => { lhs; rw [rootB] }]
    exact h)
  have HP3 : ∀ u, Own u B (.slice (some ⟨g, 0, none⟩) l.length cap0) (rootB l off blk 3) → Hid (Calls Tryd.prog 38 #[.slice (some ⟨g, off, none⟩) n cap, .int .i64 28, .int .u32 2] u fun e w' => e = .returned (.bool true) ∧ Own w' B (.slice (some ⟨g, 0, none⟩) l.length cap0) (rootB l off blk 4) ∧ u.grownBy w' (some g)) := fun u ho => hide (by
    have hl := rootB_len l off blk 3 (by omega)
    have h := Put32_sub B g cap0 (rootB l off blk 3) off n cap 28 2 u (by rw [hl]; unfold maxLen; omega) (by rw [hl]; exact hn) (by omega) (by rw [hl]; exact ho)
    rw [hl] at h
    rw [show rootB l off blk 4 = putN (rootB l off blk 3) (off + 28) 2 4 by conv => { lhs; rw [rootB] }]
    exact h)
  have HP4 : ∀ u, Own u B (.slice (some ⟨g, 0, none⟩) l.length cap0) (rootB l off blk 4) → Hid (Calls Tryd.prog 38 #[.slice (some ⟨g, off, none⟩) n cap, .int .i64 40, .int .u32 blk] u fun e w' => e = .returned (.bool true) ∧ Own w' B (.slice (some ⟨g, 0, none⟩) l.length cap0) (rootB l off blk 5) ∧ u.grownBy w' (some g)) := fun u ho => hide (by
    have hl := rootB_len l off blk 4 (by omega)
    have h := Put32_sub B g cap0 (rootB l off blk 4) off n cap 40 blk u (by rw [hl]; unfold maxLen; omega) (by rw [hl]; exact hn) (by omega) (by rw [hl]; exact ho)
    rw [hl] at h
    rw [show rootB l off blk 5 = putN (rootB l off blk 4) (off + 40) blk 4 by conv => { lhs; rw [rootB] }]
    exact h)
  have HO := hide (show Own w B (.slice (some ⟨g, 0, none⟩) l.length cap0) (rootB l off blk 0) by rw [rootB]; exact hown)
  obtain ⟨N, hN⟩ : ∃ N, N = l.length := ⟨_, rfl⟩
  rw [← hN] at HO HP0 HP1 HP2 HP3 HP4 ⊢
  clear hown hlen hn h44 hb hN
  go_enter Tryd.func70, Tryd.ntmps70
  go_wp2_with fail
  refine (HP0 _ HO.out).out.mono ?_
  rintro e9 y1 ⟨rfl, ho5, hg5⟩
  have HO1 := hide ho5
  have HG1 := hide (hg5)
  clear ho5 hg5
  go_wp2_with fail
  refine (HP1 _ HO1.out).out.mono ?_
  rintro e9 y2 ⟨rfl, ho5, hg5⟩
  have HO2 := hide ho5
  have HG2 := hide (grown_trans HG1.out hg5)
  clear ho5 hg5
  go_wp2_with fail
  refine (HP2 _ HO2.out).out.mono ?_
  rintro e9 y3 ⟨rfl, ho5, hg5⟩
  have HO3 := hide ho5
  have HG3 := hide (grown_trans HG2.out hg5)
  clear ho5 hg5
  go_wp2_with fail
  refine (HP3 _ HO3.out).out.mono ?_
  rintro e9 y4 ⟨rfl, ho5, hg5⟩
  have HO4 := hide ho5
  have HG4 := hide (grown_trans HG3.out hg5)
  clear ho5 hg5
  go_wp2_with fail
  refine (HP4 _ HO4.out).out.mono ?_
  rintro e9 y5 ⟨rfl, ho5, hg5⟩
  have HO5 := hide ho5
  have HG5 := hide (grown_trans HG4.out hg5)
  clear ho5 hg5
  go_wp2_with fail
  exact bodyPost_end (results_none rfl _ _ _) rfl ⟨rfl, HO5.out, HG5.out⟩

set_option maxHeartbeats 4000000 in
set_option maxRecDepth 100000 in
theorem putDot_one (B g cap0 off n cap : Nat) (l : List Int) (w : World) (hlen : l.length ≤ 1000000) (hn : off + n ≤ l.length) (h12 : 12 ≤ n) (hn2 : n ≤ 60000) (hnc : n ≤ cap) (hB : B ≤ w.heap.size) (hown : Own w B (.slice (some ⟨g, 0, none⟩) l.length cap0) l) :
    Calls Tryd.prog 81 #[.slice (some ⟨g, off, none⟩) n cap, .string ⟨#[46]⟩] w fun e w' => e = .returned (.tuple #[]) ∧ Own w' B (.slice (some ⟨g, 0, none⟩) l.length cap0) (dotB l off (n : Int) [46]) ∧ Chg (fun k => some k = some g) w w' := by
  have hgw := (World.ownsRow.lt hown g rfl).2
  have hw : IntKind.u16.wrap (n : Int) = (n : Int) := by rw [IntKind.wrap_u16]; omega
  have hl1 : (putN l (off + 0) 2 4).length = l.length := putN_length _ _ _ _
  have HP0 : ∀ u, Own u B (.slice (some ⟨g, 0, none⟩) l.length cap0) l → Hid (Calls Tryd.prog 38 #[.slice (some ⟨g, off, none⟩) n cap, .int .i64 0, .int .u32 2] u fun e w' => e = .returned (.bool true) ∧ Own w' B (.slice (some ⟨g, 0, none⟩) l.length cap0) (putN l (off + 0) 2 4) ∧ u.grownBy w' (some g)) := fun u ho => hide (Put32_sub B g cap0 l off n cap 0 2 u (by unfold maxLen; omega) hn (by omega) ho)
  have HP1 : ∀ u, Own u B (.slice (some ⟨g, 0, none⟩) l.length cap0) (putN l (off + 0) 2 4) → Hid (Calls Tryd.prog 39 #[.slice (some ⟨g, off, none⟩) n cap, .int .i64 4, .int .u16 (n : Int)] u fun e w' => e = .returned (.bool true) ∧ Own w' B (.slice (some ⟨g, 0, none⟩) l.length cap0) (putN (putN l (off + 0) 2 4) (off + 4) (n : Int) 2) ∧ u.grownBy w' (some g)) := fun u ho => hide (by
    have h := Put16_sub B g cap0 (putN l (off + 0) 2 4) off n cap 4 (n : Int) u (by rw [hl1]; unfold maxLen; omega) (by rw [hl1]; exact hn) (by omega) (by rw [hl1]; exact ho)
    rw [hl1] at h
    exact h)
  obtain ⟨L1, hL1⟩ : ∃ L1, L1 = putN (putN l (off + 0) 2 4) (off + 4) (n : Int) 2 := ⟨_, rfl⟩
  have hl2 : L1.length = l.length := by rw [hL1, putN_length, putN_length]
  have hd : dotB l off (n : Int) [46] = over ((L1.set (off + 6) 1).set (off + 7) 2) (off + 8) [46] := by unfold dotB; rw [hL1]; rfl
  rw [hd]
  rw [← hL1] at HP1
  obtain ⟨L3, hL3⟩ : ∃ L3, L3 = (L1.set (off + 6) 1).set (off + 7) 2 := ⟨_, rfl⟩
  have hl3 : L3.length = l.length := by rw [hL3, List.length_set, List.length_set, hl2]
  rw [← hL3]
  have HPa : ∀ (u : World) (a' : Option Addr) (c' : Nat), Own u B (.slice (some ⟨g, 0, none⟩) l.length cap0) L3 → Lies u a' [46] → Hid (Calls Tryd.prog 87 #[.slice (some ⟨g, off, none⟩) n cap, .int .i64 8, .slice a' 1 c'] u fun e w' => e = .returned (.bool true) ∧ Own w' B (.slice (some ⟨g, 0, none⟩) l.length cap0) (over L3 (off + 8) [46]) ∧ u.grownBy w' (some g)) := fun u a' c' ho hl' => hide (by
    have h := Patch_sub B g cap0 off n cap L3 a' c' [46] 8 u (by rw [hl3]; exact hlen) hnc (by simp) (by rw [hl3]; exact hn) (by simp; omega) (by rw [hl3]; exact ho) hl'
    rw [hl3] at h
    exact h)
  have HLn := hide hl2
  have HL3 := hide hL3
  have h6 : off + 6 < l.length := by omega
  have h7 : off + 7 < l.length := by omega
  have HO := hide hown
  have HH := hide (And.intro h6 (And.intro h7 (And.intro hB hgw)))
  have q6 : (6 : Int) < (n : Int) := by omega
  have q7 : (7 : Int) < (n : Int) := by omega
  obtain ⟨N, hN⟩ : ∃ N, N = l.length := ⟨_, rfl⟩
  rw [← hN] at HO HP0 HP1 HPa HLn HH ⊢
  have HcvE := fun (u : World) => Lib.run_convert_string_bytes (P := Tryd.prog) u 9 24 5 ⟨#[46]⟩ Tryd.underlying9 Tryd.underlying24 Tryd.underlying5
  clear hown hlen hn h12 hn2 hnc hd hL1 hL3 hl1 hl2 hl3 hN h6 h7 hB hgw
  go_enter Tryd.func81, Tryd.ntmps81
  go_wp2_with fail
  refine (HP0 _ HO.out).out.mono ?_
  rintro e9 y1 ⟨rfl, ho5, hg5⟩
  have HO1 := hide ho5
  have HC1 := hide (Chg.of_grown hg5)
  clear ho5 hg5
  go_wp2_with fail
  refine (HP1 _ HO1.out).out.mono ?_
  rintro e9 y2 ⟨rfl, ho5, hg5⟩
  have HO2 := hide ho5
  have HC2 := hide (HC1.out.trans (Chg.of_grown hg5))
  clear ho5 hg5
  have s6 := HO2.out.cell HLn.out.symm (off + 6) HH.out.1
  have f6 := HO2.out.free HLn.out.symm (off + 6)
  have HS6 := hide (HO2.out.set HLn.out.symm (off + 6) 1)
  have hl4 : (L1.set (off + 6) 1).length = N := by rw [List.length_set]; exact HLn.out
  have s7 := HS6.out.1.cell hl4.symm (off + 7) HH.out.2.1
  have f7 := HS6.out.1.free hl4.symm (off + 7)
  have HS7 := hide (HS6.out.1.set hl4.symm (off + 7) 2)
  have HC4 := hide (HC2.out.trans (Chg.of_grown (grown_trans HS6.out.2 HS7.out.2)))
  have HO4 := hide (show Own _ B (.slice (some ⟨g, 0, none⟩) N cap0) L3 by rw [HL3.out]; exact HS7.out.1)
  clear hl4
  have hsz : ((y2.setCell ⟨g, off + 6, none⟩ (.int .u8 1)).setCell ⟨g, off + 7, none⟩ (.int .u8 2)).heap.size = y2.heap.size := by simp [World.setCell]
  go_wp2_with fail
  have hly : Lies (Lib.bytesWorld ((y2.setCell ⟨g, off + 6, none⟩ (.int .u8 1)).setCell ⟨g, off + 7, none⟩ (.int .u8 2)) 5 ⟨#[46]⟩) (some ⟨y2.heap.size, 0, none⟩) [46] := by
    refine Lies.mk fun k hk => ?_
    have h := Lib.bytesWorld_cell ((y2.setCell ⟨g, off + 6, none⟩ (.int .u8 1)).setCell ⟨g, off + 7, none⟩ (.int .u8 2)) 5 ⟨#[46]⟩ k hk
    rw [hsz] at h
    rw [Nat.zero_add, h]
    match k, hk with
    | 0, _ => rfl
    | k + 1, hk => exact absurd hk (by simp)
  have hbb := below_bytesWorld ((y2.setCell ⟨g, off + 6, none⟩ (.int .u8 1)).setCell ⟨g, off + 7, none⟩ (.int .u8 2)) 5 ⟨#[46]⟩
  have HC5 := hide (HC4.out.trans (Chg.of_below hbb))
  refine (HPa _ _ _ (HO4.out.below hbb) hly).out.mono ?_
  rintro e9 y5 ⟨rfl, ho5, hg5⟩
  have HO5 := hide ho5
  have HC6 := hide (HC5.out.trans (Chg.of_grown hg5))
  clear ho5 hg5 hly hbb s6 f6 s7 f7
  go_wp2_with fail
  exact bodyPost_end (results_none rfl _ _ _) rfl ⟨rfl, HO5.out, HC6.out⟩

set_option maxHeartbeats 4000000 in
set_option maxRecDepth 100000 in
theorem putDot_two (B g cap0 off n cap : Nat) (l : List Int) (w : World) (hlen : l.length ≤ 1000000) (hn : off + n ≤ l.length) (h12 : 12 ≤ n) (hn2 : n ≤ 60000) (hnc : n ≤ cap) (hB : B ≤ w.heap.size) (hown : Own w B (.slice (some ⟨g, 0, none⟩) l.length cap0) l) :
    Calls Tryd.prog 81 #[.slice (some ⟨g, off, none⟩) n cap, .string ⟨#[46, 46]⟩] w fun e w' => e = .returned (.tuple #[]) ∧ Own w' B (.slice (some ⟨g, 0, none⟩) l.length cap0) (dotB l off (n : Int) [46, 46]) ∧ Chg (fun k => some k = some g) w w' := by
  have hgw := (World.ownsRow.lt hown g rfl).2
  have hw : IntKind.u16.wrap (n : Int) = (n : Int) := by rw [IntKind.wrap_u16]; omega
  have hl1 : (putN l (off + 0) 2 4).length = l.length := putN_length _ _ _ _
  have HP0 : ∀ u, Own u B (.slice (some ⟨g, 0, none⟩) l.length cap0) l → Hid (Calls Tryd.prog 38 #[.slice (some ⟨g, off, none⟩) n cap, .int .i64 0, .int .u32 2] u fun e w' => e = .returned (.bool true) ∧ Own w' B (.slice (some ⟨g, 0, none⟩) l.length cap0) (putN l (off + 0) 2 4) ∧ u.grownBy w' (some g)) := fun u ho => hide (Put32_sub B g cap0 l off n cap 0 2 u (by unfold maxLen; omega) hn (by omega) ho)
  have HP1 : ∀ u, Own u B (.slice (some ⟨g, 0, none⟩) l.length cap0) (putN l (off + 0) 2 4) → Hid (Calls Tryd.prog 39 #[.slice (some ⟨g, off, none⟩) n cap, .int .i64 4, .int .u16 (n : Int)] u fun e w' => e = .returned (.bool true) ∧ Own w' B (.slice (some ⟨g, 0, none⟩) l.length cap0) (putN (putN l (off + 0) 2 4) (off + 4) (n : Int) 2) ∧ u.grownBy w' (some g)) := fun u ho => hide (by
    have h := Put16_sub B g cap0 (putN l (off + 0) 2 4) off n cap 4 (n : Int) u (by rw [hl1]; unfold maxLen; omega) (by rw [hl1]; exact hn) (by omega) (by rw [hl1]; exact ho)
    rw [hl1] at h
    exact h)
  obtain ⟨L1, hL1⟩ : ∃ L1, L1 = putN (putN l (off + 0) 2 4) (off + 4) (n : Int) 2 := ⟨_, rfl⟩
  have hl2 : L1.length = l.length := by rw [hL1, putN_length, putN_length]
  have hd : dotB l off (n : Int) [46, 46] = over ((L1.set (off + 6) 2).set (off + 7) 2) (off + 8) [46, 46] := by unfold dotB; rw [hL1]; rfl
  rw [hd]
  rw [← hL1] at HP1
  obtain ⟨L3, hL3⟩ : ∃ L3, L3 = (L1.set (off + 6) 2).set (off + 7) 2 := ⟨_, rfl⟩
  have hl3 : L3.length = l.length := by rw [hL3, List.length_set, List.length_set, hl2]
  rw [← hL3]
  have HPa : ∀ (u : World) (a' : Option Addr) (c' : Nat), Own u B (.slice (some ⟨g, 0, none⟩) l.length cap0) L3 → Lies u a' [46, 46] → Hid (Calls Tryd.prog 87 #[.slice (some ⟨g, off, none⟩) n cap, .int .i64 8, .slice a' 2 c'] u fun e w' => e = .returned (.bool true) ∧ Own w' B (.slice (some ⟨g, 0, none⟩) l.length cap0) (over L3 (off + 8) [46, 46]) ∧ u.grownBy w' (some g)) := fun u a' c' ho hl' => hide (by
    have h := Patch_sub B g cap0 off n cap L3 a' c' [46, 46] 8 u (by rw [hl3]; exact hlen) hnc (by simp) (by rw [hl3]; exact hn) (by simp; omega) (by rw [hl3]; exact ho) hl'
    rw [hl3] at h
    exact h)
  have HLn := hide hl2
  have HL3 := hide hL3
  have h6 : off + 6 < l.length := by omega
  have h7 : off + 7 < l.length := by omega
  have HO := hide hown
  have HH := hide (And.intro h6 (And.intro h7 (And.intro hB hgw)))
  have q6 : (6 : Int) < (n : Int) := by omega
  have q7 : (7 : Int) < (n : Int) := by omega
  obtain ⟨N, hN⟩ : ∃ N, N = l.length := ⟨_, rfl⟩
  rw [← hN] at HO HP0 HP1 HPa HLn HH ⊢
  have HcvE := fun (u : World) => Lib.run_convert_string_bytes (P := Tryd.prog) u 9 24 5 ⟨#[46, 46]⟩ Tryd.underlying9 Tryd.underlying24 Tryd.underlying5
  clear hown hlen hn h12 hn2 hnc hd hL1 hL3 hl1 hl2 hl3 hN h6 h7 hB hgw
  go_enter Tryd.func81, Tryd.ntmps81
  go_wp2_with fail
  refine (HP0 _ HO.out).out.mono ?_
  rintro e9 y1 ⟨rfl, ho5, hg5⟩
  have HO1 := hide ho5
  have HC1 := hide (Chg.of_grown hg5)
  clear ho5 hg5
  go_wp2_with fail
  refine (HP1 _ HO1.out).out.mono ?_
  rintro e9 y2 ⟨rfl, ho5, hg5⟩
  have HO2 := hide ho5
  have HC2 := hide (HC1.out.trans (Chg.of_grown hg5))
  clear ho5 hg5
  have s6 := HO2.out.cell HLn.out.symm (off + 6) HH.out.1
  have f6 := HO2.out.free HLn.out.symm (off + 6)
  have HS6 := hide (HO2.out.set HLn.out.symm (off + 6) 2)
  have hl4 : (L1.set (off + 6) 2).length = N := by rw [List.length_set]; exact HLn.out
  have s7 := HS6.out.1.cell hl4.symm (off + 7) HH.out.2.1
  have f7 := HS6.out.1.free hl4.symm (off + 7)
  have HS7 := hide (HS6.out.1.set hl4.symm (off + 7) 2)
  have HC4 := hide (HC2.out.trans (Chg.of_grown (grown_trans HS6.out.2 HS7.out.2)))
  have HO4 := hide (show Own _ B (.slice (some ⟨g, 0, none⟩) N cap0) L3 by rw [HL3.out]; exact HS7.out.1)
  clear hl4
  have hsz : ((y2.setCell ⟨g, off + 6, none⟩ (.int .u8 2)).setCell ⟨g, off + 7, none⟩ (.int .u8 2)).heap.size = y2.heap.size := by simp [World.setCell]
  go_wp2_with fail
  have hly : Lies (Lib.bytesWorld ((y2.setCell ⟨g, off + 6, none⟩ (.int .u8 2)).setCell ⟨g, off + 7, none⟩ (.int .u8 2)) 5 ⟨#[46, 46]⟩) (some ⟨y2.heap.size, 0, none⟩) [46, 46] := by
    refine Lies.mk fun k hk => ?_
    have h := Lib.bytesWorld_cell ((y2.setCell ⟨g, off + 6, none⟩ (.int .u8 2)).setCell ⟨g, off + 7, none⟩ (.int .u8 2)) 5 ⟨#[46, 46]⟩ k hk
    rw [hsz] at h
    rw [Nat.zero_add, h]
    match k, hk with
    | 0, _ => rfl
    | 1, _ => rfl
    | k + 2, hk => exact absurd hk (by simp)
  have hbb := below_bytesWorld ((y2.setCell ⟨g, off + 6, none⟩ (.int .u8 2)).setCell ⟨g, off + 7, none⟩ (.int .u8 2)) 5 ⟨#[46, 46]⟩
  have HC5 := hide (HC4.out.trans (Chg.of_below hbb))
  refine (HPa _ _ _ (HO4.out.below hbb) hly).out.mono ?_
  rintro e9 y5 ⟨rfl, ho5, hg5⟩
  have HO5 := hide ho5
  have HC6 := hide (HC5.out.trans (Chg.of_grown hg5))
  clear ho5 hg5 hly hbb s6 f6 s7 f7
  go_wp2_with fail
  exact bodyPost_end (results_none rfl _ _ _) rfl ⟨rfl, HO5.out, HC6.out⟩

set_option maxHeartbeats 4000000 in
set_option maxRecDepth 100000 in
theorem putDots_ok (B g cap0 off cap : Nat) (l : List Int) (w : World) (hlen : l.length ≤ 1000000) (hn : off + 1024 ≤ l.length) (hnc : 1024 ≤ cap) (hB : B ≤ w.heap.size) (hown : Own w B (.slice (some ⟨g, 0, none⟩) l.length cap0) l) :
    Calls Tryd.prog 71 #[.slice (some ⟨g, off, none⟩) 1024 cap] w fun e w' => e = .returned (.tuple #[]) ∧ Own w' B (.slice (some ⟨g, 0, none⟩) l.length cap0) (dotB (dotB l off 12 [46]) (off + 12) 1012 [46, 46]) ∧ Chg (fun k => some k = some g) w w' := by
  have hl1 : (dotB l off 12 [46]).length = l.length := dotB_len _ _ _ _ (by simp; omega)
  have HP0 := hide (putDot_one B g cap0 off 12 cap l w hlen (by omega) (by omega) (by omega) (by omega) hB hown)
  have HP1 : ∀ u, B ≤ u.heap.size → Own u B (.slice (some ⟨g, 0, none⟩) l.length cap0) (dotB l off 12 [46]) → Hid (Calls Tryd.prog 81 #[.slice (some ⟨g, off + 12, none⟩) 1012 (cap - 12), .string ⟨#[46, 46]⟩] u fun e w' => e = .returned (.tuple #[]) ∧ Own w' B (.slice (some ⟨g, 0, none⟩) l.length cap0) (dotB (dotB l off 12 [46]) (off + 12) 1012 [46, 46]) ∧ Chg (fun k => some k = some g) u w') := fun u hb ho => hide (by
    have h := putDot_two B g cap0 (off + 12) 1012 (cap - 12) (dotB l off 12 [46]) u (by rw [hl1]; exact hlen) (by rw [hl1]; omega) (by omega) (by omega) (by omega) hb (by rw [hl1]; exact ho)
    rw [hl1] at h
    exact h)
  have HB := hide hB
  obtain ⟨N, hN⟩ : ∃ N, N = l.length := ⟨_, rfl⟩
  rw [← hN] at HP0 HP1 ⊢
  obtain ⟨L1, hL1⟩ : ∃ L1, L1 = dotB l off 12 [46] := ⟨_, rfl⟩
  have HL1 := hide hL1
  have q0 : (12 : Int) ≤ (cap : Int) := by omega
  clear hown hlen hn hN hl1 hL1 hB
  go_enter Tryd.func71, Tryd.ntmps71
  go_wp2_with fail
  refine HP0.out.mono ?_
  rintro e9 y1 ⟨rfl, ho5, hc5⟩
  have HP2 := HP1 _ (Nat.le_trans HB.out hc5.size) ho5
  have HC1 := hide hc5
  clear ho5 hc5
  go_wp2_with fail
  refine HP2.out.mono ?_
  rintro e9 y2 ⟨rfl, ho5, hc5⟩
  have HO2 := hide ho5
  have HC2 := hide (HC1.out.trans hc5)
  clear ho5 hc5
  go_wp2_with fail
  exact bodyPost_end (results_none rfl _ _ _) rfl ⟨rfl, HO2.out, HC2.out⟩

set_option maxHeartbeats 2000000 in
set_option maxRecDepth 100000 in
/-- A block of the bytes. -/
theorem block_ok (H g N cap : Nat) (n : Nat) (w : World) (hc : w.cell? ⟨H, 0, none⟩ = some (.slice (some ⟨g, 0, none⟩) N cap)) (hn : (n + 1) * 1024 ≤ N) (hN : N ≤ cap) (hcap : cap ≤ 100000000) :
    Calls Tryd.prog 69 #[.int .i64 (n : Int), .pointer (some ⟨H, 0, none⟩)] w fun e w' => e = .returned (.slice (some ⟨g, n * 1024, none⟩) 1024 (cap - n * 1024)) ∧ w' = w := by
  obtain ⟨p, hp⟩ : ∃ p, p = n * 1024 := ⟨_, rfl⟩
  have hw0 : IntKind.i64.wrap ((n : Int) * 1024) = (p : Int) := by rw [IntKind.wrap_i64]; omega
  have hw1 : IntKind.i64.wrap ((n : Int) + 1) = (n : Int) + 1 := by rw [IntKind.wrap_i64]; omega
  have hw2 : IntKind.i64.wrap (((n : Int) + 1) * 1024) = (p : Int) + 1024 := by rw [IntKind.wrap_i64]; omega
  have h1 : (p : Int) + 1024 ≤ (cap : Int) := by omega
  have h2 : (0 : Int) ≤ (p : Int) := by omega
  have h3 : (p : Int) ≤ (p : Int) + 1024 := by omega
  have hne : ¬ p = cap := by omega
  rw [← hp]
  clear hp hn hN hcap
  go_enter Tryd.func69, Tryd.ntmps69
  go_wp2_with fail
  go_ret
  refine ⟨?_, rfl⟩
  show Ending.returned (Value.slice (some ⟨g, p, none⟩) (p + 1024 - p) (cap - p)) = _
  rw [Nat.add_sub_cancel_left]
end Go.Proofs.YtjmajjfknmjifaaDoor.Oct
