/- What a group's row says: ParseRow. -/
import Derived.Test.YtjmajjfknmjifaaDoorPEyi
import Derived.Test.YtjmajjfknmjifaaDoorPLowLst
namespace Go.Proofs.YtjmajjfknmjifaaDoor.Oct
open Go.RowKit

/-- A group's row: six numbers. -/
structure Rw where
  blo : Int
  ino : Int
  tab : Int
  fb : Int
  fi : Int
  fo : Int
deriving DecidableEq

def Rw.cs (r : Rw) : Array Value := #[.int .i64 r.blo, .int .i64 r.ino, .int .i64 r.tab, .int .i64 r.fb, .int .i64 r.fi, .int .i64 r.fo]
def Rw.z : Rw := ⟨0, 0, 0, 0, 0, 0⟩

/-- What 32 bytes say, and what ParseRow answers. -/
def rwOf (l : List Int) : Rw := ⟨num l 0 4, num l 4 4, num l 8 4, num l 12 2, num l 14 2, num l 16 2⟩
def rwE (l : List Int) (p : Int) : Rw × Int := if 0 ≤ p ∧ 32 ≤ (l.length : Int) - p then (rwOf ((l.drop p.toNat).take 32), 0) else (Rw.z, 4)

theorem ret_rw {fn : Func} {p u : Tmp} (hr : fn.results = #[.cell p 41, .tmp u]) (tmps : Array Value) (w : World) (R : Nat) (s : Rw) (z : Value)
    (hp : tmps.getD p undef = .pointer (some ⟨R, 0, none⟩)) (hz : tmps.getD u undef = z) (hs : Blk w R s.cs 41) :
    (results fn tmps).run Tryd.prog w = .ok (.tuple #[.agg s.cs, z]) w := by
  rw [results_cell_tmp hr, hp, hz]
  simp only [asAddr, Sem.run_pure, Result.andThen_ok]
  rw [run_loadVar_row w R 41 41 _ (0, 0) _ hs Tryd.underlying41 rfl (by kernel_rfl)]
  rfl

theorem blk6e {u : World} {R : Nat} {t : TypeId} {x0 x1 x2 x3 x4 x5 : Value} (h : Blk u R #[x0, x1, x2, x3, x4, x5] t) (v0 v1 v2 v3 v4 v5 : Value) :
    Blk ((((((u.setCell ⟨R, 0, none⟩ v0).setCell ⟨R, 1, none⟩ v1).setCell ⟨R, 2, none⟩ v2).setCell ⟨R, 3, none⟩ v3).setCell ⟨R, 4, none⟩ v4).setCell ⟨R, 5, none⟩ v5) R #[v0, v1, v2, v3, v4, v5] t := by
  have h0 : Blk (u.setCell ⟨R, 0, none⟩ v0) R #[v0, x1, x2, x3, x4, x5] t := h.set 0 v0
  have h1 : Blk ((u.setCell ⟨R, 0, none⟩ v0).setCell ⟨R, 1, none⟩ v1) R #[v0, v1, x2, x3, x4, x5] t := h0.set 1 v1
  have h2 : Blk (((u.setCell ⟨R, 0, none⟩ v0).setCell ⟨R, 1, none⟩ v1).setCell ⟨R, 2, none⟩ v2) R #[v0, v1, v2, x3, x4, x5] t := h1.set 2 v2
  have h3 : Blk ((((u.setCell ⟨R, 0, none⟩ v0).setCell ⟨R, 1, none⟩ v1).setCell ⟨R, 2, none⟩ v2).setCell ⟨R, 3, none⟩ v3) R #[v0, v1, v2, v3, x4, x5] t := h2.set 3 v3
  have h4 : Blk (((((u.setCell ⟨R, 0, none⟩ v0).setCell ⟨R, 1, none⟩ v1).setCell ⟨R, 2, none⟩ v2).setCell ⟨R, 3, none⟩ v3).setCell ⟨R, 4, none⟩ v4) R #[v0, v1, v2, v3, v4, x5] t := h3.set 4 v4
  have h5 : Blk ((((((u.setCell ⟨R, 0, none⟩ v0).setCell ⟨R, 1, none⟩ v1).setCell ⟨R, 2, none⟩ v2).setCell ⟨R, 3, none⟩ v3).setCell ⟨R, 4, none⟩ v4).setCell ⟨R, 5, none⟩ v5) R #[v0, v1, v2, v3, v4, v5] t := h4.set 5 v5
  exact h5

theorem below6e {n R : Nat} {w u : World} (h : Below n w u) (hR : n ≤ R) (v0 v1 v2 v3 v4 v5 : Value) :
    Below n w ((((((u.setCell ⟨R, 0, none⟩ v0).setCell ⟨R, 1, none⟩ v1).setCell ⟨R, 2, none⟩ v2).setCell ⟨R, 3, none⟩ v3).setCell ⟨R, 4, none⟩ v4).setCell ⟨R, 5, none⟩ v5) :=
  (((((h.setCell (p := ⟨R, 0, none⟩) hR v0).setCell (p := ⟨R, 1, none⟩) hR v1).setCell (p := ⟨R, 2, none⟩) hR v2).setCell (p := ⟨R, 3, none⟩) hR v3).setCell (p := ⟨R, 4, none⟩) hR v4).setCell (p := ⟨R, 5, none⟩) hR v5

set_option maxHeartbeats 8000000 in
set_option maxRecDepth 100000 in
theorem eprow_any (a : Option Addr) (cap : Nat) (l : List Int) (p : Int) (w : World) (hlen : l.length ≤ 1000000) (hb : Byts l) (hs : Sl w a cap l) (hp : p ≤ 9223372036854775807) (hp2 : -9223372036854775808 ≤ p) :
    Calls Tryd.prog 16 #[.slice a l.length cap, .int .i64 p] w fun e w' => e = .returned (.tuple #[.agg (rwE l p).1.cs, .int .i64 (rwE l p).2]) ∧ Below w.heap.size w w' := by
  obtain ⟨w1, hw1⟩ : ∃ w1, w1 = w.alloc (.cells #[.int .i64 0, .int .i64 0, .int .i64 0, .int .i64 0, .int .i64 0, .int .i64 0] 41) := ⟨_, rfl⟩
  have hb1 : Below w.heap.size w w1 := by rw [hw1]; exact (Below.refl _ _).alloc (Nat.le_refl _) _
  have hk1 : Blk w1 w.heap.size #[.int .i64 0, .int .i64 0, .int .i64 0, .int .i64 0, .int .i64 0, .int .i64 0] 41 := by rw [hw1]; exact Blk.new _ _ _
  by_cases h5 : 0 ≤ p ∧ 32 ≤ (l.length : Int) - p
  · obtain ⟨q, rfl⟩ : ∃ q : Nat, p = q := ⟨p.toNat, by omega⟩
    have HE := hide (show rwE l (q : Int) = (rwOf ((l.drop q).take 32), 0) from by unfold rwE; rw [if_pos h5]; rfl)
    have HSl := hide (Slice_yes a cap l q 32 w1 hlen (hs.below hb1) (by omega))
    have hL : ((l.drop q).take 32).length = 32 := by simp; omega
    have hby : Byts ((l.drop q).take 32) := (hb.drop _).take _
    have HB1 := hide hb1
    have HK1 := hide hk1
    have HW1 := hide hw1
    obtain ⟨pc, hpc⟩ : ∃ pc, pc = rwE l (q : Int) := ⟨_, rfl⟩
    rw [← hpc] at HE ⊢
    obtain ⟨m, hm⟩ : ∃ m, m = (l.drop q).take 32 := ⟨_, rfl⟩
    rw [← hm] at HE HSl hL hby
    obtain ⟨n, hn⟩ : ∃ n, n = l.length := ⟨_, rfl⟩
    rw [← hn] at HSl ⊢
    obtain ⟨P, hP⟩ : ∃ P : Int, P = (q : Int) := ⟨_, rfl⟩
    rw [← hP] at HSl ⊢
    push_cast at HSl
    have HL := hide hL
    have HY := hide hby
    clear hP hn hm hpc hb1 hk1 hw1 hL hby h5 hlen hb hs hp hp2
    go_enter Tryd.func16, Tryd.ntmps16
    go_wp2_with fail
    rw [← HW1.out]
    refine HSl.out.mono ?_
    rintro e9 w2 ⟨v2, rfl, ho2, h2⟩
    obtain ⟨a2, c2, rfl, hs2, hne2⟩ := ho2.sl
    rw [HL.out]
    have g16 := fun (p : Nat) (hp : p + 2 ≤ m.length) => hide (eget16_any a2 c2 m p w2 (by rw [HL.out]; unfold maxLen; omega) HY.out hs2.lies hp)
    have g32 := fun (p : Nat) (hp : p + 4 ≤ m.length) => hide (eget32_any a2 c2 m p w2 (by rw [HL.out]; unfold maxLen; omega) HY.out hs2.lies hp)
    rw [HL.out] at g16 g32
    have HG0 := g32 0 (by omega)
    push_cast at HG0
    have HG4 := g32 4 (by omega)
    push_cast at HG4
    have HG8 := g32 8 (by omega)
    push_cast at HG8
    have HG12 := g16 12 (by omega)
    push_cast at HG12
    have HG14 := g16 14 (by omega)
    push_cast at HG14
    have HG16 := g16 16 (by omega)
    push_cast at HG16
    have HK2 := hide (HK1.out.below h2)
    have HB2 := hide (HB1.out.trans (h2.mono HB1.out.size))
    unfold rwOf at HE
    clear g16 g32 ho2 h2 hs2 hne2 HL HY
    generalize num m 0 4 = v0 at *
    generalize num m 4 4 = v4 at *
    generalize num m 8 4 = v8 at *
    generalize num m 12 2 = v12 at *
    generalize num m 14 2 = v14 at *
    generalize num m 16 2 = v16 at *
    have z0 := HK2.out.cell 0 _ rfl
    have z1 := HK2.out.cell 1 _ rfl
    have z2 := HK2.out.cell 2 _ rfl
    have z3 := HK2.out.cell 3 _ rfl
    have z4 := HK2.out.cell 4 _ rfl
    have z5 := HK2.out.cell 5 _ rfl
    have f0 := HK2.out.frozen 0
    have f1 := HK2.out.frozen 1
    have f2 := HK2.out.frozen 2
    have f3 := HK2.out.frozen 3
    have f4 := HK2.out.frozen 4
    have f5 := HK2.out.frozen 5
    go_wp2_with fail
    refine HG0.out.mono ?_
    rintro e9 w3 ⟨rfl, h3⟩
    rw [h3]
    clear h3
    go_wp2_with fail
    refine HG4.out.mono ?_
    rintro e9 w3 ⟨rfl, h3⟩
    rw [h3]
    clear h3
    go_wp2_with fail
    refine HG8.out.mono ?_
    rintro e9 w3 ⟨rfl, h3⟩
    rw [h3]
    clear h3
    go_wp2_with fail
    refine HG12.out.mono ?_
    rintro e9 w3 ⟨rfl, h3⟩
    rw [h3]
    clear h3
    go_wp2_with fail
    refine HG14.out.mono ?_
    rintro e9 w3 ⟨rfl, h3⟩
    rw [h3]
    clear h3
    go_wp2_with fail
    refine HG16.out.mono ?_
    rintro e9 w3 ⟨rfl, h3⟩
    rw [h3]
    clear h3
    go_wp2_with fail
    obtain ⟨w9, hw9⟩ : ∃ w9, w9 = ((((((w2.setCell ⟨w.heap.size, 0, none⟩ (.int .i64 v0)).setCell ⟨w.heap.size, 1, none⟩ (.int .i64 v4)).setCell ⟨w.heap.size, 2, none⟩ (.int .i64 v8)).setCell ⟨w.heap.size, 3, none⟩ (.int .i64 v12)).setCell ⟨w.heap.size, 4, none⟩ (.int .i64 v14)).setCell ⟨w.heap.size, 5, none⟩ (.int .i64 v16)) := ⟨_, rfl⟩
    have hk9 : Blk w9 w.heap.size (Rw.mk v0 v4 v8 v12 v14 v16).cs 41 := by rw [hw9]; exact blk6e HK2.out (.int .i64 v0) (.int .i64 v4) (.int .i64 v8) (.int .i64 v12) (.int .i64 v14) (.int .i64 v16)
    have hb9 : Below w.heap.size w w9 := by rw [hw9]; exact below6e HB2.out (Nat.le_refl _) (.int .i64 v0) (.int .i64 v4) (.int .i64 v8) (.int .i64 v12) (.int .i64 v14) (.int .i64 v16)
    rw [← hw9]
    exact bodyPost_ret (ret_rw rfl _ _ w.heap.size (Rw.mk v0 v4 v8 v12 v14 v16) _ rfl rfl hk9) rfl ⟨by rw [HE.out]; rfl, hb9⟩
  · have HE := hide (show rwE l p = (Rw.z, 4) from by unfold rwE; rw [if_neg h5])
    have HSl := hide (Slice_no a l.length cap p 32 w1 (by unfold maxLen; omega) hp hp2 (fun c => h5 ⟨c.1, c.2.2⟩))
    have HB1 := hide hb1
    have HK1 := hide hk1
    have HW1 := hide hw1
    obtain ⟨pc, hpc⟩ : ∃ pc, pc = rwE l p := ⟨_, rfl⟩
    rw [← hpc] at HE ⊢
    obtain ⟨n, hn⟩ : ∃ n, n = l.length := ⟨_, rfl⟩
    rw [← hn] at HSl ⊢
    clear hn hpc hb1 hk1 hw1 h5 hlen hb hs hp hp2
    go_enter Tryd.func16, Tryd.ntmps16
    go_wp2_with fail
    rw [← HW1.out]
    refine HSl.out.mono ?_
    rintro e9 w2 ⟨rfl, h2⟩
    rw [h2]
    clear h2
    have z0 := HK1.out.cell 0 _ rfl
    have z1 := HK1.out.cell 1 _ rfl
    have z2 := HK1.out.cell 2 _ rfl
    have z3 := HK1.out.cell 3 _ rfl
    have z4 := HK1.out.cell 4 _ rfl
    have z5 := HK1.out.cell 5 _ rfl
    have f0 := HK1.out.frozen 0
    have f1 := HK1.out.frozen 1
    have f2 := HK1.out.frozen 2
    have f3 := HK1.out.frozen 3
    have f4 := HK1.out.frozen 4
    have f5 := HK1.out.frozen 5
    go_wp2_with fail
    obtain ⟨w9, hw9⟩ : ∃ w9, w9 = ((((((w1.setCell ⟨w.heap.size, 0, none⟩ (.int .i64 0)).setCell ⟨w.heap.size, 1, none⟩ (.int .i64 0)).setCell ⟨w.heap.size, 2, none⟩ (.int .i64 0)).setCell ⟨w.heap.size, 3, none⟩ (.int .i64 0)).setCell ⟨w.heap.size, 4, none⟩ (.int .i64 0)).setCell ⟨w.heap.size, 5, none⟩ (.int .i64 0)) := ⟨_, rfl⟩
    have hk9 : Blk w9 w.heap.size (Rw.z).cs 41 := by rw [hw9]; exact blk6e HK1.out (.int .i64 0) (.int .i64 0) (.int .i64 0) (.int .i64 0) (.int .i64 0) (.int .i64 0)
    have hb9 : Below w.heap.size w w9 := by rw [hw9]; exact below6e HB1.out (Nat.le_refl _) (.int .i64 0) (.int .i64 0) (.int .i64 0) (.int .i64 0) (.int .i64 0) (.int .i64 0)
    rw [← hw9]
    exact bodyPost_ret (ret_rw rfl _ _ w.heap.size (Rw.z) _ rfl rfl hk9) rfl ⟨by rw [HE.out]; rfl, hb9⟩
end Go.Proofs.YtjmajjfknmjifaaDoor.Oct
