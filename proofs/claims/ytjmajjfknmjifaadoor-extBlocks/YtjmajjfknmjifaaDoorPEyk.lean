/- What an inode says: ParseInode. -/
import Derived.Test.YtjmajjfknmjifaaDoorPEyj
namespace Go.Proofs.YtjmajjfknmjifaaDoor.Oct
open Go.RowKit

theorem wpList_built {P : Program} {ops : Array Oper} {rest : List Oper} {o : Oper} {a : Act} {w : World} {Q : Exit → Act → World → Prop} (hg : o.guard = none) (t : TypeId) (parts : Array (Nat × Operand)) (ho : o.op = .build t parts) (vs : List (Nat × Value)) (hv : (parts.map fun (i, x) => (i, a.eval x)).toList = vs) (cells : Array Value) (hb : P.built t vs = some cells)
    (h : wpList P ops Q rest (a.put o.dst (.agg cells)) w) : wpList P ops Q (o :: rest) a w := by
  refine wpList_build hg t parts ho (by rw [hv, hb]; rfl) ?_
  rw [hv, hb]
  exact h

theorem wpList_at {P : Program} {ops : Array Oper} {rest : List Oper} {o : Oper} {a : Act} {w : World} {Q : Exit → Act → World → Prop} (op : Op) (_ : o.op = op) (h : wpList P ops Q (o :: rest) a w) : wpList P ops Q (o :: rest) a w := h

theorem setrow_blk {u : World} {R : Nat} {old cs : Array Value} {t : TypeId} (h : Blk u R old t) : Blk (u.setRow R cs) R cs t := setRow_heap _ _ old _ t (0, 0) h
theorem setrow_below {R : Nat} {w u : World} {cs : Array Value} (h : Below w.heap.size w u) (hR : w.heap.size ≤ R) : Below w.heap.size w (u.setRow R cs) :=
  h.trans (Chg.below w.heap.size (X := fun i => i = R) (show Chg (fun i => i = R) u (u.setRow R cs) from ⟨rfl, rfl, rfl, by simp, fun k _ hk => setRow_other _ _ k _ hk⟩) h.size (fun i hi => by omega))

/-- An inode: three numbers and fifteen. -/
structure Ind where
  mode : Int
  size : Int
  cnt : Int
  ats : List Int

def Ind.cs (n : Ind) : Array Value := (.int .i64 n.mode :: .int .i64 n.size :: .int .i64 n.cnt :: n.ats.map (Value.int .i64)).toArray
def Ind.z : Ind := ⟨0, 0, 0, List.replicate 15 0⟩

/-- The first so many of the fifteen. -/
def atsL (l : List Int) (j : Nat) : List Int := (List.range 15).map fun i => if i < j then num l (40 + 4 * i) 4 else 0
def inOf (l : List Int) : Ind := ⟨num l 0 2, num l 4 4, num l 28 4, atsL l 15⟩
def inE (l : List Int) (p : Int) : Ind × Int := if 0 ≤ p ∧ 128 ≤ (l.length : Int) - p then (inOf ((l.drop p.toNat).take 128), 0) else (Ind.z, 4)

theorem atsL_len (l : List Int) (j : Nat) : (atsL l j).length = 15 := by simp [atsL]
theorem atsL_zero (l : List Int) : atsL l 0 = List.replicate 15 0 := by simp [atsL]; decide
theorem atsL_get (l : List Int) (j i : Nat) (hi : i < 15) : (atsL l j).getD i 0 = if i < j then num l (40 + 4 * i) 4 else 0 := by
  simp [atsL, List.getD, hi]
theorem atsL_set (l : List Int) (j : Nat) (hj : j < 15) : (atsL l j).set j (num l (40 + 4 * j) 4) = atsL l (j + 1) := by
  apply List.ext_getElem?
  intro i
  unfold atsL
  simp only [List.getElem?_set, List.getElem?_map, List.length_map, List.length_range]
  by_cases hi : i < 15
  · rw [List.getElem?_range hi]
    by_cases e : j = i
    · subst e
      simp [hj]
    · simp [e]
      by_cases h2 : i < j
      · rw [if_pos h2, if_pos (by omega)]
      · rw [if_neg h2, if_neg (by omega)]
  · have : (List.range 15)[i]? = none := by simp; omega
    simp [this]
    intro e
    omega

theorem Ind.size_cs (m s c : Int) (f : List Int) (h : f.length = 15) : (Ind.cs ⟨m, s, c, f⟩).size = 18 := by simp [Ind.cs, h]
theorem Ind.cell_cs (m s c : Int) (f : List Int) (j : Nat) (hj : j < f.length) : (Ind.cs ⟨m, s, c, f⟩)[3 + j]? = some (.int .i64 (f.getD j 0)) := by
  unfold Ind.cs
  simp [Nat.add_comm 3 j, hj, List.getD]
theorem Ind.set_cs (m s c : Int) (f : List Int) (j : Nat) (v : Int) : (Ind.cs ⟨m, s, c, f⟩).setIfInBounds (3 + j) (.int .i64 v) = Ind.cs ⟨m, s, c, f.set j v⟩ := by
  unfold Ind.cs
  simp [Nat.add_comm 3 j, List.map_set]
theorem Ind.one_cs (m s c : Int) (f : List Int) : (Ind.cs ⟨m, s, c, f⟩).all (·.oneCell') = true := by
  unfold Ind.cs
  simp [Value.oneCell']

theorem ret_ind {fn : Func} {p u : Tmp} (hr : fn.results = #[.cell p 47, .tmp u]) (tmps : Array Value) (w : World) (R : Nat) (cs : Array Value) (z : Value)
    (hp : tmps.getD p undef = .pointer (some ⟨R, 0, none⟩)) (hz : tmps.getD u undef = z) (hs : Blk w R cs 47) (hc : cs.size = 18) :
    (results fn tmps).run Tryd.prog w = .ok (.tuple #[.agg cs, z]) w := by
  rw [results_cell_tmp hr, hp, hz]
  simp only [asAddr, Sem.run_pure, Result.andThen_ok]
  rw [run_loadVar_row w R 47 47 _ (0, 0) _ hs Tryd.underlying47 rfl (by rw [hc]; kernel_rfl)]
  rfl

set_option maxHeartbeats 8000000 in
set_option maxRecDepth 100000 in
theorem einode_any (a : Option Addr) (cap : Nat) (l : List Int) (p : Int) (w : World) (hlen : l.length ≤ 1000000) (hb : Byts l) (hs : Sl w a cap l) (hp : p ≤ 9223372036854775807) (hp2 : -9223372036854775808 ≤ p) :
    Calls Tryd.prog 17 #[.slice a l.length cap, .int .i64 p] w fun e w' => e = .returned (.tuple #[.agg (inE l p).1.cs, .int .i64 (inE l p).2]) ∧ Below w.heap.size w w' := by
  obtain ⟨w1, hw1⟩ : ∃ w1, w1 = w.alloc (.cells #[.int .i64 0, .int .i64 0, .int .i64 0, .int .i64 0, .int .i64 0, .int .i64 0, .int .i64 0, .int .i64 0, .int .i64 0, .int .i64 0, .int .i64 0, .int .i64 0, .int .i64 0, .int .i64 0, .int .i64 0, .int .i64 0, .int .i64 0, .int .i64 0] 47) := ⟨_, rfl⟩
  have hb1 : Below w.heap.size w w1 := by rw [hw1]; exact (Below.refl _ _).alloc (Nat.le_refl _) _
  have hk1 : Blk w1 w.heap.size #[.int .i64 0, .int .i64 0, .int .i64 0, .int .i64 0, .int .i64 0, .int .i64 0, .int .i64 0, .int .i64 0, .int .i64 0, .int .i64 0, .int .i64 0, .int .i64 0, .int .i64 0, .int .i64 0, .int .i64 0, .int .i64 0, .int .i64 0, .int .i64 0] 47 := by rw [hw1]; exact Blk.new _ _ _
  by_cases h5 : 0 ≤ p ∧ 128 ≤ (l.length : Int) - p
  · obtain ⟨q, rfl⟩ : ∃ q : Nat, p = q := ⟨p.toNat, by omega⟩
    have HE := hide (show inE l (q : Int) = (inOf ((l.drop q).take 128), 0) from by unfold inE; rw [if_pos h5]; rfl)
    have HSl := hide (Slice_yes a cap l q 128 w1 hlen (hs.below hb1) (by omega))
    have hL : ((l.drop q).take 128).length = 128 := by simp; omega
    have hby : Byts ((l.drop q).take 128) := (hb.drop _).take _
    have HB1 := hide hb1
    have HK1 := hide hk1
    have HW1 := hide hw1
    obtain ⟨pc, hpc⟩ : ∃ pc, pc = inE l (q : Int) := ⟨_, rfl⟩
    rw [← hpc] at HE ⊢
    obtain ⟨m, hm⟩ : ∃ m, m = (l.drop q).take 128 := ⟨_, rfl⟩
    rw [← hm] at HE HSl hL hby
    obtain ⟨n, hn⟩ : ∃ n, n = l.length := ⟨_, rfl⟩
    rw [← hn] at HSl ⊢
    obtain ⟨P, hP⟩ : ∃ P : Int, P = (q : Int) := ⟨_, rfl⟩
    rw [← hP] at HSl ⊢
    push_cast at HSl
    have HL := hide hL
    have HY := hide hby
    clear hP hn hm hpc hb1 hk1 hw1 hL hby h5 hlen hb hs hp hp2
    go_enter Tryd.func17, Tryd.ntmps17
    go_wp2_with fail
    rw [← HW1.out]
    refine HSl.out.mono ?_
    rintro e9 w2 ⟨v2, rfl, ho2, h2⟩
    obtain ⟨a2, c2, rfl, hs2, hne2⟩ := ho2.sl
    rw [HL.out]
    have G16 := fun (p : Nat) (hp : p + 2 ≤ 128) (u : World) (hu : Below w2.heap.size w2 u) => hide (eget16_any a2 c2 m p u (by rw [HL.out]; unfold maxLen; omega) HY.out (hs2.lies.below hu) (by rw [HL.out]; exact hp))
    have G32 := fun (p : Nat) (hp : p + 4 ≤ 128) (u : World) (hu : Below w2.heap.size w2 u) => hide (eget32_any a2 c2 m p u (by rw [HL.out]; unfold maxLen; omega) HY.out (hs2.lies.below hu) (by rw [HL.out]; exact hp))
    rw [HL.out] at G16 G32
    have HG0 := G16 0 (by omega) w2 (Below.refl _ _)
    have HG4 := G32 4 (by omega) w2 (Below.refl _ _)
    have HG28 := G32 28 (by omega) w2 (Below.refl _ _)
    push_cast at HG0 HG4 HG28
    have HG := hide G32
    have HK2 := hide (HK1.out.below h2)
    have HB2 := hide (HB1.out.trans (h2.mono HB1.out.size))
    unfold inOf at HE
    clear G16 G32 ho2 h2 hs2 hne2 HL HY HK1 HB1 HSl
    generalize num m 0 2 = v0 at *
    generalize num m 4 4 = v4 at *
    generalize num m 28 4 = v28 at *
    go_wp2_with fail
    refine HG0.out.mono ?_
    rintro e9 w3 ⟨rfl, h3⟩
    rw [h3]
    clear h3
    go_wp2_with fail
    refine HG4.out.mono ?_
    rintro e9 w3 ⟨rfl, h3⟩
    rw [h3]
    clear h3
    go_wp2_with fail
    refine HG28.out.mono ?_
    rintro e9 w3 ⟨rfl, h3⟩
    rw [h3]
    clear h3 HG0 HG4 HG28
    obtain ⟨w3, hw3⟩ : ∃ w3, w3 = (w2.alloc (.cells #[.int .i64 0, .int .i64 0, .int .i64 0, .int .i64 0, .int .i64 0, .int .i64 0, .int .i64 0, .int .i64 0, .int .i64 0, .int .i64 0, .int .i64 0, .int .i64 0, .int .i64 0, .int .i64 0, .int .i64 0, .int .i64 0, .int .i64 0, .int .i64 0] 47)).setRow w2.heap.size #[.int .i64 v0, .int .i64 v4, .int .i64 v28, .int .i64 0, .int .i64 0, .int .i64 0, .int .i64 0, .int .i64 0, .int .i64 0, .int .i64 0, .int .i64 0, .int .i64 0, .int .i64 0, .int .i64 0, .int .i64 0, .int .i64 0, .int .i64 0, .int .i64 0] := ⟨_, rfl⟩
    have HZ3 := hide (Blk.new w2 #[.int .i64 0, .int .i64 0, .int .i64 0, .int .i64 0, .int .i64 0, .int .i64 0, .int .i64 0, .int .i64 0, .int .i64 0, .int .i64 0, .int .i64 0, .int .i64 0, .int .i64 0, .int .i64 0, .int .i64 0, .int .i64 0, .int .i64 0, .int .i64 0] 47)
    have HV3 := hide (show Blk w3 w2.heap.size (Ind.cs ⟨v0, v4, v28, atsL m 0⟩) 47 by rw [hw3, atsL_zero]; exact setrow_blk (Blk.new w2 #[.int .i64 0, .int .i64 0, .int .i64 0, .int .i64 0, .int .i64 0, .int .i64 0, .int .i64 0, .int .i64 0, .int .i64 0, .int .i64 0, .int .i64 0, .int .i64 0, .int .i64 0, .int .i64 0, .int .i64 0, .int .i64 0, .int .i64 0, .int .i64 0] 47))
    have hb3 : Below w2.heap.size w2 w3 := by rw [hw3]; exact setrow_below ((Below.refl _ _).alloc (Nat.le_refl _) _) (Nat.le_refl _)
    have HK3 := hide (HK2.out.below hb3)
    have HS3 := hide hb3
    have HB3 := hide (HB2.out.trans (hb3.mono HB2.out.size))
    have HW3 := hide hw3
    have HBu : Hid (Tryd.prog.built 47 [(0, .int .i64 v0), (1, .int .i64 v4), (2, .int .i64 v28)] = some #[.int .i64 v0, .int .i64 v4, .int .i64 v28, .int .i64 0, .int .i64 0, .int .i64 0, .int .i64 0, .int .i64 0, .int .i64 0, .int .i64 0, .int .i64 0, .int .i64 0, .int .i64 0, .int .i64 0, .int .i64 0, .int .i64 0, .int .i64 0, .int .i64 0]) := hide (by kernel_rfl)
    have H1c : Hid ((#[.int .i64 v0, .int .i64 v4, .int .i64 v28, .int .i64 0, .int .i64 0, .int .i64 0, .int .i64 0, .int .i64 0, .int .i64 0, .int .i64 0, .int .i64 0, .int .i64 0, .int .i64 0, .int .i64 0, .int .i64 0, .int .i64 0, .int .i64 0, .int .i64 0] : Array Value).all (·.oneCell') = true) := hide (by simp [Value.oneCell'])
    have H1i : Hid ((Tryd.prog.info? 47).map (·.size) = some (#[.int .i64 v0, .int .i64 v4, .int .i64 v28, .int .i64 0, .int .i64 0, .int .i64 0, .int .i64 0, .int .i64 0, .int .i64 0, .int .i64 0, .int .i64 0, .int .i64 0, .int .i64 0, .int .i64 0, .int .i64 0, .int .i64 0, .int .i64 0, .int .i64 0] : Array Value).size) := hide (by kernel_rfl)
    clear hb3 hw3
    go_wp2_with (first | (refine wpList_at (.build 47 #[(0, .tmp 19), (1, .tmp 21), (2, .tmp 23)]) rfl ?_; refine wpList_built rfl 47 #[(0, .tmp 19), (1, .tmp 21), (2, .tmp 23)] rfl _ rfl _ HBu.out ?_) | (refine wpList_at (.store 47 (.tmp 7) (.tmp 24)) rfl ?_; refine wpList_store_row rfl 47 (.tmp 7) (.tmp 24) rfl w2.heap.size #[.int .i64 v0, .int .i64 v4, .int .i64 v28, .int .i64 0, .int .i64 0, .int .i64 0, .int .i64 0, .int .i64 0, .int .i64 0, .int .i64 0, .int .i64 0, .int .i64 0, .int .i64 0, .int .i64 0, .int .i64 0, .int .i64 0, .int .i64 0, .int .i64 0] rfl rfl 47 (#[.int .i64 0, .int .i64 0, .int .i64 0, .int .i64 0, .int .i64 0, .int .i64 0, .int .i64 0, .int .i64 0, .int .i64 0, .int .i64 0, .int .i64 0, .int .i64 0, .int .i64 0, .int .i64 0, .int .i64 0, .int .i64 0, .int .i64 0, .int .i64 0] : Array Value) HZ3.out H1i.out (by simp) H1c.out ?_))
    rw [← HW3.out]
    have HN2 := hide (HK2.out.lt)
    clear HBu H1c HZ3 HW3 HK2 HB2
    go_loopw [25] (fun i wr => ∃ j : Nat, j ≤ 15 ∧ i = .int .i64 (j : Int) ∧ Blk wr w2.heap.size (Ind.cs ⟨v0, v4, v28, atsL m j⟩) 47 ∧ Blk wr w.heap.size #[.int .i64 0, .int .i64 0, .int .i64 0, .int .i64 0, .int .i64 0, .int .i64 0, .int .i64 0, .int .i64 0, .int .i64 0, .int .i64 0, .int .i64 0, .int .i64 0, .int .i64 0, .int .i64 0, .int .i64 0, .int .i64 0, .int .i64 0, .int .i64 0] 47 ∧ Below w2.heap.size w2 wr ∧ Below w.heap.size w wr) (fun i _ => 15 - (intOf i).toNat)
    case atStart => exact ⟨0, by omega, rfl, HV3.out, HK3.out, HS3.out, HB3.out⟩
    case round =>
      obtain ⟨j, hj, rfl, hv, hk, hbr, hb0⟩ := hrel
      by_cases hlt : j < 15
      · have hcell : wr.cell? ⟨w2.heap.size, 3 + j, none⟩ = some (.int .i64 0) := by
          rw [hv.cell (3 + j) _ (Ind.cell_cs _ _ _ _ j (by rw [atsL_len]; exact hlt)), atsL_get _ _ _ hlt, if_neg (Nat.lt_irrefl j)]
        have hfr := hv.frozen (3 + j)
        have HGj := HG.out (40 + 4 * j) (by omega) wr hbr
        rw [show (((40 + 4 * j : Nat)) : Int) = 40 + (j : Int) * 4 by omega] at HGj
        have HV := hide hv
        have HK := hide hk
        have HBr := hide hbr
        have HB0 := hide hb0
        have HX : Hid (num m (40 + 4 * j) 4 = num m (40 + 4 * j) 4) := hide rfl
        obtain ⟨x, hx⟩ : ∃ x, x = num m (40 + 4 * j) 4 := ⟨_, rfl⟩
        rw [← hx] at HGj
        have HXx := hide hx
        clear hv hk hbr hb0 hx HX
        go_wp2_with fail
        refine HGj.out.mono ?_
        rintro e9 w4 ⟨rfl, h4⟩
        rw [h4]
        clear h4
        go_wp2_with fail
        go_roundw
        case rel =>
          refine ⟨j + 1, by omega, by go_num, ?_, HK.out.other (by have := HN2.out; omega) _ _, (HBr.out.setCell (p := ⟨w2.heap.size, 3 + j, none⟩) (Nat.le_refl _) _), (HB0.out.setCell (p := ⟨w2.heap.size, 3 + j, none⟩) (by have := HN2.out; exact Nat.le_of_lt this) _)⟩
          have h9 := HV.out.set (3 + j) (.int .i64 x)
          rw [Ind.set_cs, HXx.out, atsL_set m j hlt, ← HXx.out] at h9
          exact h9
        case measure => simp [intOf]; omega
      · obtain rfl : j = 15 := by omega
        have HV := hide hv
        have HK := hide hk
        have HB0 := hide hb0
        have H2i : Hid ((Tryd.prog.info? 47).map (·.size) = some (Ind.cs ⟨v0, v4, v28, atsL m 15⟩).size) := hide (by rw [Ind.size_cs _ _ _ _ (atsL_len _ _)]; kernel_rfl)
        have H2s : Hid ((#[.int .i64 0, .int .i64 0, .int .i64 0, .int .i64 0, .int .i64 0, .int .i64 0, .int .i64 0, .int .i64 0, .int .i64 0, .int .i64 0, .int .i64 0, .int .i64 0, .int .i64 0, .int .i64 0, .int .i64 0, .int .i64 0, .int .i64 0, .int .i64 0] : Array Value).size = (Ind.cs ⟨v0, v4, v28, atsL m 15⟩).size) := hide (by rw [Ind.size_cs _ _ _ _ (atsL_len _ _)]; rfl)
        have H2c : Hid ((Ind.cs ⟨v0, v4, v28, atsL m 15⟩).all (·.oneCell') = true) := hide (Ind.one_cs _ _ _ _)
        have HC := hide (Ind.size_cs v0 v4 v28 _ (atsL_len m 15))
        clear hv hk hbr hb0
        obtain ⟨cs, hcs⟩ : ∃ cs, cs = Ind.cs ⟨v0, v4, v28, atsL m 15⟩ := ⟨_, rfl⟩
        rw [← hcs] at HV H2i H2s H2c HC
        have HE2 := hide (show pc.1.cs = cs ∧ pc.2 = 0 by rw [HE.out]; exact ⟨hcs.symm, rfl⟩)
        clear hcs HE
        go_wp2_with (first | (refine wpList_at (.load 47 (.tmp 7)) rfl ?_; refine wpList_load_row rfl 47 (.tmp 7) rfl w2.heap.size rfl 47 cs (0, 0) _ HV.out Tryd.underlying47 rfl H2i.out ?_) | (refine wpList_at (.store 47 (.tmp 4) (.tmp 37)) rfl ?_; refine wpList_store_row rfl 47 (.tmp 4) (.tmp 37) rfl w.heap.size cs rfl rfl 47 (#[.int .i64 0, .int .i64 0, .int .i64 0, .int .i64 0, .int .i64 0, .int .i64 0, .int .i64 0, .int .i64 0, .int .i64 0, .int .i64 0, .int .i64 0, .int .i64 0, .int .i64 0, .int .i64 0, .int .i64 0, .int .i64 0, .int .i64 0, .int .i64 0] : Array Value) HK.out H2i.out H2s.out H2c.out ?_))
        exact bodyPost_ret (ret_ind rfl _ _ w.heap.size cs _ rfl rfl (setrow_blk HK.out) HC.out) rfl ⟨by rw [HE2.out.1, HE2.out.2]; rfl, setrow_below HB0.out (Nat.le_refl _)⟩
  · have HE := hide (show inE l p = (Ind.z, 4) from by unfold inE; rw [if_neg h5])
    have HSl := hide (Slice_no a l.length cap p 128 w1 (by unfold maxLen; omega) hp hp2 (fun c => h5 ⟨c.1, c.2.2⟩))
    have HB1 := hide hb1
    have HK1 := hide hk1
    have HW1 := hide hw1
    obtain ⟨pc, hpc⟩ : ∃ pc, pc = inE l p := ⟨_, rfl⟩
    rw [← hpc] at HE ⊢
    obtain ⟨n, hn⟩ : ∃ n, n = l.length := ⟨_, rfl⟩
    rw [← hn] at HSl ⊢
    clear hn hpc hb1 hk1 hw1 h5 hlen hb hs hp hp2
    have HBu : Hid (Tryd.prog.built 47 [] = some #[.int .i64 0, .int .i64 0, .int .i64 0, .int .i64 0, .int .i64 0, .int .i64 0, .int .i64 0, .int .i64 0, .int .i64 0, .int .i64 0, .int .i64 0, .int .i64 0, .int .i64 0, .int .i64 0, .int .i64 0, .int .i64 0, .int .i64 0, .int .i64 0]) := hide (by kernel_rfl)
    have H1c : Hid ((#[.int .i64 0, .int .i64 0, .int .i64 0, .int .i64 0, .int .i64 0, .int .i64 0, .int .i64 0, .int .i64 0, .int .i64 0, .int .i64 0, .int .i64 0, .int .i64 0, .int .i64 0, .int .i64 0, .int .i64 0, .int .i64 0, .int .i64 0, .int .i64 0] : Array Value).all (·.oneCell') = true) := hide (by simp [Value.oneCell'])
    have H1i : Hid ((Tryd.prog.info? 47).map (·.size) = some (#[.int .i64 0, .int .i64 0, .int .i64 0, .int .i64 0, .int .i64 0, .int .i64 0, .int .i64 0, .int .i64 0, .int .i64 0, .int .i64 0, .int .i64 0, .int .i64 0, .int .i64 0, .int .i64 0, .int .i64 0, .int .i64 0, .int .i64 0, .int .i64 0] : Array Value).size) := hide (by kernel_rfl)
    go_enter Tryd.func17, Tryd.ntmps17
    go_wp2_with fail
    rw [← HW1.out]
    refine HSl.out.mono ?_
    rintro e9 w2 ⟨rfl, h2⟩
    rw [h2]
    clear h2
    go_wp2_with (first | (refine wpList_at (.build 47 #[]) rfl ?_; refine wpList_built rfl 47 #[] rfl _ rfl _ HBu.out ?_) | (refine wpList_at (.store 47 (.tmp 4) (.tmp 17)) rfl ?_; refine wpList_store_row rfl 47 (.tmp 4) (.tmp 17) rfl w.heap.size (#[.int .i64 0, .int .i64 0, .int .i64 0, .int .i64 0, .int .i64 0, .int .i64 0, .int .i64 0, .int .i64 0, .int .i64 0, .int .i64 0, .int .i64 0, .int .i64 0, .int .i64 0, .int .i64 0, .int .i64 0, .int .i64 0, .int .i64 0, .int .i64 0] : Array Value) rfl rfl 47 (#[.int .i64 0, .int .i64 0, .int .i64 0, .int .i64 0, .int .i64 0, .int .i64 0, .int .i64 0, .int .i64 0, .int .i64 0, .int .i64 0, .int .i64 0, .int .i64 0, .int .i64 0, .int .i64 0, .int .i64 0, .int .i64 0, .int .i64 0, .int .i64 0] : Array Value) HK1.out H1i.out rfl H1c.out ?_))
    exact bodyPost_ret (ret_ind rfl _ _ w.heap.size (#[.int .i64 0, .int .i64 0, .int .i64 0, .int .i64 0, .int .i64 0, .int .i64 0, .int .i64 0, .int .i64 0, .int .i64 0, .int .i64 0, .int .i64 0, .int .i64 0, .int .i64 0, .int .i64 0, .int .i64 0, .int .i64 0, .int .i64 0, .int .i64 0] : Array Value) _ rfl rfl (setrow_blk HK1.out) rfl) rfl ⟨by rw [HE.out]; rfl, setrow_below HB1.out (Nat.le_refl _)⟩

end Go.Proofs.YtjmajjfknmjifaaDoor.Oct
