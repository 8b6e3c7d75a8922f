/- The sums of paths' bytes: the two walks. -/
import Derived.Test.YtjpdfchdgphdoaaGreatDoorPQcc
import Derived.Test.YtjpdfchdgphdoaaGreatDoorPCrcPtsMore
namespace Go.Proofs.YtjpdfchdgphdoaaGreatDoor.Oct
open Go.RowKit

theorem pieceF_byts {d : List Int} (hd : Byts d) {x y : Int} {q : List Int} (h : pieceF d x y = .ok q) : Byts q := by
  unfold pieceF at h
  split at h
  · cases h; exact Byts.zeros _
  · split at h
    · cases h; exact (hd.drop _).take _
    · cases h

theorem rdsF_byts {d : List Int} (hd : Byts d) : ∀ (R : List (Int × Int)) (out o : List Int), Byts out → rdsF d R out = .ok o → Byts o
  | [], out, o, hb, h => by cases h; exact hb
  | p :: R, out, o, hb, h => by
    simp only [rdsF] at h
    cases hq : pieceF d p.1 p.2 with
    | error c => rw [hq] at h; cases h
    | ok q =>
      rw [hq] at h
      exact rdsF_byts hd R _ o (hb.append (pieceF_byts hd hq)) h

theorem contP_byts {d : List Int} (hd : Byts d) {z : Int} {R : List (Int × Int)} {o : List Int} (h : contP d z R = .ok o) : Byts o := by
  unfold contP at h
  cases ht : totZ z R with
  | none => rw [ht] at h; cases h
  | some s =>
    rw [ht] at h
    simp only at h
    cases hr : rdsF d R [] with
    | error c => rw [hr] at h; cases h
    | ok out =>
      rw [hr] at h
      simp only at h
      split at h
      · cases h
      · cases h
        exact rdsF_byts hd R [] o (fun k => by simp) hr

theorem contP_len {d : List Int} {z : Int} {R : List (Int × Int)} {o : List Int} (h : contP d z R = .ok o) : (o.length : Int) ≤ 16777216 := by
  rw [cont_eq] at h
  unfold contR at h
  split at h
  · cases h
  · rename_i hz
    have : ∀ (R : List (Int × Int)) (out : List Int), refF d z R out = .ok o → (o.length : Int) = z := by
      intro R
      induction R with
      | nil =>
        intro out h
        simp only [refF] at h
        split at h
        · cases h; assumption
        · cases h
      | cons p R ih =>
        intro out h
        simp only [refF] at h
        split at h
        · cases h
        · cases hq : pieceF d p.1 p.2 with
          | error c => rw [hq] at h; cases h
          | ok q => rw [hq] at h; exact ih _ h
    have := this R [] h
    omega

/-- A path's sum. -/
def sumF (d : List Int) (p : PT) : Except Int Int := if p.k = 1 then (match contP d p.z p.L with | .error c => .error c | .ok o => .ok ((moreC 0 o : Nat) : Int)) else .ok 0

/-- Sums, one by one, up to the first error. -/
def sumsF (d : List Int) : List PT → Except Int (List Int)
  | [] => .ok []
  | p :: L => match sumF d p with
    | .error c => .error c
    | .ok x => match sumsF d L with
      | .error c => .error c
      | .ok l => .ok (x :: l)

/-- A row of sums of the call's own. -/
def OwnU (w : World) (B : Nat) (v : Value) (l : List Int) : Prop := w.ownsRow B 49 1 v l.length (l.map (Value.int .u32))

theorem OwnU.below {w w' : World} {B : Nat} {v : Value} {l : List Int} (h : OwnU w B v l) (hb : Below w.heap.size w w') : OwnU w' B v l :=
  World.ownsRow.kept (row := none) h ⟨hb.os, hb.tape, hb.output, hb.size, fun k hk _ => hb.block k hk⟩ (by cases v.ownBlock <;> simp)

theorem OwnU.cell {w : World} {B g n cap : Nat} {l : List Int} (h : OwnU w B (.slice (some ⟨g, 0, none⟩) n cap) l) (j : Nat) (hj : j < l.length) :
    w.cell? ⟨g, j, none⟩ = some (.int .u32 (l.getD j 0)) := by
  have hcs := World.ownsRow.cells (g := g) h rfl
  have := hcs j (.int .u32 (l.getD j 0)) (by simp [hj])
  rw [Go.WideShapes.add_plain, Nat.zero_add] at this
  exact this

theorem OwnU.free {w : World} {B g n cap : Nat} {l : List Int} (h : OwnU w B (.slice (some ⟨g, 0, none⟩) n cap) l) (hn : n = l.length) (j : Nat) : w.frozen? ⟨g, j, none⟩ = false := by
  subst hn
  exact World.ownsRow.frozenAt h j

theorem OwnU.set {w : World} {B g n cap : Nat} {l : List Int} (h : OwnU w B (.slice (some ⟨g, 0, none⟩) n cap) l) (hn : n = l.length) (j : Nat) (x : Int) :
    OwnU (w.setCell ⟨g, j, none⟩ (.int .u32 x)) B (.slice (some ⟨g, 0, none⟩) n cap) (l.set j x) ∧ w.grownBy (w.setCell ⟨g, j, none⟩ (.int .u32 x)) (some g) := by
  subst hn
  have := World.ownsRow.stored h j (.int .u32 x)
  rw [show (l.map (Value.int .u32)).set j (.int .u32 x) = (l.set j x).map (Value.int .u32) from by rw [List.map_set]] at this
  refine ⟨?_, this.2⟩
  unfold OwnU
  rw [List.length_set]
  exact this.1

theorem info_u32 : (Tryz.prog.info? 49).map (fun i => (i.zero, i.size, i.bytes)) = some (some (.int .u32 0), 1, 4) := by kernel_rfl

theorem made_u32 (w : World) (n : Nat) (hn : n ≤ 100) : ∃ w', (Instr.makeSlice 46 (.int .i64 (n : Int)) (.int .i64 (n : Int))).run Tryz.prog w = .ok (.slice (some ⟨w.heap.size, 0, none⟩) n n) w' ∧ OwnU w' w.heap.size (.slice (some ⟨w.heap.size, 0, none⟩) n n) (List.replicate n 0) ∧ Below w.heap.size w w' := by
  obtain ⟨i, hi, hz0, hz1, hz2⟩ := info_parts info_u32
  obtain ⟨w', h1, h2, h3⟩ := run_make_full (P := Tryz.prog) (w := w) w.heap.size 46 49 i (.int .u32 0) 1 Tryz.underlying46 hi hz0 hz1 .i64 .i64 n (by rw [hz2]; omega) (by unfold maxLen; omega) (Nat.le_refl _)
  refine ⟨w', h1, ?_, ⟨h3.os, h3.tape, h3.output, h3.size, fun k hk => h3.block k hk (by simp)⟩⟩
  unfold OwnU
  have e : (madeCells (Value.int .u32 0).cells (n * 1)).toList = (List.replicate n (0 : Int)).map (Value.int .u32) := by
    simp [Value.cells]
    exact toList_madeCells_one _ _
  rw [e] at h2
  simpa using h2
end Go.Proofs.YtjpdfchdgphdoaaGreatDoor.Oct

namespace Go.Proofs.YtjpdfchdgphdoaaGreatDoor.Oct
open Go.RowKit

/-- What the document's Sum is. -/
def rsF (d : List Int) (p : PT) : Int := if p.k = 1 then (match contR d p.z p.L with | .error _ => 0 | .ok o => ((moreC 0 o : Nat) : Int)) else 0

set_option maxHeartbeats 4000000 in
set_option maxRecDepth 100000 in
theorem rsum_any (ad : Option Addr) (cap : Nat) (d : List Int) (s : ByteArray) (k z : Int) (a : Option Addr) (n c : Nat) (R : List (Int × Int)) (w : World) (hd : d.length ≤ 1000000) (hby : Byts d) (hs : Sl w ad cap d) (hn : n = R.length) (hR : LiesE w a R) (hN : NearC R) (hl20 : R.length ≤ 20) :
    Calls Tryz.prog 12 #[.slice ad d.length cap, .agg #[.string s, .int .i64 k, .int .i64 z, .slice a n c]] w fun e w' => e = .returned (.int .u32 (rsF d ⟨s, k, z, a, c, R⟩)) ∧ Below w.heap.size w w' := by
  obtain ⟨w1, hw1⟩ : ∃ w1, w1 = w.alloc (.cells #[.string s, .int .i64 k, .int .i64 z, .slice a n c] 42) := ⟨_, rfl⟩
  have hb1 : Below w.heap.size w w1 := by rw [hw1]; exact (Below.refl _ _).alloc (Nat.le_refl _) _
  have hk1 : Blk w1 w.heap.size #[.string s, .int .i64 k, .int .i64 z, .slice a n c] 42 := by rw [hw1]; exact Blk.new _ _ _
  have HC := hide (rcontent_any ad cap d s k z a n c R w1 hd (hs.below hb1) hn (hR.below hb1) hN hl20)
  have HI4 : Hid ((Tryz.prog.info? 42).map (·.size) = some 4) := hide (by kernel_rfl)
  have HK1' : Hid (Blk (w.alloc (.cells #[.string s, .int .i64 k, .int .i64 z, .slice a n c] 42)) w.heap.size #[.string s, .int .i64 k, .int .i64 z, .slice a n c] 42) := hide (Blk.new _ _ _)
  have HW1 := hide hw1
  have HB1 := hide hb1
  have HK1 := hide hk1
  have HBy := hide hby
  have HRs : Hid (rsF d ⟨s, k, z, a, c, R⟩ = if k = 1 then (match contR d z R with | .error _ => 0 | .ok o => ((moreC 0 o : Nat) : Int)) else 0) := hide rfl
  obtain ⟨D, hD⟩ : ∃ D, D = d.length := ⟨_, rfl⟩
  rw [← hD] at HC ⊢
  clear hw1 hb1 hk1 hR hN hn hl20 hs hd hD hby
  generalize rsF d ⟨s, k, z, a, c, R⟩ = rs at *
  go_enter Tryz.func12, Tryz.ntmps12
  go_wp2_with (refine wpList_at (.load 42 (.tmp 3)) rfl ?_; refine wpList_load_row rfl 42 (.tmp 3) rfl w.heap.size rfl 42 #[.string s, .int .i64 k, .int .i64 z, .slice a n c] (0, 0) _ HK1'.out Tryz.underlying42 rfl HI4.out ?_)
  rw [← HW1.out]
  refine HC.out.mono ?_
  rintro e9 w2 ⟨h2, hb2⟩
  have hk2 := HK1.out.below hb2
  have y1 : w2.cell? ⟨w.heap.size, 1, none⟩ = some (.int .i64 k) := hk2.cell 1 _ rfl
  have HB2 := hide (HB1.out.trans (hb2.mono HB1.out.size))
  clear hb2 hk2
  rcases h2 with ⟨q, v, hq, rfl, av, cv, rfl, hlv, _⟩ | ⟨ce, hce, hne, rfl⟩
  · by_cases hk1 : k = 1
    · have hE : rs = ((moreC 0 q : Nat) : Int) := by rw [HRs.out, if_pos hk1, hq]
      rw [← cont_eq] at hq
      have hql := contP_len hq
      have HF := hide (Fast_any av cv q w2 (by unfold maxLen; omega) (contP_byts HBy.out hq) hlv)
      subst hk1
      rw [← hE] at HF
      obtain ⟨m, hm⟩ : ∃ m, m = q.length := ⟨_, rfl⟩
      rw [← hm] at HF ⊢
      clear hq hql hlv hm HRs hE
      go_wp2_with fail
      refine HF.out.mono ?_
      rintro e9 w3 ⟨rfl, h3⟩
      rw [h3]
      clear h3
      go_wp2_with fail
      go_ret
      exact ⟨rfl, HB2.out⟩
    · have hE : rs = 0 := by rw [HRs.out, if_neg hk1]
      subst hE
      obtain ⟨m, hm⟩ : ∃ m, m = q.length := ⟨_, rfl⟩
      rw [← hm]
      clear hq hlv hm HRs
      go_wp2_with fail
      go_ret
      exact ⟨rfl, HB2.out⟩
  · by_cases hk1 : k = 1
    · have hE : rs = 0 := by rw [HRs.out, if_pos hk1, hce]
      have HF := hide (Fast_any none 0 [] w2 (by simp) (fun j => by simp) (Or.inl rfl))
      rw [moreC_nil] at HF
      subst hk1
      subst hE
      clear hce hne HRs
      go_wp2_with fail
      refine HF.out.mono ?_
      rintro e9 w3 ⟨rfl, h3⟩
      rw [h3]
      clear h3
      go_wp2_with fail
      go_ret
      exact ⟨rfl, HB2.out⟩
    · have hE : rs = 0 := by rw [HRs.out, if_neg hk1]
      subst hE
      clear hce hne HRs
      go_wp2_with fail
      go_ret
      exact ⟨rfl, HB2.out⟩

theorem setU {S : List Int} {j n : Nat} (hS : S.length = j) (hj : j < n) (x : Int) : (S ++ List.replicate (n - j) 0).set j x = (S ++ [x]) ++ List.replicate (n - (j + 1)) 0 := by
  subst hS
  rw [show n - S.length = (n - (S.length + 1)) + 1 by omega, List.replicate_succ]
  simp

theorem skipU {S : List Int} {j n : Nat} (hj : j < n) : S ++ List.replicate (n - j) (0 : Int) = (S ++ [0]) ++ List.replicate (n - (j + 1)) 0 := by
  rw [show n - j = (n - (j + 1)) + 1 by omega, List.replicate_succ]
  simp

theorem drop_consT (L : List PT) (k : Nat) (hk : k < L.length) : L.drop k = L.getD k PT.nil :: L.drop (k + 1) := by
  rw [List.drop_eq_getElem_cons hk, List.getD_eq_getElem?_getD, List.getElem?_eq_getElem hk]
  rfl

/-- What the sums so far come to. -/
def goesU (d : List Int) (L : List PT) (S : List Int) : Except Int (List Int) := match sumsF d L with
  | .error c => .error c
  | .ok l => .ok (S ++ l)

theorem goesU_step {d : List Int} {L : List PT} {j : Nat} (hj : j < L.length) {S : List Int} {x : Int} (hx : sumF d (L.getD j PT.nil) = .ok x) : goesU d (L.drop j) S = goesU d (L.drop (j + 1)) (S ++ [x]) := by
  unfold goesU
  rw [drop_consT L j hj]
  simp only [sumsF, hx]
  cases sumsF d (L.drop (j + 1)) <;> simp

theorem goesU_err {d : List Int} {L : List PT} {j : Nat} (hj : j < L.length) {S : List Int} {c : Int} (hx : sumF d (L.getD j PT.nil) = .error c) : goesU d (L.drop j) S = .error c := by
  unfold goesU
  rw [drop_consT L j hj]
  simp only [sumsF, hx]

/-- How Sums ends. -/
def EndU (r : Except Int (List Int)) (n : Nat) (e : Ending) (w' : World) : Prop :=
  (∃ l B g, r = .ok l ∧ l.length = n ∧ e = .returned (.tuple #[.slice (some ⟨g, 0, none⟩) n n, .int .i64 0]) ∧ OwnU w' B (.slice (some ⟨g, 0, none⟩) n n) l) ∨ (∃ c, r = .error c ∧ ¬ c = 0 ∧ e = .returned (.tuple #[.slice none 0 0, .int .i64 c]))

set_option maxHeartbeats 16000000 in
set_option maxRecDepth 100000 in
theorem sums_any (ad : Option Addr) (cap : Nat) (d : List Int) (a : Option Addr) (ca n : Nat) (L : List PT) (w : World) (hd : d.length ≤ 1000000) (hby : Byts d) (hs : Sl w ad cap d) (hn : n = L.length) (hL : LiesT w a L) (hN : ∀ r ∈ L, NearC (PT.L r) ∧ (PT.L r).length ≤ 20) (h10 : L.length ≤ 10) :
    Calls Tryz.prog 11 #[(.iface 33 (.slice ad d.length cap)), .slice a n ca] w fun e w' => EndU (sumsF d L) n e w' ∧ Below w.heap.size w w' := by
  have HCt : ∀ u s k z a' m c R, Below w.heap.size w u → m = R.length → LiesE u a' R → NearC R → R.length ≤ 20 → Hid (Calls Tryz.prog 9 #[(.iface 33 (.slice ad d.length cap)), .agg #[.string s, .int .i64 k, .int .i64 z, .slice a' m c]] u fun e w' => EndS (contP d z R) e w' ∧ Below u.heap.size u w') := fun u s k z a' m c R hu hm hl hN2 h20 => hide (content_any ad cap d s k z a' m c R u hd hs.le hs.none (hs.lies.below hu) hm hl hN2 h20)
  obtain ⟨w1, hmk, ho1, hb1⟩ := made_u32 w n (by omega)
  have HO1 := hide ho1
  have HB1 := hide hb1
  have HL := hide hL
  have HN := hide hN
  have HBy := hide hby
  have HLn := hide (show n ≤ L.length ∧ L.length ≤ n ∧ n ≤ 10 by omega)
  obtain ⟨dv, hdv⟩ : ∃ dv, dv = Value.slice ad d.length cap := ⟨_, rfl⟩
  rw [← hdv] at HCt ⊢
  have HI4 : Hid ((Tryz.prog.info? 42).map (·.size) = some 4) := hide (by kernel_rfl)
  clear ho1 hb1 hL hN hby hn h10 hd hs hdv
  go_enter Tryz.func11, Tryz.ntmps11
  go_wp2_with fail
  go_loopw [16] (fun i wr => ∃ (j : Nat) (S : List Int), j ≤ n ∧ i = .int .i64 (j : Int) ∧ S.length = j ∧ OwnU wr w.heap.size (.slice (some ⟨w.heap.size, 0, none⟩) n n) (S ++ List.replicate (n - j) 0) ∧ sumsF d L = goesU d (L.drop j) S ∧ Below w.heap.size w wr ∧ w.heap.size < wr.heap.size) (fun i _ => n - (intOf i).toNat)
  case atStart => exact ⟨0, [], by omega, rfl, rfl, by simpa using HO1.out, by unfold goesU; simp; cases sumsF d L <;> rfl, HB1.out, by
    have := ownsRow_lt HO1.out w.heap.size rfl
    exact this⟩
  case round =>
    obtain ⟨j, S, hj, rfl, hSj, ho, hgo, hbr, hsz⟩ := hrel
    have HO := hide ho
    have HG := hide hgo
    have HBr := hide hbr
    have HSj := hide hSj
    have HSz := hide hsz
    clear ho hgo hbr hSj hsz
    by_cases hlt : j < n
    · have hjL : j < L.length := by have := HLn.out; omega
      rcases HL.out.below HBr.out with hE | ⟨b, off, rfl, hblt, hc⟩
      · rw [hE] at hjL; simp at hjL
      obtain ⟨⟨q0, q1, q2, q3⟩, q4⟩ := hc j hjL
      obtain ⟨hnr, hnl⟩ := HN.out (L.getD j PT.nil) (by rw [List.getD_eq_getElem?_getD, List.getElem?_eq_getElem hjL]; exact List.getElem_mem _)
      have HSt : Hid (∀ x, sumF d (L.getD j PT.nil) = .ok x → sumsF d L = goesU d (L.drop (j + 1)) (S ++ [x])) := hide (fun x hx => by rw [HG.out, goesU_step hjL hx])
      have HEr : Hid (∀ c, sumF d (L.getD j PT.nil) = .error c → sumsF d L = .error c) := hide (fun x hx => by rw [HG.out, goesU_err hjL hx])
      clear hc hjL
      generalize L.getD j PT.nil = r at *
      obtain ⟨rs, rk, rz, ra, rc, rL⟩ := r
      dsimp only at q0 q1 q2 q3 q4 hnr hnl HSt HEr
      obtain ⟨m, hm⟩ : ∃ m, m = rL.length := ⟨_, rfl⟩
      rw [← hm] at q3
      obtain ⟨w2, hw2⟩ : ∃ w2, w2 = wr.alloc (.cells #[.string rs, .int .i64 rk, .int .i64 rz, .slice ra m rc] 42) := ⟨_, rfl⟩
      have hb2 : Below wr.heap.size wr w2 := by rw [hw2]; exact (Below.refl _ _).alloc (Nat.le_refl _) _
      have hx2 : Blk w2 wr.heap.size #[.string rs, .int .i64 rk, .int .i64 rz, .slice ra m rc] 42 := by rw [hw2]; exact Blk.new _ _ _
      have k1 : (wr.alloc (.cells #[.string rs, .int .i64 rk, .int .i64 rz, .slice ra m rc] 42)).cell? ⟨wr.heap.size, 1, none⟩ = some (.int .i64 rk) := by rw [← hw2]; exact hx2.cell 1 _ rfl
      have HX2' : Hid (Blk (wr.alloc (.cells #[.string rs, .int .i64 rk, .int .i64 rz, .slice ra m rc] 42)) wr.heap.size #[.string rs, .int .i64 rk, .int .i64 rz, .slice ra m rc] 42) := hide (by rw [← hw2]; exact hx2)
      have HB2 := hide (HBr.out.trans (hb2.mono HBr.out.size))
      have HO2 := hide (HO.out.below hb2)
      have HW2 := hide hw2
      have HCx := HCt w2 rs rk rz ra m rc rL HB2.out hm (q4.below hb2) hnr hnl
      have hj0 : (0 : Int) ≤ (j : Int) := by omega
      have hj1 : (j : Int) < (n : Int) := by omega
      have hj3 : (n : Int) ≤ 10 := by have := HLn.out; omega
      have HLt := hide hlt
      have HZ2 := hide (Nat.lt_of_lt_of_le HSz.out hb2.size)
      clear hb2 hx2 hw2 hlt hnr hnl q4 hm
      by_cases hk1 : rk = 1
      · subst hk1
        go_wp2_with (refine wpList_at (.load 42 (.tmp 8)) rfl ?_; refine wpList_load_row rfl 42 (.tmp 8) rfl wr.heap.size rfl 42 #[.string rs, .int .i64 1, .int .i64 rz, .slice ra m rc] (0, 0) _ HX2'.out Tryz.underlying42 rfl HI4.out ?_)
        rw [← HW2.out]
        refine HCx.out.mono ?_
        rintro e9 w3 ⟨h3, hb3⟩
        have HB3 := hide (HB2.out.trans (hb3.mono HB2.out.size))
        have HO3 := hide (HO2.out.below hb3)
        have HZ3 := hide (Nat.lt_of_lt_of_le HZ2.out hb3.size)
        clear hb3
        rcases h3 with ⟨q, av, cv, hq, rfl, hsv⟩ | ⟨ce, hce, hne, rfl⟩
        · have HSt2 : Hid (sumsF d L = goesU d (L.drop (j + 1)) (S ++ [((moreC 0 q : Nat) : Int)])) := hide (HSt.out _ (by unfold sumF; rw [if_pos rfl]; simp only [hq]))
          have hql := contP_len hq
          obtain ⟨p, hp⟩ : ∃ p, p = q.length := ⟨_, rfl⟩
          have HSm := hide (Sum_one' av p cv q w3 w3.heap.size rfl hp (by unfold maxLen; omega) (contP_byts HBy.out hq) hsv)
          rw [← hp]
          obtain ⟨ms, hms⟩ : ∃ ms, ms = ((moreC 0 q : Nat) : Int) := ⟨_, rfl⟩
          rw [← hms] at HSm HSt2
          clear hq hql hp hsv hms
          go_wp2_with fail
          refine HSm.out.mono ?_
          rintro e9 w4 ⟨rfl, hb4⟩
          have HB4 := hide (HB3.out.trans (hb4.mono HB3.out.size))
          have ho4 := HO3.out.below hb4
          have hlen : n = (S ++ List.replicate (n - j) (0 : Int)).length := by have := HSj.out; have := HLt.out; simp; omega
          have z0 : w4.cell? ⟨w.heap.size, j, none⟩ = some (.int .u32 ((S ++ List.replicate (n - j) (0 : Int)).getD j 0)) := ho4.cell j (by rw [← hlen]; exact HLt.out)
          have f0 := ho4.free hlen j
          obtain ⟨h5, h6⟩ := ho4.set hlen j ms
          rw [setU HSj.out HLt.out ms] at h5
          have HO5 := hide h5
          have HB5 := hide (HB4.out.trans (Chg.below w.heap.size (Chg.of_grown h6) HB4.out.size (fun i hi e => by cases e; omega)))
          have HZ5 := hide (show w.heap.size < (w4.setCell ⟨w.heap.size, j, none⟩ (.int .u32 ms)).heap.size from Nat.lt_of_lt_of_le (Nat.lt_of_lt_of_le HZ3.out hb4.size) h6.size)
          generalize (S ++ List.replicate (n - j) (0 : Int)).getD j 0 = old at z0
          clear hb4 ho4 hlen h5 h6
          go_wp2_with fail
          go_roundw
          case rel => exact ⟨j + 1, S ++ [ms], by have := HLt.out; omega, by go_num, by simp [HSj.out], HO5.out, HSt2.out, HB5.out, HZ5.out⟩
          case measure => have := HLt.out; simp [intOf]; omega
        · have HEr2 : Hid (sumsF d L = .error ce) := hide (HEr.out _ (by unfold sumF; rw [if_pos rfl]; simp only [hce]))
          have HNe := hide hne
          have hne2 : ¬ ce = 0 := hne
          clear hce hne
          go_wp2_with fail
          go_ret2
          exact ⟨Or.inr ⟨ce, HEr2.out, HNe.out, rfl⟩, HB3.out⟩
      · have HSt2 : Hid (sumsF d L = goesU d (L.drop (j + 1)) (S ++ [0])) := hide (HSt.out _ (by unfold sumF; rw [if_neg hk1]))
        have HO5 : Hid (OwnU w2 w.heap.size (.slice (some ⟨w.heap.size, 0, none⟩) n n) ((S ++ [0]) ++ List.replicate (n - (j + 1)) 0)) := hide (by rw [← skipU HLt.out]; exact HO2.out)
        go_wp2_with fail
        rw [← HW2.out]
        go_roundw
        case rel => exact ⟨j + 1, S ++ [0], by have := HLt.out; omega, by go_num, by simp [HSj.out], HO5.out, HSt2.out, HB2.out, HZ2.out⟩
        case measure => have := HLt.out; simp [intOf]; omega
    · obtain rfl : j = n := by omega
      have HR : Hid (sumsF d L = .ok S) := hide (by rw [HG.out, List.drop_of_length_le (by have := HLn.out; omega)]; unfold goesU; simp [sumsF])
      go_wp2_with fail
      go_ret2
      exact ⟨Or.inl ⟨S, w.heap.size, w.heap.size, HR.out, HSj.out, rfl, by simpa using HO.out⟩, HBr.out⟩
end Go.Proofs.YtjpdfchdgphdoaaGreatDoor.Oct
