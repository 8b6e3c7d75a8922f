/- A path's bytes, on its partition: Content. -/
import Derived.Test.YtjpdfchdgphdoaaGreatDoorPQca
import Derived.Laws.MakeOwn
namespace Go.Proofs.YtjpdfchdgphdoaaGreatDoor.Oct
open Go.RowKit

/-- How a call that answers bytes, or an error, ends. -/
def EndB (r : Except Int (List Int)) (e : Ending) (w' : World) : Prop :=
  (∃ q v, r = .ok q ∧ e = .returned (.tuple #[v, .int .i64 0]) ∧ Fresh w' v q) ∨ (∃ c, r = .error c ∧ ¬ c = 0 ∧ e = .returned (.tuple #[.slice none 0 0, .int .i64 c]))

set_option maxHeartbeats 4000000 in
set_option maxRecDepth 100000 in
theorem bytes15_any (a : Option Addr) (cap : Nat) (d : List Int) (x y : Int) (w : World) (hd : d.length ≤ 1000000) (hcap : d.length ≤ cap) (hno : a = none → cap = 0) (hl : Lies w a d) (hx : -5000 ≤ x ∧ x ≤ 100000) (hy : -5000 ≤ y ∧ y ≤ 100000) (hxy : x ≤ y) :
    Calls Tryz.prog 21 #[.iface 33 (.slice a d.length cap), .agg #[.int .i64 x, .int .i64 y]] w fun e w' => EndB (pieceF d x y) e w' ∧ Below w.heap.size w w' := by
  obtain ⟨w1, hw1⟩ : ∃ w1, w1 = w.alloc (.cells #[.int .i64 x, .int .i64 y] 24) := ⟨_, rfl⟩
  have hb1 : Below w.heap.size w w1 := by rw [hw1]; exact (Below.refl _ _).alloc (Nat.le_refl _) _
  have hk1 : Blk w1 w.heap.size #[.int .i64 x, .int .i64 y] 24 := by rw [hw1]; exact Blk.new _ _ _
  have c0 : (w.alloc (.cells #[.int .i64 x, .int .i64 y] 24)).cell? ⟨w.heap.size, 0, none⟩ = some (.int .i64 x) := by rw [← hw1]; exact hk1.cell 0 _ rfl
  have c1 : (w.alloc (.cells #[.int .i64 x, .int .i64 y] 24)).cell? ⟨w.heap.size, 1, none⟩ = some (.int .i64 y) := by rw [← hw1]; exact hk1.cell 1 _ rfl
  have HB1 := hide hb1
  have HW1 := hide hw1
  have hw : IntKind.i64.wrap (y - x) = y - x := by rw [IntKind.wrap_i64]; omega
  obtain ⟨k, hk⟩ : ∃ k : Nat, y - x = (k : Int) := ⟨(y - x).toNat, by omega⟩
  by_cases h0 : x < 0
  · have hmk := run_make_bytes w1 k (by omega)
    have HO := hide (Own.made w1 k (by unfold maxLen; omega))
    have HP : Hid (pieceF d x y = .ok (List.replicate k 0)) := hide (by unfold pieceF; rw [if_pos h0, hk]; simp)
    have HB2 := hide (HB1.out.alloc HB1.out.size (.cells (madeCells #[.int .u8 0] k) 5))
    rw [hw1] at hmk
    have hw2 : IntKind.i64.wrap (y - x) = (k : Int) := by rw [hw, hk]
    clear hl hcap hno hd hx hy hxy hk1 hb1 hw1 hk hw
    go_enter Tryz.func21, Tryz.ntmps21
    go_wp2_with fail
    rw [← HW1.out]
    go_ret2
    obtain ⟨a9, c9, he, hl9, _, hc9, _⟩ := HO.out.form
    simp only [List.length_replicate] at he hc9
    cases he
    exact ⟨Or.inl ⟨_, _, HP.out, rfl, ⟨some ⟨w1.heap.size, 0, none⟩, k, by rw [List.length_replicate, HW1.out]; simp, hl9, by simp⟩⟩, HB2.out⟩
  · have HR := hide (pread_any a cap d x (y - x) w1 (by omega) hcap hno (hl.below hb1) (by omega))
    have HP : Hid (pieceF d x y = if y ≤ d.length then .ok ((d.drop x.toNat).take (y - x).toNat) else .error 4) := hide (by unfold pieceF; rw [if_neg h0])
    have HX := hide (And.intro hx (And.intro hy hxy))
    rw [hw1] at HR
    obtain ⟨n, hn⟩ : ∃ n, n = d.length := ⟨_, rfl⟩
    rw [← hn] at HR ⊢
    have HN := hide hn
    clear hl hcap hno hd hx hy hxy hk1 hb1 hw1 hn hk
    go_enter Tryz.func21, Tryz.ntmps21
    go_wp2_with fail
    refine HR.out.mono ?_
    rw [← HW1.out]
    rintro e9 w2 ⟨h2, hb2⟩
    have HB2 := hide (HB1.out.trans (hb2.mono HB1.out.size))
    rcases h2 with ⟨hk2, v, rfl, hf⟩ | ⟨hk2, rfl⟩
    · have HP2 : Hid (pieceF d x y = .ok ((d.drop x.toNat).take (y - x).toNat)) := hide (by
        have := lackN_false hk2
        rw [HP.out, if_pos (by omega)])
      have HF := hide hf
      clear hk2 hf hb2
      go_wp2_with fail
      go_ret2
      exact ⟨Or.inl ⟨_, _, HP2.out, rfl, HF.out⟩, HB2.out⟩
    · have HP2 : Hid (pieceF d x y = .error 4) := hide (by
        rw [HP.out, if_neg]
        intro h
        unfold lackN at hk2
        simp at hk2
        have := HX.out
        omega)
      clear hk2 hb2
      go_wp2_with fail
      go_ret2
      exact ⟨Or.inr ⟨4, HP2.out, by decide, rfl⟩, HB2.out⟩

/-- The same, of a slice as Go has it. -/
def EndS (r : Except Int (List Int)) (e : Ending) (w' : World) : Prop :=
  (∃ q a c, r = .ok q ∧ e = .returned (.tuple #[.slice a q.length c, .int .i64 0]) ∧ Sl w' a c q) ∨ (∃ c, r = .error c ∧ ¬ c = 0 ∧ e = .returned (.tuple #[.slice none 0 0, .int .i64 c]))

theorem pieceF_le {d : List Int} {x y : Int} {q : List Int} (h : pieceF d x y = .ok q) (hx : -5000 ≤ x ∧ x ≤ 100000) (hy : -5000 ≤ y ∧ y ≤ 100000) : q.length ≤ 105000 := by
  unfold pieceF at h
  split at h
  · cases h; simp; omega
  · split at h
    · cases h; simp; omega
    · cases h

theorem totF_rise {z : Int} : ∀ (R : List (Int × Int)) (s t : Int), totF z s R = some t → ∀ p ∈ R, p.1 ≤ p.2
  | [], s, t, h, p, hp => by cases hp
  | q :: R, s, t, h, p, hp => by
    simp only [totF] at h
    split at h
    · cases h
    · rcases List.mem_cons.1 hp with rfl | hp
      · omega
      · exact totF_rise R _ t h p hp

set_option maxHeartbeats 8000000 in
set_option maxRecDepth 100000 in
theorem content_any (ad : Option Addr) (cap : Nat) (d : List Int) (s : ByteArray) (k z : Int) (a : Option Addr) (n c : Nat) (R : List (Int × Int)) (w : World) (hd : d.length ≤ 1000000) (hcap : d.length ≤ cap) (hno : ad = none → cap = 0) (hl : Lies w ad d) (hn : n = R.length) (hR : LiesE w a R) (hN : NearC R) (hl20 : R.length ≤ 20) :
    Calls Tryz.prog 9 #[(.iface 33 (.slice ad d.length cap)), .agg #[.string s, .int .i64 k, .int .i64 z, .slice a n c]] w fun e w' => EndS (contP d z R) e w' ∧ Below w.heap.size w w' := by
  obtain ⟨w1, hw1⟩ : ∃ w1, w1 = w.alloc (.cells #[.string s, .int .i64 k, .int .i64 z, .slice a n c] 42) := ⟨_, rfl⟩
  have hb1 : Below w.heap.size w w1 := by rw [hw1]; exact (Below.refl _ _).alloc (Nat.le_refl _) _
  have hk1 : Blk w1 w.heap.size #[.string s, .int .i64 k, .int .i64 z, .slice a n c] 42 := by rw [hw1]; exact Blk.new _ _ _
  have HT := hide (total_any s k z a n c R w1 hn (hR.below hb1) hN hl20)
  have HBy : ∀ u x y, Below w1.heap.size w1 u → -5000 ≤ x ∧ x ≤ 100000 → -5000 ≤ y ∧ y ≤ 100000 → x ≤ y → Hid (Calls Tryz.prog 21 #[(.iface 33 (.slice ad d.length cap)), .agg #[.int .i64 x, .int .i64 y]] u fun e w' => EndB (pieceF d x y) e w' ∧ Below u.heap.size u w') := fun u x y hu hx hy hxy => hide (bytes15_any ad cap d x y u hd hcap hno ((hl.below hb1).below hu) hx hy hxy)
  have hnil : ∀ (u : World) (v : Value), (binOp .eql 29 (.iface 33 v) .nilIface).run Tryz.prog u = .ok (.bool false) u := fun u v => by rfl
  have HI4 : Hid ((Tryz.prog.info? 42).map (·.size) = some 4) := hide (by kernel_rfl)
  have HK1' : Hid (Blk (w.alloc (.cells #[.string s, .int .i64 k, .int .i64 z, .slice a n c] 42)) w.heap.size #[.string s, .int .i64 k, .int .i64 z, .slice a n c] 42) := hide (Blk.new _ _ _)
  have HW1 := hide hw1
  have HB1 := hide hb1
  have HK1 := hide hk1
  have HR := hide (hR.below hb1)
  have HN := hide hN
  have HL := hide (show n ≤ R.length ∧ R.length ≤ n ∧ n ≤ 20 by omega)
  obtain ⟨dv, hdv⟩ : ∃ dv, dv = Value.slice ad d.length cap := ⟨_, rfl⟩
  rw [← hdv] at HBy ⊢
  clear hw1 hb1 hk1 hR hN hn hl hd hcap hno hl20 hdv
  go_enter Tryz.func9, Tryz.ntmps9
  go_wp2_with (refine wpList_at (.load 42 (.tmp 3)) rfl ?_; refine wpList_load_row rfl 42 (.tmp 3) rfl w.heap.size rfl 42 #[.string s, .int .i64 k, .int .i64 z, .slice a n c] (0, 0) _ HK1'.out Tryz.underlying42 rfl HI4.out ?_)
  rw [← HW1.out]
  refine HT.out.mono ?_
  rintro e9 w2 ⟨h2, hb2⟩
  have HB2 := hide hb2
  rcases h2 with ⟨t, ht, rfl⟩ | ⟨ht, rfl⟩
  · have htz : ¬ (z < 0 ∨ 16777216 < z) := fun h => by unfold totZ at ht; rw [if_pos h] at ht; cases ht
    have htF : totF z 0 R = some t := by unfold totZ at ht; rw [if_neg (fun h => htz h)] at ht; exact ht
    have hle := totF_le R 0 t htF (by omega)
    have HRise := hide (totF_rise R 0 t htF)
    have HCp : Hid (contP d z R = match rdsF d R [] with
      | .error c => .error c
      | .ok out => if t < z then .error 23 else .ok out) := hide (by unfold contP; simp only [ht]; cases rdsF d R [] <;> rfl)
    obtain ⟨q, hq⟩ : ∃ q : Nat, t = (q : Int) := ⟨t.toNat, by omega⟩
    subst hq
    obtain ⟨i5, hi, hz0, hz1, hz2⟩ := info_parts info5
    obtain ⟨w3, hmk, ho3, hg3⟩ := run_make_own (P := Tryz.prog) (w := w2) w2.heap.size 22 5 i5 (.int .u8 0) 1 Tryz.underlying22 hi hz0 hz1 .i64 .i64 q (by rw [hz2]; omega) (by unfold maxLen; omega) (Nat.le_refl _)
    have ho3' : Own w3 w2.heap.size (.slice (some ⟨w2.heap.size, 0, none⟩) 0 q) [] := ho3
    have hb3 : Below w2.heap.size w2 w3 := ⟨hg3.os, hg3.tape, hg3.output, hg3.size, fun k hk => hg3.block k hk (by simp)⟩
    have hb23 := hb2.trans (hb3.mono hb2.size)
    have hk3 := HK1.out.below hb23
    have x3 : w3.cell? ⟨w.heap.size, 3, none⟩ = some (.slice a n c) := hk3.cell 3 _ rfl
    have HO3 := hide ho3'
    have HB3 := hide hb23
    have HS3 := hide (show w2.heap.size ≤ w3.heap.size from hb3.size)
    have HS2 := hide (show w1.heap.size ≤ w2.heap.size from hb2.size)
    clear ho3 ho3' hg3 hb3 hb23 hk3 hb2 ht htF hi hz0 hz1 hz2
    have HQz := hide (show (q : Int) ≤ 16777216 ∧ (0 : Int) ≤ z from by omega)
    clear hle htz
    go_wp2_with fail
    go_loopw [8, 27] (fun v i wr => ∃ (j : Nat) (out : List Int), j ≤ n ∧ i = .int .i64 (j : Int) ∧ Own wr w2.heap.size v out ∧ rdsF d R [] = rdsF d (R.drop j) out ∧ out.length ≤ 105000 * j ∧ Below w1.heap.size w1 wr ∧ w2.heap.size ≤ wr.heap.size) (fun _ i _ => n - (intOf i).toNat)
    case atStart => exact ⟨0, [], by omega, rfl, HO3.out, rfl, by simp, HB3.out, HS3.out⟩
    case round =>
      obtain ⟨j, out, hj, rfl, ho, hrd, hol, hbr, hsr⟩ := hrel
      have HSr := hide hsr
      have HO := hide ho
      have HRd := hide hrd
      have HOl := hide hol
      have HBr := hide hbr
      clear ho hrd hol hbr hsr
      by_cases hlt : j < n
      · have hjR : j < R.length := by have := HL.out; omega
        rcases HR.out.below HBr.out with hE | ⟨b, off, rfl, hblt, hc⟩
        · rw [hE] at hjR; simp at hjR
        obtain ⟨q0, q1⟩ := hc j hjR
        have hnr := near_get HN.out j hjR
        have hri : (R.getD j (0, 0)).1 ≤ (R.getD j (0, 0)).2 := HRise.out _ (by rw [List.getD_eq_getElem?_getD, List.getElem?_eq_getElem hjR]; exact List.getElem_mem _)
        have HD : Hid (rdsF d (R.drop j) out = match pieceF d (R.getD j (0, 0)).1 (R.getD j (0, 0)).2 with
          | .error c => .error c
          | .ok q => rdsF d (R.drop (j + 1)) (out ++ q)) := hide (by rw [drop_consE R j hjR]; rfl)
        clear hc hjR
        generalize R.getD j (0, 0) = p at *
        obtain ⟨x, y⟩ := p
        dsimp only at q0 q1 HD hnr hri
        obtain ⟨w4, hw4⟩ : ∃ w4, w4 = wr.alloc (.cells #[.int .i64 x, .int .i64 y] 24) := ⟨_, rfl⟩
        have hb4 : Below wr.heap.size wr w4 := by rw [hw4]; exact (Below.refl _ _).alloc (Nat.le_refl _) _
        have hx4 : Blk w4 wr.heap.size #[.int .i64 x, .int .i64 y] 24 := by rw [hw4]; exact Blk.new _ _ _
        have x0 : (wr.alloc (.cells #[.int .i64 x, .int .i64 y] 24)).cell? ⟨wr.heap.size, 0, none⟩ = some (.int .i64 x) := by rw [← hw4]; exact hx4.cell 0 _ rfl
        have x1 : (wr.alloc (.cells #[.int .i64 x, .int .i64 y] 24)).cell? ⟨wr.heap.size, 1, none⟩ = some (.int .i64 y) := by rw [← hw4]; exact hx4.cell 1 _ rfl
        have HB4 := hide (HBr.out.trans (hb4.mono HBr.out.size))
        have HO4 := hide (HO.out.below hb4)
        have HW4 := hide hw4
        have HBx := HBy w4 x y HB4.out ⟨hnr.1, hnr.2.1⟩ hnr.2.2 hri
        have HNr := hide hnr
        have HS4 := hide (show w2.heap.size ≤ w4.heap.size from Nat.le_trans HSr.out hb4.size)
        have hj0 : (0 : Int) ≤ (j : Int) := by omega
        have hj1 : (j : Int) < (n : Int) := by omega
        have hj3 : (n : Int) ≤ 20 := by have := HL.out; omega
        have HLt := hide hlt
        clear hb4 hx4 hw4 hlt hnr hri
        go_wp2_with fail
        rw [← HW4.out]
        refine HBx.out.mono ?_
        rintro e9 w5 ⟨h5, hb5⟩
        have HB5 := hide (HB4.out.trans (hb5.mono HB4.out.size))
        rcases h5 with ⟨pc, v, hpc, rfl, av, cv, rfl, hlv, _⟩ | ⟨ce, hce, hne, rfl⟩
        · have HO5 := hide (HO4.out.below hb5)
          have hpl := pieceF_le hpc ⟨HNr.out.1, HNr.out.2.1⟩ HNr.out.2.2
          have HRd2 : Hid (rdsF d R [] = rdsF d (R.drop (j + 1)) (out ++ pc)) := hide (by rw [HRd.out, HD.out, hpc])
          have HPl := hide hpl
          have HLv := hide hlv
          have hs5 : w2.heap.size ≤ w5.heap.size := Nat.le_trans HS4.out hb5.size
          have hsum : out.length + pc.length ≤ 140737488355328 := by have := HOl.out; have := HLt.out; have := HL.out; omega
          obtain ⟨m, hm⟩ : ∃ m, m = pc.length := ⟨_, rfl⟩
          rw [← hm]
          have HM := hide hm
          clear hpc hpl hlv hb5 hm
          go_wp2_with (at_builtin; refine wpList_append_bytes rfl (.tmp 40) (.tmp 41) 22 rfl Tryz.underlying22 info5 w2.heap.size _ out rfl (by exact HO5.out) av m cv pc rfl HM.out (by exact HLv.out) hsum hs5 ?_; intro v6 w6 ho6 hg6; have HO6 := hide ho6; have HS6 := hide (Nat.le_trans hs5 hg6.size); have HB6 := hide (HB5.out.trans (Chg.below w1.heap.size (Chg.of_grown hg6) HB5.out.size (fun i hi e => by have h1 := HO5.out.base i e.symm; have h2 := HS2.out; omega))); clear ho6 hg6)
          go_roundw
          case rel => exact ⟨j + 1, out ++ pc, by have := HLt.out; omega, by go_num, HO6.out, HRd2.out, by have := HOl.out; have := HPl.out; simp; omega, HB6.out, HS6.out⟩
          case measure => have := HLt.out; simp [intOf]; omega
        · have HCe : Hid (contP d z R = .error ce) := hide (by rw [HCp.out, HRd.out, HD.out, hce])
          have HNe := hide hne
          have hne2 : ¬ ce = 0 := hne
          clear hce hne hb5
          go_wp2_with fail
          go_ret2
          exact ⟨Or.inr ⟨ce, HCe.out, HNe.out, rfl⟩, HB1.out.trans (HB5.out.mono HB1.out.size)⟩
      · obtain rfl : j = n := by omega
        have HRo : Hid (rdsF d R [] = .ok out) := hide (by rw [HRd.out, List.drop_of_length_le (by have := HL.out; omega)]; rfl)
        have hk5 := HK1.out.below HBr.out
        have y2 : wr.cell? ⟨w.heap.size, 2, none⟩ = some (.int .i64 z) := hk5.cell 2 _ rfl
        clear hk5
        by_cases hqz : (q : Int) < z
        · have HCe : Hid (contP d z R = .error 23) := hide (by rw [HCp.out, HRo.out]; simp only; rw [if_pos hqz])
          go_wp2_with fail
          go_ret2
          exact ⟨Or.inr ⟨23, HCe.out, by decide, rfl⟩, HB1.out.trans (HBr.out.mono HB1.out.size)⟩
        · have HCe : Hid (contP d z R = .ok out) := hide (by rw [HCp.out, HRo.out]; simp only; rw [if_neg hqz])
          go_wp2_with fail
          go_ret2
          obtain ⟨a9, c9, rfl, hs9, _⟩ := HO.out.sl
          exact ⟨Or.inl ⟨out, a9, c9, HCe.out, rfl, hs9⟩, HB1.out.trans (HBr.out.mono HB1.out.size)⟩
  · have HCe : Hid (contP d z R = .error 4) := hide (by unfold contP; simp only [ht])
    clear ht
    go_wp2_with fail
    go_ret2
    exact ⟨Or.inr ⟨4, HCe.out, by decide, rfl⟩, HB1.out.trans (HB2.out.mono HB1.out.size)⟩
end Go.Proofs.YtjpdfchdgphdoaaGreatDoor.Oct
