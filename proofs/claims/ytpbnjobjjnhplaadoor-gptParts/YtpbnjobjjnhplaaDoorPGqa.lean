/- A header's sector as the document makes it. -/
import Derived.Test.YtpbnjobjjnhplaaDoorPGpy
import Derived.Lib.AppendStr
namespace Go.Proofs.YtpbnjobjjnhplaaDoor.Oct
open Go.RowKit

theorem underS : Tryd.prog.underlying 9 = some .string := by kernel_rfl

/-- The magic, appended to a slice that is nil. -/
theorem wpList_append_mag {w : World} {ops : Array Oper} {rest : List Oper} {o : Oper} {a : Act} {Q : Exit → Act → World → Prop} (hgd : o.guard = none) (s x : Operand)
    (ho : o.op = .call { callee := .builtin .append, args := #[s, x], argTypes := #[31, 9] }) (hs : a.eval s = .slice none 0 0) (hx : a.eval x = .string { data := #[69, 70, 73, 32, 80, 65, 82, 84] })
    (h : ∀ v' w', Own w' w.heap.size v' magG → w.grownBy w' none → wpList Tryd.prog ops Q rest (a.put o.dst v') w') : wpList Tryd.prog ops Q (o :: rest) a w := by
  obtain ⟨i, hi, hz0, hz1, hz2⟩ := info_parts info5
  exact Lib.wpList_append_own_string w hgd s x 31 9 ho w.heap.size 5 i Tryd.underlying31 underS hi hz0 hz1 hz2 (.slice none 0 0) 0 [] hs (World.ownsRow_nil _ _ _ _) _ hx (by unfold maxLen; decide) (by decide) (Nat.le_refl _) (fun v' w' h1 h2 _ => h v' w' h1 h2)

/-- The header that the document makes at the beginning, or at the end. -/
def Tb.headE (t : Tb) (e : Bool) : Hd := if e = true then t.head2 else t.head1

theorem headZ_eq (h : Hd) : headZ h = magG ++ bytesOf 65536 4 ++ bytesOf 92 4 ++ List.replicate 8 0 ++ bytesOf h.own 8 ++ bytesOf h.oth 8 ++ bytesOf h.fst 8 ++ bytesOf h.lst 8 ++ h.id ++ bytesOf h.at_ 8 ++ bytesOf h.cnt 4 ++ bytesOf 128 4 ++ bytesOf h.sum 4 := by
  unfold headZ headP
  rw [bytesOf_zero]
  simp only [List.flatten_cons, List.flatten_nil, List.append_nil, List.append_assoc]
  rfl

theorem headL_over (h : Hd) : over (headZ h) 16 (bytesOf (moreC 0 (headZ h)) 4) ++ List.replicate 420 0 = headL h := by
  obtain ⟨s, hs⟩ : ∃ s : Int, s = moreC 0 (headZ h) := ⟨_, rfl⟩
  unfold headL
  rw [← hs]
  congr 1

theorem headZ_len (h : Hd) (hid : h.id.length = 16) : (headZ h).length = 92 := headP_len h 0 hid

theorem zero8 (u : World) : Hid (Calls Tryd.prog 23 #[.int .i64 8] u fun e w' => ∃ v, e = .returned v ∧ Own w' u.heap.size v (List.replicate 8 0) ∧ Below u.heap.size u w') := by
  have z := Zeros_any 8 u (by omega)
  rw [show ((8 : Nat) : Int) = 8 from rfl] at z
  exact z
theorem zero420 (u : World) : Hid (Calls Tryd.prog 23 #[.int .i64 420] u fun e w' => ∃ v, e = .returned v ∧ Own w' u.heap.size v (List.replicate 420 0) ∧ Below u.heap.size u w') := by
  have z := Zeros_any 420 u (by omega)
  rw [show ((420 : Nat) : Int) = 420 from rfl] at z
  exact z

theorem byts_mag : Byts magG := fun k => match k with
  | 0 => by decide
  | 1 => by decide
  | 2 => by decide
  | 3 => by decide
  | 4 => by decide
  | 5 => by decide
  | 6 => by decide
  | 7 => by decide
  | k + 8 => by simp [magG]

set_option maxHeartbeats 16000000 in
set_option maxRecDepth 100000 in
theorem rhead_any (t : Tb) (e : Bool) (vi : Value) (a : Option Addr) (cap : Nat) (hid : t.id.length = 16) (hbi : Byts t.id) (hok : ∀ x ∈ t.L, x.ok) (hbL : Byts (bytL t.L)) (hch : t.chk = 0) (w : World) (hvi : SlG w vi t.id) (hl : LiesD w a t.L) :
    Calls Tryd.prog 47 #[.agg (t.rc vi (.slice a t.L.length cap)), .bool e] w fun q w' => (∃ v, q = .returned v ∧ Own w' w.heap.size v (headL (t.headE e))) ∧ Below w.heap.size w w' := by
  have hlow := chk_ents t hch
  obtain ⟨hs, hn1, hp, _⟩ := chk_low t hch
  have hr : 0 ≤ rowsG t.L.length := by unfold rowsG; omega
  unfold Tb.placed at hp
  have HRb := fun u hlu => hide (rbytes_any t.L a cap hok hlow (by omega) u hlu)
  have HBLn := hide (show (bytL t.L).length ≤ 1000000 by rw [bytL_len _ hok]; omega)
  have HBL := hide hbL
  obtain ⟨m, hm⟩ : ∃ m : Int, m = moreC 0 (bytL t.L) := ⟨_, rfl⟩
  have hml := moreC_bd 0 (bytL t.L)
  rw [← hm] at hml
  have HFa := fun u (a : Option Addr) (c : Nat) (hu : Lies u a (bytL t.L)) => hide (show Calls Tryd.prog 59 #[.slice a (bytL t.L).length c] u fun q w' => q = .returned (.int .u32 m) ∧ w' = u by
    rw [hm]
    exact Fast_any a c (bytL t.L) u (by have := HBLn.out; unfold maxLen; omega) hbL hu)
  obtain ⟨h, hh⟩ : ∃ h, h = t.headE e := ⟨_, rfl⟩
  rw [← hh]
  have HHd := hide hh
  have HHm := hide hm
  have HZe := hide (headZ_eq h)
  have HOv := hide (headL_over h)
  have hhid : h.id.length = 16 := by rw [hh]; unfold Tb.headE; split <;> exact hid
  have HZl := hide (headZ_len h hhid)
  obtain ⟨n, hn⟩ : ∃ n, n = t.L.length := ⟨_, rfl⟩
  rw [← hn] at HRb hn1 ⊢
  obtain ⟨ai, ci, rfl, hsi⟩ := hvi
  rw [hid]
  obtain ⟨wq, hw1⟩ : ∃ wq, wq = w.alloc (.cells (t.rc (.slice ai 16 ci) (.slice a n cap)) 34) := ⟨_, rfl⟩
  obtain ⟨R, hR⟩ : ∃ R, R = w.heap.size := ⟨_, rfl⟩
  have hb1 : Below w.heap.size w wq := by rw [hw1]; exact (Below.refl _ _).alloc (Nat.le_refl _) _
  have hk1 : Blk wq R (t.rc (.slice ai 16 ci) (.slice a n cap)) 34 := by rw [hw1, hR]; exact Blk.new _ _ _
  have HKq := hide hk1
  have HLq := hide (hl.below hb1)
  have HIq := hide ((hsi.below hb1).lies)
  have HBq := hide hb1
  have HWq := hide hw1
  have HHR := hide hR
  have HHn := hide hn
  have HId := hide hid
  have HIb := hide hbi
  have HBz := hide (Below.refl wq.heap.size wq)
  have hw0 : IntKind.i64.wrap (t.sec - 1) = t.sec - 1 := by rw [IntKind.wrap_i64]; omega
  have u0 : IntKind.u64.wrap 1 = 1 := by decide
  have u1 : IntKind.u64.wrap (t.sec - 1) = t.sec - 1 := by rw [IntKind.wrap_u64]; omega
  have u2 : IntKind.u64.wrap t.fst = t.fst := by rw [IntKind.wrap_u64]; omega
  have u3 : IntKind.u64.wrap t.lst = t.lst := by rw [IntKind.wrap_u64]; omega
  have u4 : IntKind.u64.wrap t.at_ = t.at_ := by rw [IntKind.wrap_u64]; omega
  have u5 : IntKind.u64.wrap t.beh = t.beh := by rw [IntKind.wrap_u64]; omega
  have u6 : IntKind.u64.wrap (n : Int) = (n : Int) := by rw [IntKind.wrap_u64]; omega
  have u7 : IntKind.u64.wrap m = m := by rw [IntKind.wrap_u64]; omega
  have b65 := fun u => hide (Bytes_any 65536 4 u (by omega) (by omega) (by omega))
  have b92 := fun u => hide (Bytes_any 92 4 u (by omega) (by omega) (by omega))
  have b128 := fun u => hide (Bytes_any 128 4 u (by omega) (by omega) (by omega))
  have bo := fun u => hide (Bytes_any 1 8 u (by omega) (by omega) (by omega))
  have bs := fun u => hide (Bytes_any (t.sec - 1) 8 u (by omega) (by omega) (by omega))
  have bf := fun u => hide (Bytes_any t.fst 8 u (by omega) (by omega) (by omega))
  have bl := fun u => hide (Bytes_any t.lst 8 u (by omega) (by omega) (by omega))
  have ba := fun u => hide (Bytes_any t.at_ 8 u (by omega) (by omega) (by omega))
  have bb := fun u => hide (Bytes_any t.beh 8 u (by omega) (by omega) (by omega))
  have bn := fun u => hide (Bytes_any (n : Int) 4 u (by omega) (by omega) (by omega))
  have bm := fun u => hide (Bytes_any m 4 u (by omega) (by omega) (by omega))
  have z8 := zero8
  have z420 := zero420
  push_cast at b65 b92 b128 bo bs bf bl ba bb bn bm
  obtain ⟨c0, c1, c2, c4, c5, c6⟩ := rc_cells hk1
  clear hlow hr hp hs hn1 hml hh hm hn hsi hl hid hbi hok hbL hch hb1 hk1 hw1 hR hhid
  cases e

  · have HHe := hide (show h = t.head1 by rw [HHd.out]; rfl)
    go_enter Tryd.func47, Tryd.ntmps47
    go_upto_region 1 with fail
    rw [← HHR.out, ← HWq.out]
    go_upto_region 9 with fail
    clear c0 c1 c2 c4 c5 c6
    go_upto_region 10 with (at_builtin; refine wpList_append_mag rfl _ _ rfl rfl rfl ?_; intro v0 w0 h0 g0)
    obtain ⟨L0, hL0⟩ : ∃ L, L = magG := ⟨_, rfl⟩
    rw [← hL0] at h0
    have HN0 := hide (show L0.length = 8 by rw [hL0]; rfl)
    have HL0 := hide hL0
    have HO0 := hide h0
    have HB0 := hide ((Below.refl wq.heap.size wq).grown g0 (Nat.le_refl _) (fun k hk => by cases hk))
    clear h0 g0 hL0
    go_upto_region 11 with (first | (go_at_call 50; refine (b65 _).out.mono ?_; rintro e wa1 ⟨ra, rfl, ho, hb⟩; have HOa1 := hide (HO0.out.below hb); have HBa1 := hide (HB0.out.trans (hb.mono HB0.out.size)); obtain ⟨aa1, ca1, rfl, hl1, _⟩ := ho.form; have HLa1 := hide hl1; clear ho hb hl1) | (at_builtin; refine wpList_append_bytes rfl _ _ 31 rfl Tryd.underlying31 info5 wq.heap.size _ L0 rfl HOa1.out _ _ _ (bytesOf 65536 4) rfl rfl HLa1.out (by have := HN0.out; simp only [bytesOf_length]; omega) HBa1.out.size ?_; intro v1 w1 h1 g1))
    obtain ⟨L1, hL1⟩ : ∃ L, L = L0 ++ (bytesOf 65536 4) := ⟨_, rfl⟩
    rw [← hL1] at h1
    have HN1 := hide (show L1.length = 12 by rw [hL1, List.length_append, HN0.out]; first | rfl | (rw [bytesOf_length]) | (rw [List.length_replicate]))
    have HL1 := hide hL1
    have HO1 := hide h1
    have HB1 := hide (Own.behind HOa1.out HBa1.out g1 HBa1.out.size)
    clear h1 g1 hL1
    go_upto_region 12 with (first | (go_at_call 50; refine (b92 _).out.mono ?_; rintro e wa2 ⟨ra, rfl, ho, hb⟩; have HOa2 := hide (HO1.out.below hb); have HBa2 := hide (HB1.out.trans (hb.mono HB1.out.size)); obtain ⟨aa2, ca2, rfl, hl2, _⟩ := ho.form; have HLa2 := hide hl2; clear ho hb hl2) | (at_builtin; refine wpList_append_bytes rfl _ _ 31 rfl Tryd.underlying31 info5 wq.heap.size _ L1 rfl HOa2.out _ _ _ (bytesOf 92 4) rfl rfl HLa2.out (by have := HN1.out; simp only [bytesOf_length]; omega) HBa2.out.size ?_; intro v2 w2 h2 g2))
    obtain ⟨L2, hL2⟩ : ∃ L, L = L1 ++ (bytesOf 92 4) := ⟨_, rfl⟩
    rw [← hL2] at h2
    have HN2 := hide (show L2.length = 16 by rw [hL2, List.length_append, HN1.out]; first | rfl | (rw [bytesOf_length]) | (rw [List.length_replicate]))
    have HL2 := hide hL2
    have HO2 := hide h2
    have HB2 := hide (Own.behind HOa2.out HBa2.out g2 HBa2.out.size)
    clear h2 g2 hL2
    go_upto_region 13 with (first | (go_at_call 23; refine (z8 _).out.mono ?_; rintro e wa3 ⟨ra, rfl, ho, hb⟩; have HOa3 := hide (HO2.out.below hb); have HBa3 := hide (HB2.out.trans (hb.mono HB2.out.size)); obtain ⟨aa3, ca3, rfl, hl3, _⟩ := ho.form; have HLa3 := hide hl3; clear ho hb hl3) | (at_builtin; refine wpList_append_bytes rfl _ _ 31 rfl Tryd.underlying31 info5 wq.heap.size _ L2 rfl HOa3.out _ _ _ (List.replicate 8 0) rfl rfl HLa3.out (by have := HN2.out; simp only [List.length_replicate]; omega) HBa3.out.size ?_; intro v3 w3 h3 g3))
    obtain ⟨L3, hL3⟩ : ∃ L, L = L2 ++ (List.replicate 8 0) := ⟨_, rfl⟩
    rw [← hL3] at h3
    have HN3 := hide (show L3.length = 24 by rw [hL3, List.length_append, HN2.out]; first | rfl | (rw [bytesOf_length]) | (rw [List.length_replicate]))
    have HL3 := hide hL3
    have HO3 := hide h3
    have HB3 := hide (Own.behind HOa3.out HBa3.out g3 HBa3.out.size)
    clear h3 g3 hL3
    go_upto_region 14 with (first | (go_at_call 50; refine (bo _).out.mono ?_; rintro e wa4 ⟨ra, rfl, ho, hb⟩; have HOa4 := hide (HO3.out.below hb); have HBa4 := hide (HB3.out.trans (hb.mono HB3.out.size)); obtain ⟨aa4, ca4, rfl, hl4, _⟩ := ho.form; have HLa4 := hide hl4; clear ho hb hl4) | (at_builtin; refine wpList_append_bytes rfl _ _ 31 rfl Tryd.underlying31 info5 wq.heap.size _ L3 rfl HOa4.out _ _ _ (bytesOf (1 : Int) 8) rfl rfl HLa4.out (by have := HN3.out; simp only [bytesOf_length]; omega) HBa4.out.size ?_; intro v4 w4 h4 g4))
    obtain ⟨L4, hL4⟩ : ∃ L, L = L3 ++ (bytesOf (1 : Int) 8) := ⟨_, rfl⟩
    rw [← hL4] at h4
    have HN4 := hide (show L4.length = 32 by rw [hL4, List.length_append, HN3.out]; first | rfl | (rw [bytesOf_length]) | (rw [List.length_replicate]))
    have HL4 := hide hL4
    have HO4 := hide h4
    have HB4 := hide (Own.behind HOa4.out HBa4.out g4 HBa4.out.size)
    clear h4 g4 hL4
    go_upto_region 15 with (first | (go_at_call 50; refine (bs _).out.mono ?_; rintro e wa5 ⟨ra, rfl, ho, hb⟩; have HOa5 := hide (HO4.out.below hb); have HBa5 := hide (HB4.out.trans (hb.mono HB4.out.size)); obtain ⟨aa5, ca5, rfl, hl5, _⟩ := ho.form; have HLa5 := hide hl5; clear ho hb hl5) | (at_builtin; refine wpList_append_bytes rfl _ _ 31 rfl Tryd.underlying31 info5 wq.heap.size _ L4 rfl HOa5.out _ _ _ (bytesOf (t.sec - 1) 8) rfl rfl HLa5.out (by have := HN4.out; simp only [bytesOf_length]; omega) HBa5.out.size ?_; intro v5 w5 h5 g5))
    obtain ⟨L5, hL5⟩ : ∃ L, L = L4 ++ (bytesOf (t.sec - 1) 8) := ⟨_, rfl⟩
    rw [← hL5] at h5
    have HN5 := hide (show L5.length = 40 by rw [hL5, List.length_append, HN4.out]; first | rfl | (rw [bytesOf_length]) | (rw [List.length_replicate]))
    have HL5 := hide hL5
    have HO5 := hide h5
    have HB5 := hide (Own.behind HOa5.out HBa5.out g5 HBa5.out.size)
    clear h5 g5 hL5
    obtain ⟨c0, c1, c2, c4, c5, c6⟩ := rc_cells (HKq.out.below HB5.out)
    have c3 : w5.cell? ⟨R, 3, none⟩ = some (.slice ai 16 ci) := (HKq.out.below HB5.out).cell 3 _ rfl
    go_upto_region 16 with (first | (go_at_call 50; refine (bf _).out.mono ?_; rintro e wa6 ⟨ra, rfl, ho, hb⟩; have HOa6 := hide (HO5.out.below hb); have HBa6 := hide (HB5.out.trans (hb.mono HB5.out.size)); obtain ⟨aa6, ca6, rfl, hl6, _⟩ := ho.form; have HLa6 := hide hl6; clear ho hb hl6) | (at_builtin; refine wpList_append_bytes rfl _ _ 31 rfl Tryd.underlying31 info5 wq.heap.size _ L5 rfl HOa6.out _ _ _ (bytesOf t.fst 8) rfl rfl HLa6.out (by have := HN5.out; simp only [bytesOf_length]; omega) HBa6.out.size ?_; intro v6 w6 h6 g6))
    obtain ⟨L6, hL6⟩ : ∃ L, L = L5 ++ (bytesOf t.fst 8) := ⟨_, rfl⟩
    rw [← hL6] at h6
    have HN6 := hide (show L6.length = 48 by rw [hL6, List.length_append, HN5.out]; first | rfl | (rw [bytesOf_length]) | (rw [List.length_replicate]))
    have HL6 := hide hL6
    have HO6 := hide h6
    have HB6 := hide (Own.behind HOa6.out HBa6.out g6 HBa6.out.size)
    clear h6 g6 hL6 c0 c1 c2 c3 c4 c5 c6
    obtain ⟨c0, c1, c2, c4, c5, c6⟩ := rc_cells (HKq.out.below HB6.out)
    have c3 : w6.cell? ⟨R, 3, none⟩ = some (.slice ai 16 ci) := (HKq.out.below HB6.out).cell 3 _ rfl
    go_upto_region 17 with (first | (go_at_call 50; refine (bl _).out.mono ?_; rintro e wa7 ⟨ra, rfl, ho, hb⟩; have HOa7 := hide (HO6.out.below hb); have HBa7 := hide (HB6.out.trans (hb.mono HB6.out.size)); obtain ⟨aa7, ca7, rfl, hl7, _⟩ := ho.form; have HLa7 := hide hl7; clear ho hb hl7) | (at_builtin; refine wpList_append_bytes rfl _ _ 31 rfl Tryd.underlying31 info5 wq.heap.size _ L6 rfl HOa7.out _ _ _ (bytesOf t.lst 8) rfl rfl HLa7.out (by have := HN6.out; simp only [bytesOf_length]; omega) HBa7.out.size ?_; intro v7 w7 h7 g7))
    obtain ⟨L7, hL7⟩ : ∃ L, L = L6 ++ (bytesOf t.lst 8) := ⟨_, rfl⟩
    rw [← hL7] at h7
    have HN7 := hide (show L7.length = 56 by rw [hL7, List.length_append, HN6.out]; first | rfl | (rw [bytesOf_length]) | (rw [List.length_replicate]))
    have HL7 := hide hL7
    have HO7 := hide h7
    have HB7 := hide (Own.behind HOa7.out HBa7.out g7 HBa7.out.size)
    clear h7 g7 hL7 c0 c1 c2 c3 c4 c5 c6
    obtain ⟨c0, c1, c2, c4, c5, c6⟩ := rc_cells (HKq.out.below HB7.out)
    have c3 : w7.cell? ⟨R, 3, none⟩ = some (.slice ai 16 ci) := (HKq.out.below HB7.out).cell 3 _ rfl
    go_upto_region 18 with (at_builtin; refine wpList_append_bytes rfl _ _ 31 rfl Tryd.underlying31 info5 wq.heap.size _ L7 rfl HO7.out _ _ _ t.id rfl HId.out.symm (HIq.out.below HB7.out) (by have := HN7.out; have := HId.out; omega) HB7.out.size ?_; intro v8 w8 h8 g8)
    obtain ⟨L8, hL8⟩ : ∃ L, L = L7 ++ t.id := ⟨_, rfl⟩
    rw [← hL8] at h8
    have HN8 := hide (show L8.length = 72 by rw [hL8, List.length_append, HN7.out, HId.out])
    have HL8 := hide hL8
    have HO8 := hide h8
    have HB8 := hide (Own.behind HO7.out HB7.out g8 HB7.out.size)
    clear h8 g8 hL8 c0 c1 c2 c3 c4 c5 c6
    go_upto_region 19 with (first | (go_at_call 50; refine (ba _).out.mono ?_; rintro e wa9 ⟨ra, rfl, ho, hb⟩; have HOa9 := hide (HO8.out.below hb); have HBa9 := hide (HB8.out.trans (hb.mono HB8.out.size)); obtain ⟨aa9, ca9, rfl, hl9, _⟩ := ho.form; have HLa9 := hide hl9; clear ho hb hl9) | (at_builtin; refine wpList_append_bytes rfl _ _ 31 rfl Tryd.underlying31 info5 wq.heap.size _ L8 rfl HOa9.out _ _ _ (bytesOf t.at_ 8) rfl rfl HLa9.out (by have := HN8.out; simp only [bytesOf_length]; omega) HBa9.out.size ?_; intro v9 w9 h9 g9))
    obtain ⟨L9, hL9⟩ : ∃ L, L = L8 ++ (bytesOf t.at_ 8) := ⟨_, rfl⟩
    rw [← hL9] at h9
    have HN9 := hide (show L9.length = 80 by rw [hL9, List.length_append, HN8.out]; first | rfl | (rw [bytesOf_length]) | (rw [List.length_replicate]))
    have HL9 := hide hL9
    have HO9 := hide h9
    have HB9 := hide (Own.behind HOa9.out HBa9.out g9 HBa9.out.size)
    clear h9 g9 hL9
    obtain ⟨c0, c1, c2, c4, c5, c6⟩ := rc_cells (HKq.out.below HB9.out)
    have c3 : w9.cell? ⟨R, 3, none⟩ = some (.slice ai 16 ci) := (HKq.out.below HB9.out).cell 3 _ rfl
    go_upto_region 20 with (first | (go_at_call 50; refine (bn _).out.mono ?_; rintro e wa10 ⟨ra, rfl, ho, hb⟩; have HOa10 := hide (HO9.out.below hb); have HBa10 := hide (HB9.out.trans (hb.mono HB9.out.size)); obtain ⟨aa10, ca10, rfl, hl10, _⟩ := ho.form; have HLa10 := hide hl10; clear ho hb hl10) | (at_builtin; refine wpList_append_bytes rfl _ _ 31 rfl Tryd.underlying31 info5 wq.heap.size _ L9 rfl HOa10.out _ _ _ (bytesOf (n : Int) 4) rfl rfl HLa10.out (by have := HN9.out; simp only [bytesOf_length]; omega) HBa10.out.size ?_; intro v10 w10 h10 g10))
    obtain ⟨L10, hL10⟩ : ∃ L, L = L9 ++ (bytesOf (n : Int) 4) := ⟨_, rfl⟩
    rw [← hL10] at h10
    have HN10 := hide (show L10.length = 84 by rw [hL10, List.length_append, HN9.out]; first | rfl | (rw [bytesOf_length]) | (rw [List.length_replicate]))
    have HL10 := hide hL10
    have HO10 := hide h10
    have HB10 := hide (Own.behind HOa10.out HBa10.out g10 HBa10.out.size)
    clear h10 g10 hL10 c0 c1 c2 c3 c4 c5 c6
    go_upto_region 21 with (first | (go_at_call 50; refine (b128 _).out.mono ?_; rintro e wa11 ⟨ra, rfl, ho, hb⟩; have HOa11 := hide (HO10.out.below hb); have HBa11 := hide (HB10.out.trans (hb.mono HB10.out.size)); obtain ⟨aa11, ca11, rfl, hl11, _⟩ := ho.form; have HLa11 := hide hl11; clear ho hb hl11) | (at_builtin; refine wpList_append_bytes rfl _ _ 31 rfl Tryd.underlying31 info5 wq.heap.size _ L10 rfl HOa11.out _ _ _ (bytesOf 128 4) rfl rfl HLa11.out (by have := HN10.out; simp only [bytesOf_length]; omega) HBa11.out.size ?_; intro v11 w11 h11 g11))
    obtain ⟨L11, hL11⟩ : ∃ L, L = L10 ++ (bytesOf 128 4) := ⟨_, rfl⟩
    rw [← hL11] at h11
    have HN11 := hide (show L11.length = 88 by rw [hL11, List.length_append, HN10.out]; first | rfl | (rw [bytesOf_length]) | (rw [List.length_replicate]))
    have HL11 := hide hL11
    have HO11 := hide h11
    have HB11 := hide (Own.behind HOa11.out HBa11.out g11 HBa11.out.size)
    clear h11 g11 hL11
    obtain ⟨c0, c1, c2, c4, c5, c6⟩ := rc_cells (HKq.out.below HB11.out)
    have c3 : w11.cell? ⟨R, 3, none⟩ = some (.slice ai 16 ci) := (HKq.out.below HB11.out).cell 3 _ rfl
    have HLl12 := hide (HLq.out.below HB11.out)
    go_upto_region 22 with (first | (go_at_call 46; refine (HRb _ HLl12.out).out.mono ?_; rintro e wb12 ⟨⟨rb, rfl, ho⟩, hb⟩; have HOb12 := hide (HO11.out.below hb); have HBb12 := hide (HB11.out.trans (hb.mono HB11.out.size)); obtain ⟨ab12, cb12, rfl, hl12, _⟩ := ho.form; have HLb12 := hide hl12; clear ho hb hl12) | (go_at_call 59; refine (HFa _ _ _ HLb12.out).out.mono ?_; rintro e wc12 ⟨rfl, hc12⟩; have hc12 := hc12.symm; subst hc12) | (go_at_call 50; refine (bm _).out.mono ?_; rintro e wa12 ⟨ra, rfl, ho, hb⟩; have HOa12 := hide (HOb12.out.below hb); have HBa12 := hide (HBb12.out.trans (hb.mono HBb12.out.size)); obtain ⟨aa12, ca12, rfl, hl12, _⟩ := ho.form; have HLa12 := hide hl12; clear ho hb hl12) | (at_builtin; refine wpList_append_bytes rfl _ _ 31 rfl Tryd.underlying31 info5 wq.heap.size _ L11 rfl HOa12.out _ _ _ (bytesOf m 4) rfl rfl HLa12.out (by have := HN11.out; simp only [bytesOf_length]; omega) HBa12.out.size ?_; intro v12 w12 h12 g12))
    obtain ⟨L12, hL12⟩ : ∃ L, L = L11 ++ (bytesOf m 4) := ⟨_, rfl⟩
    rw [← hL12] at h12
    have HN12 := hide (show L12.length = 92 by rw [hL12, List.length_append, HN11.out]; first | rfl | (rw [bytesOf_length]) | (rw [List.length_replicate]))
    have HL12 := hide hL12
    have HO12 := hide h12
    have HB12 := hide (Own.behind HOa12.out HBa12.out g12 HBa12.out.size)
    clear h12 g12 hL12 c0 c1 c2 c3 c4 c5 c6
    have hZ : L12 = headZ h := by
      have q := HZe.out
      rw [HHe.out] at q
      unfold Tb.head1 at q
      dsimp only at q
      rw [HHe.out]
      unfold Tb.head1
      rw [q, HL12.out, HL11.out, HL10.out, HL9.out, HL8.out, HL7.out, HL6.out, HL5.out, HL4.out, HL3.out, HL2.out, HL1.out, HL0.out, HHn.out, HHm.out]
    have HZ := hide hZ
    obtain ⟨s, hs⟩ : ∃ s : Int, s = moreC 0 (headZ h) := ⟨_, rfl⟩
    have HSs := hide hs
    have HSm := hide (show 0 ≤ s ∧ s < 4294967296 by rw [hs]; exact moreC_bd _ _)
    have us : IntKind.u64.wrap s = s := by have := HSm.out; rw [IntKind.wrap_u64]; omega
    have HBs := fun u => hide (Bytes_any s 4 u (by omega) HSm.out.1 (by have := HSm.out; omega))
    push_cast at HBs
    have HBl := hide (show Byts L12 by
      rw [HL12.out, HL11.out, HL10.out, HL9.out, HL8.out, HL7.out, HL6.out, HL5.out, HL4.out, HL3.out, HL2.out, HL1.out, HL0.out]
      refine ((((((((((((Byts.append ?_ (Byts.bytesOf _ _)).append (Byts.bytesOf _ _)).append (Byts.zeros _)).append (Byts.bytesOf _ _)).append (Byts.bytesOf _ _)).append (Byts.bytesOf _ _)).append (Byts.bytesOf _ _)).append HIb.out).append (Byts.bytesOf _ _)).append (Byts.bytesOf _ _)).append (Byts.bytesOf _ _)).append (Byts.bytesOf _ _))
      exact byts_mag)
    have HFz := fun u (a : Option Addr) (c : Nat) (hu : Lies u a L12) => hide (show Calls Tryd.prog 59 #[.slice a L12.length c] u fun q w' => q = .returned (.int .u32 s) ∧ w' = u by
      rw [HSs.out, ← HZ.out]
      exact Fast_any a c L12 u (by rw [HN12.out]; unfold maxLen; omega) HBl.out hu)
    clear hZ hs
    obtain ⟨a12, c12, hv12, hl12, _⟩ := HO12.out.form
    obtain ⟨a12', c12', hv12', hs12, _⟩ := HO12.out.sl
    have HV12 := hide hv12
    have HLs := hide hl12
    rw [hv12] at hv12'
    injection hv12' with q1 q2 q3
    subst q1
    subst q3
    have HS12 := hide hs12
    rw [hv12]
    clear hv12 hl12 hs12 q2
    go_upto_region 23 with (go_at_call 59; refine (HFz _ _ _ HLs.out).out.mono ?_; rintro e wd ⟨rfl, hd⟩; have hd := hd.symm; subst hd)
    go_upto_region 24 with (first | (go_at_call 50; refine (HBs _).out.mono ?_; rintro e we ⟨re, rfl, ho, hb⟩; have HSe := hide (HS12.out.below hb); have HBe := hide (HB12.out.trans (hb.mono HB12.out.size)); obtain ⟨ae, ce, rfl, hse, _⟩ := ho.sl; have HSf := hide hse; clear ho hb hse) | (go_at_call 34; refine (With_any _ _ L12 _ _ (bytesOf s 4) 16 _ (by rw [HN12.out]; omega) (by rw [bytesOf_length]; omega) (by rw [HN12.out, bytesOf_length]; omega) HSe.out HSf.out).mono ?_; rintro e wf ⟨rf, rfl, ho, hb⟩; have HOf := hide ho; have HBf := hide (HBe.out.trans (hb.mono HBe.out.size)); have HBi := hide hb.size; clear ho hb))
    have HLf := hide (show (over L12 16 (bytesOf s 4)).length = 92 by rw [over_length (by rw [HN12.out, bytesOf_length]; omega)]; exact HN12.out)
    go_wp2_with (first | (go_at_call 23; refine (z420 _).out.mono ?_; rintro e wa ⟨ra, rfl, ho, hb⟩; have HOa := hide (HOf.out.below hb); have HBa := hide (HBf.out.trans (hb.mono HBf.out.size)); have HBh := hide hb.size; obtain ⟨aa, ca, rfl, hla, _⟩ := ho.form; have HLa := hide hla; clear ho hb hla) | (at_builtin; refine wpList_append_bytes rfl _ _ 31 rfl Tryd.underlying31 info5 we.heap.size _ (over L12 16 (bytesOf s 4)) rfl HOa.out _ _ _ (List.replicate 420 0) rfl rfl HLa.out (by rw [HLf.out, List.length_replicate]; omega) (Nat.le_trans HBi.out HBh.out) ?_; intro vz wz hz gz))
    go_ret
    refine ⟨⟨_, rfl, ?_⟩, HBq.out.trans ((HBa.out.grown gz HBa.out.size (fun g hg => Nat.le_trans HBe.out.size (HOa.out.base g hg))).mono HBq.out.size)⟩
    rw [← HOv.out, ← HSs.out, ← HZ.out]
    exact hz.mono (Nat.le_trans HBq.out.size HBe.out.size)

  · have HHe := hide (show h = t.head2 by rw [HHd.out]; rfl)
    go_enter Tryd.func47, Tryd.ntmps47
    go_upto_region 1 with fail
    rw [← HHR.out, ← HWq.out]
    go_upto_region 9 with fail
    clear c0 c1 c2 c4 c5 c6
    go_upto_region 10 with (at_builtin; refine wpList_append_mag rfl _ _ rfl rfl rfl ?_; intro v0 w0 h0 g0)
    obtain ⟨L0, hL0⟩ : ∃ L, L = magG := ⟨_, rfl⟩
    rw [← hL0] at h0
    have HN0 := hide (show L0.length = 8 by rw [hL0]; rfl)
    have HL0 := hide hL0
    have HO0 := hide h0
    have HB0 := hide ((Below.refl wq.heap.size wq).grown g0 (Nat.le_refl _) (fun k hk => by cases hk))
    clear h0 g0 hL0
    go_upto_region 11 with (first | (go_at_call 50; refine (b65 _).out.mono ?_; rintro e wa1 ⟨ra, rfl, ho, hb⟩; have HOa1 := hide (HO0.out.below hb); have HBa1 := hide (HB0.out.trans (hb.mono HB0.out.size)); obtain ⟨aa1, ca1, rfl, hl1, _⟩ := ho.form; have HLa1 := hide hl1; clear ho hb hl1) | (at_builtin; refine wpList_append_bytes rfl _ _ 31 rfl Tryd.underlying31 info5 wq.heap.size _ L0 rfl HOa1.out _ _ _ (bytesOf 65536 4) rfl rfl HLa1.out (by have := HN0.out; simp only [bytesOf_length]; omega) HBa1.out.size ?_; intro v1 w1 h1 g1))
    obtain ⟨L1, hL1⟩ : ∃ L, L = L0 ++ (bytesOf 65536 4) := ⟨_, rfl⟩
    rw [← hL1] at h1
    have HN1 := hide (show L1.length = 12 by rw [hL1, List.length_append, HN0.out]; first | rfl | (rw [bytesOf_length]) | (rw [List.length_replicate]))
    have HL1 := hide hL1
    have HO1 := hide h1
    have HB1 := hide (Own.behind HOa1.out HBa1.out g1 HBa1.out.size)
    clear h1 g1 hL1
    go_upto_region 12 with (first | (go_at_call 50; refine (b92 _).out.mono ?_; rintro e wa2 ⟨ra, rfl, ho, hb⟩; have HOa2 := hide (HO1.out.below hb); have HBa2 := hide (HB1.out.trans (hb.mono HB1.out.size)); obtain ⟨aa2, ca2, rfl, hl2, _⟩ := ho.form; have HLa2 := hide hl2; clear ho hb hl2) | (at_builtin; refine wpList_append_bytes rfl _ _ 31 rfl Tryd.underlying31 info5 wq.heap.size _ L1 rfl HOa2.out _ _ _ (bytesOf 92 4) rfl rfl HLa2.out (by have := HN1.out; simp only [bytesOf_length]; omega) HBa2.out.size ?_; intro v2 w2 h2 g2))
    obtain ⟨L2, hL2⟩ : ∃ L, L = L1 ++ (bytesOf 92 4) := ⟨_, rfl⟩
    rw [← hL2] at h2
    have HN2 := hide (show L2.length = 16 by rw [hL2, List.length_append, HN1.out]; first | rfl | (rw [bytesOf_length]) | (rw [List.length_replicate]))
    have HL2 := hide hL2
    have HO2 := hide h2
    have HB2 := hide (Own.behind HOa2.out HBa2.out g2 HBa2.out.size)
    clear h2 g2 hL2
    go_upto_region 13 with (first | (go_at_call 23; refine (z8 _).out.mono ?_; rintro e wa3 ⟨ra, rfl, ho, hb⟩; have HOa3 := hide (HO2.out.below hb); have HBa3 := hide (HB2.out.trans (hb.mono HB2.out.size)); obtain ⟨aa3, ca3, rfl, hl3, _⟩ := ho.form; have HLa3 := hide hl3; clear ho hb hl3) | (at_builtin; refine wpList_append_bytes rfl _ _ 31 rfl Tryd.underlying31 info5 wq.heap.size _ L2 rfl HOa3.out _ _ _ (List.replicate 8 0) rfl rfl HLa3.out (by have := HN2.out; simp only [List.length_replicate]; omega) HBa3.out.size ?_; intro v3 w3 h3 g3))
    obtain ⟨L3, hL3⟩ : ∃ L, L = L2 ++ (List.replicate 8 0) := ⟨_, rfl⟩
    rw [← hL3] at h3
    have HN3 := hide (show L3.length = 24 by rw [hL3, List.length_append, HN2.out]; first | rfl | (rw [bytesOf_length]) | (rw [List.length_replicate]))
    have HL3 := hide hL3
    have HO3 := hide h3
    have HB3 := hide (Own.behind HOa3.out HBa3.out g3 HBa3.out.size)
    clear h3 g3 hL3
    go_upto_region 14 with (first | (go_at_call 50; refine (bs _).out.mono ?_; rintro e wa4 ⟨ra, rfl, ho, hb⟩; have HOa4 := hide (HO3.out.below hb); have HBa4 := hide (HB3.out.trans (hb.mono HB3.out.size)); obtain ⟨aa4, ca4, rfl, hl4, _⟩ := ho.form; have HLa4 := hide hl4; clear ho hb hl4) | (at_builtin; refine wpList_append_bytes rfl _ _ 31 rfl Tryd.underlying31 info5 wq.heap.size _ L3 rfl HOa4.out _ _ _ (bytesOf (t.sec - 1) 8) rfl rfl HLa4.out (by have := HN3.out; simp only [bytesOf_length]; omega) HBa4.out.size ?_; intro v4 w4 h4 g4))
    obtain ⟨L4, hL4⟩ : ∃ L, L = L3 ++ (bytesOf (t.sec - 1) 8) := ⟨_, rfl⟩
    rw [← hL4] at h4
    have HN4 := hide (show L4.length = 32 by rw [hL4, List.length_append, HN3.out]; first | rfl | (rw [bytesOf_length]) | (rw [List.length_replicate]))
    have HL4 := hide hL4
    have HO4 := hide h4
    have HB4 := hide (Own.behind HOa4.out HBa4.out g4 HBa4.out.size)
    clear h4 g4 hL4
    go_upto_region 15 with (first | (go_at_call 50; refine (bo _).out.mono ?_; rintro e wa5 ⟨ra, rfl, ho, hb⟩; have HOa5 := hide (HO4.out.below hb); have HBa5 := hide (HB4.out.trans (hb.mono HB4.out.size)); obtain ⟨aa5, ca5, rfl, hl5, _⟩ := ho.form; have HLa5 := hide hl5; clear ho hb hl5) | (at_builtin; refine wpList_append_bytes rfl _ _ 31 rfl Tryd.underlying31 info5 wq.heap.size _ L4 rfl HOa5.out _ _ _ (bytesOf (1 : Int) 8) rfl rfl HLa5.out (by have := HN4.out; simp only [bytesOf_length]; omega) HBa5.out.size ?_; intro v5 w5 h5 g5))
    obtain ⟨L5, hL5⟩ : ∃ L, L = L4 ++ (bytesOf (1 : Int) 8) := ⟨_, rfl⟩
    rw [← hL5] at h5
    have HN5 := hide (show L5.length = 40 by rw [hL5, List.length_append, HN4.out]; first | rfl | (rw [bytesOf_length]) | (rw [List.length_replicate]))
    have HL5 := hide hL5
    have HO5 := hide h5
    have HB5 := hide (Own.behind HOa5.out HBa5.out g5 HBa5.out.size)
    clear h5 g5 hL5
    obtain ⟨c0, c1, c2, c4, c5, c6⟩ := rc_cells (HKq.out.below HB5.out)
    have c3 : w5.cell? ⟨R, 3, none⟩ = some (.slice ai 16 ci) := (HKq.out.below HB5.out).cell 3 _ rfl
    go_upto_region 16 with (first | (go_at_call 50; refine (bf _).out.mono ?_; rintro e wa6 ⟨ra, rfl, ho, hb⟩; have HOa6 := hide (HO5.out.below hb); have HBa6 := hide (HB5.out.trans (hb.mono HB5.out.size)); obtain ⟨aa6, ca6, rfl, hl6, _⟩ := ho.form; have HLa6 := hide hl6; clear ho hb hl6) | (at_builtin; refine wpList_append_bytes rfl _ _ 31 rfl Tryd.underlying31 info5 wq.heap.size _ L5 rfl HOa6.out _ _ _ (bytesOf t.fst 8) rfl rfl HLa6.out (by have := HN5.out; simp only [bytesOf_length]; omega) HBa6.out.size ?_; intro v6 w6 h6 g6))
    obtain ⟨L6, hL6⟩ : ∃ L, L = L5 ++ (bytesOf t.fst 8) := ⟨_, rfl⟩
    rw [← hL6] at h6
    have HN6 := hide (show L6.length = 48 by rw [hL6, List.length_append, HN5.out]; first | rfl | (rw [bytesOf_length]) | (rw [List.length_replicate]))
    have HL6 := hide hL6
    have HO6 := hide h6
    have HB6 := hide (Own.behind HOa6.out HBa6.out g6 HBa6.out.size)
    clear h6 g6 hL6 c0 c1 c2 c3 c4 c5 c6
    obtain ⟨c0, c1, c2, c4, c5, c6⟩ := rc_cells (HKq.out.below HB6.out)
    have c3 : w6.cell? ⟨R, 3, none⟩ = some (.slice ai 16 ci) := (HKq.out.below HB6.out).cell 3 _ rfl
    go_upto_region 17 with (first | (go_at_call 50; refine (bl _).out.mono ?_; rintro e wa7 ⟨ra, rfl, ho, hb⟩; have HOa7 := hide (HO6.out.below hb); have HBa7 := hide (HB6.out.trans (hb.mono HB6.out.size)); obtain ⟨aa7, ca7, rfl, hl7, _⟩ := ho.form; have HLa7 := hide hl7; clear ho hb hl7) | (at_builtin; refine wpList_append_bytes rfl _ _ 31 rfl Tryd.underlying31 info5 wq.heap.size _ L6 rfl HOa7.out _ _ _ (bytesOf t.lst 8) rfl rfl HLa7.out (by have := HN6.out; simp only [bytesOf_length]; omega) HBa7.out.size ?_; intro v7 w7 h7 g7))
    obtain ⟨L7, hL7⟩ : ∃ L, L = L6 ++ (bytesOf t.lst 8) := ⟨_, rfl⟩
    rw [← hL7] at h7
    have HN7 := hide (show L7.length = 56 by rw [hL7, List.length_append, HN6.out]; first | rfl | (rw [bytesOf_length]) | (rw [List.length_replicate]))
    have HL7 := hide hL7
    have HO7 := hide h7
    have HB7 := hide (Own.behind HOa7.out HBa7.out g7 HBa7.out.size)
    clear h7 g7 hL7 c0 c1 c2 c3 c4 c5 c6
    obtain ⟨c0, c1, c2, c4, c5, c6⟩ := rc_cells (HKq.out.below HB7.out)
    have c3 : w7.cell? ⟨R, 3, none⟩ = some (.slice ai 16 ci) := (HKq.out.below HB7.out).cell 3 _ rfl
    go_upto_region 18 with (at_builtin; refine wpList_append_bytes rfl _ _ 31 rfl Tryd.underlying31 info5 wq.heap.size _ L7 rfl HO7.out _ _ _ t.id rfl HId.out.symm (HIq.out.below HB7.out) (by have := HN7.out; have := HId.out; omega) HB7.out.size ?_; intro v8 w8 h8 g8)
    obtain ⟨L8, hL8⟩ : ∃ L, L = L7 ++ t.id := ⟨_, rfl⟩
    rw [← hL8] at h8
    have HN8 := hide (show L8.length = 72 by rw [hL8, List.length_append, HN7.out, HId.out])
    have HL8 := hide hL8
    have HO8 := hide h8
    have HB8 := hide (Own.behind HO7.out HB7.out g8 HB7.out.size)
    clear h8 g8 hL8 c0 c1 c2 c3 c4 c5 c6
    go_upto_region 19 with (first | (go_at_call 50; refine (bb _).out.mono ?_; rintro e wa9 ⟨ra, rfl, ho, hb⟩; have HOa9 := hide (HO8.out.below hb); have HBa9 := hide (HB8.out.trans (hb.mono HB8.out.size)); obtain ⟨aa9, ca9, rfl, hl9, _⟩ := ho.form; have HLa9 := hide hl9; clear ho hb hl9) | (at_builtin; refine wpList_append_bytes rfl _ _ 31 rfl Tryd.underlying31 info5 wq.heap.size _ L8 rfl HOa9.out _ _ _ (bytesOf t.beh 8) rfl rfl HLa9.out (by have := HN8.out; simp only [bytesOf_length]; omega) HBa9.out.size ?_; intro v9 w9 h9 g9))
    obtain ⟨L9, hL9⟩ : ∃ L, L = L8 ++ (bytesOf t.beh 8) := ⟨_, rfl⟩
    rw [← hL9] at h9
    have HN9 := hide (show L9.length = 80 by rw [hL9, List.length_append, HN8.out]; first | rfl | (rw [bytesOf_length]) | (rw [List.length_replicate]))
    have HL9 := hide hL9
    have HO9 := hide h9
    have HB9 := hide (Own.behind HOa9.out HBa9.out g9 HBa9.out.size)
    clear h9 g9 hL9
    obtain ⟨c0, c1, c2, c4, c5, c6⟩ := rc_cells (HKq.out.below HB9.out)
    have c3 : w9.cell? ⟨R, 3, none⟩ = some (.slice ai 16 ci) := (HKq.out.below HB9.out).cell 3 _ rfl
    go_upto_region 20 with (first | (go_at_call 50; refine (bn _).out.mono ?_; rintro e wa10 ⟨ra, rfl, ho, hb⟩; have HOa10 := hide (HO9.out.below hb); have HBa10 := hide (HB9.out.trans (hb.mono HB9.out.size)); obtain ⟨aa10, ca10, rfl, hl10, _⟩ := ho.form; have HLa10 := hide hl10; clear ho hb hl10) | (at_builtin; refine wpList_append_bytes rfl _ _ 31 rfl Tryd.underlying31 info5 wq.heap.size _ L9 rfl HOa10.out _ _ _ (bytesOf (n : Int) 4) rfl rfl HLa10.out (by have := HN9.out; simp only [bytesOf_length]; omega) HBa10.out.size ?_; intro v10 w10 h10 g10))
    obtain ⟨L10, hL10⟩ : ∃ L, L = L9 ++ (bytesOf (n : Int) 4) := ⟨_, rfl⟩
    rw [← hL10] at h10
    have HN10 := hide (show L10.length = 84 by rw [hL10, List.length_append, HN9.out]; first | rfl | (rw [bytesOf_length]) | (rw [List.length_replicate]))
    have HL10 := hide hL10
    have HO10 := hide h10
    have HB10 := hide (Own.behind HOa10.out HBa10.out g10 HBa10.out.size)
    clear h10 g10 hL10 c0 c1 c2 c3 c4 c5 c6
    go_upto_region 21 with (first | (go_at_call 50; refine (b128 _).out.mono ?_; rintro e wa11 ⟨ra, rfl, ho, hb⟩; have HOa11 := hide (HO10.out.below hb); have HBa11 := hide (HB10.out.trans (hb.mono HB10.out.size)); obtain ⟨aa11, ca11, rfl, hl11, _⟩ := ho.form; have HLa11 := hide hl11; clear ho hb hl11) | (at_builtin; refine wpList_append_bytes rfl _ _ 31 rfl Tryd.underlying31 info5 wq.heap.size _ L10 rfl HOa11.out _ _ _ (bytesOf 128 4) rfl rfl HLa11.out (by have := HN10.out; simp only [bytesOf_length]; omega) HBa11.out.size ?_; intro v11 w11 h11 g11))
    obtain ⟨L11, hL11⟩ : ∃ L, L = L10 ++ (bytesOf 128 4) := ⟨_, rfl⟩
    rw [← hL11] at h11
    have HN11 := hide (show L11.length = 88 by rw [hL11, List.length_append, HN10.out]; first | rfl | (rw [bytesOf_length]) | (rw [List.length_replicate]))
    have HL11 := hide hL11
    have HO11 := hide h11
    have HB11 := hide (Own.behind HOa11.out HBa11.out g11 HBa11.out.size)
    clear h11 g11 hL11
    obtain ⟨c0, c1, c2, c4, c5, c6⟩ := rc_cells (HKq.out.below HB11.out)
    have c3 : w11.cell? ⟨R, 3, none⟩ = some (.slice ai 16 ci) := (HKq.out.below HB11.out).cell 3 _ rfl
    have HLl12 := hide (HLq.out.below HB11.out)
    go_upto_region 22 with (first | (go_at_call 46; refine (HRb _ HLl12.out).out.mono ?_; rintro e wb12 ⟨⟨rb, rfl, ho⟩, hb⟩; have HOb12 := hide (HO11.out.below hb); have HBb12 := hide (HB11.out.trans (hb.mono HB11.out.size)); obtain ⟨ab12, cb12, rfl, hl12, _⟩ := ho.form; have HLb12 := hide hl12; clear ho hb hl12) | (go_at_call 59; refine (HFa _ _ _ HLb12.out).out.mono ?_; rintro e wc12 ⟨rfl, hc12⟩; have hc12 := hc12.symm; subst hc12) | (go_at_call 50; refine (bm _).out.mono ?_; rintro e wa12 ⟨ra, rfl, ho, hb⟩; have HOa12 := hide (HOb12.out.below hb); have HBa12 := hide (HBb12.out.trans (hb.mono HBb12.out.size)); obtain ⟨aa12, ca12, rfl, hl12, _⟩ := ho.form; have HLa12 := hide hl12; clear ho hb hl12) | (at_builtin; refine wpList_append_bytes rfl _ _ 31 rfl Tryd.underlying31 info5 wq.heap.size _ L11 rfl HOa12.out _ _ _ (bytesOf m 4) rfl rfl HLa12.out (by have := HN11.out; simp only [bytesOf_length]; omega) HBa12.out.size ?_; intro v12 w12 h12 g12))
    obtain ⟨L12, hL12⟩ : ∃ L, L = L11 ++ (bytesOf m 4) := ⟨_, rfl⟩
    rw [← hL12] at h12
    have HN12 := hide (show L12.length = 92 by rw [hL12, List.length_append, HN11.out]; first | rfl | (rw [bytesOf_length]) | (rw [List.length_replicate]))
    have HL12 := hide hL12
    have HO12 := hide h12
    have HB12 := hide (Own.behind HOa12.out HBa12.out g12 HBa12.out.size)
    clear h12 g12 hL12 c0 c1 c2 c3 c4 c5 c6
    have hZ : L12 = headZ h := by
      have q := HZe.out
      rw [HHe.out] at q
      unfold Tb.head2 at q
      dsimp only at q
      rw [HHe.out]
      unfold Tb.head2
      rw [q, HL12.out, HL11.out, HL10.out, HL9.out, HL8.out, HL7.out, HL6.out, HL5.out, HL4.out, HL3.out, HL2.out, HL1.out, HL0.out, HHn.out, HHm.out]
    have HZ := hide hZ
    obtain ⟨s, hs⟩ : ∃ s : Int, s = moreC 0 (headZ h) := ⟨_, rfl⟩
    have HSs := hide hs
    have HSm := hide (show 0 ≤ s ∧ s < 4294967296 by rw [hs]; exact moreC_bd _ _)
    have us : IntKind.u64.wrap s = s := by have := HSm.out; rw [IntKind.wrap_u64]; omega
    have HBs := fun u => hide (Bytes_any s 4 u (by omega) HSm.out.1 (by have := HSm.out; omega))
    push_cast at HBs
    have HBl := hide (show Byts L12 by
      rw [HL12.out, HL11.out, HL10.out, HL9.out, HL8.out, HL7.out, HL6.out, HL5.out, HL4.out, HL3.out, HL2.out, HL1.out, HL0.out]
      refine ((((((((((((Byts.append ?_ (Byts.bytesOf _ _)).append (Byts.bytesOf _ _)).append (Byts.zeros _)).append (Byts.bytesOf _ _)).append (Byts.bytesOf _ _)).append (Byts.bytesOf _ _)).append (Byts.bytesOf _ _)).append HIb.out).append (Byts.bytesOf _ _)).append (Byts.bytesOf _ _)).append (Byts.bytesOf _ _)).append (Byts.bytesOf _ _))
      exact byts_mag)
    have HFz := fun u (a : Option Addr) (c : Nat) (hu : Lies u a L12) => hide (show Calls Tryd.prog 59 #[.slice a L12.length c] u fun q w' => q = .returned (.int .u32 s) ∧ w' = u by
      rw [HSs.out, ← HZ.out]
      exact Fast_any a c L12 u (by rw [HN12.out]; unfold maxLen; omega) HBl.out hu)
    clear hZ hs
    obtain ⟨a12, c12, hv12, hl12, _⟩ := HO12.out.form
    obtain ⟨a12', c12', hv12', hs12, _⟩ := HO12.out.sl
    have HV12 := hide hv12
    have HLs := hide hl12
    rw [hv12] at hv12'
    injection hv12' with q1 q2 q3
    subst q1
    subst q3
    have HS12 := hide hs12
    rw [hv12]
    clear hv12 hl12 hs12 q2
    go_upto_region 23 with (go_at_call 59; refine (HFz _ _ _ HLs.out).out.mono ?_; rintro e wd ⟨rfl, hd⟩; have hd := hd.symm; subst hd)
    go_upto_region 24 with (first | (go_at_call 50; refine (HBs _).out.mono ?_; rintro e we ⟨re, rfl, ho, hb⟩; have HSe := hide (HS12.out.below hb); have HBe := hide (HB12.out.trans (hb.mono HB12.out.size)); obtain ⟨ae, ce, rfl, hse, _⟩ := ho.sl; have HSf := hide hse; clear ho hb hse) | (go_at_call 34; refine (With_any _ _ L12 _ _ (bytesOf s 4) 16 _ (by rw [HN12.out]; omega) (by rw [bytesOf_length]; omega) (by rw [HN12.out, bytesOf_length]; omega) HSe.out HSf.out).mono ?_; rintro e wf ⟨rf, rfl, ho, hb⟩; have HOf := hide ho; have HBf := hide (HBe.out.trans (hb.mono HBe.out.size)); have HBi := hide hb.size; clear ho hb))
    have HLf := hide (show (over L12 16 (bytesOf s 4)).length = 92 by rw [over_length (by rw [HN12.out, bytesOf_length]; omega)]; exact HN12.out)
    go_wp2_with (first | (go_at_call 23; refine (z420 _).out.mono ?_; rintro e wa ⟨ra, rfl, ho, hb⟩; have HOa := hide (HOf.out.below hb); have HBa := hide (HBf.out.trans (hb.mono HBf.out.size)); have HBh := hide hb.size; obtain ⟨aa, ca, rfl, hla, _⟩ := ho.form; have HLa := hide hla; clear ho hb hla) | (at_builtin; refine wpList_append_bytes rfl _ _ 31 rfl Tryd.underlying31 info5 we.heap.size _ (over L12 16 (bytesOf s 4)) rfl HOa.out _ _ _ (List.replicate 420 0) rfl rfl HLa.out (by rw [HLf.out, List.length_replicate]; omega) (Nat.le_trans HBi.out HBh.out) ?_; intro vz wz hz gz))
    go_ret
    refine ⟨⟨_, rfl, ?_⟩, HBq.out.trans ((HBa.out.grown gz HBa.out.size (fun g hg => Nat.le_trans HBe.out.size (HOa.out.base g hg))).mono HBq.out.size)⟩
    rw [← HOv.out, ← HSs.out, ← HZ.out]
    exact hz.mono (Nat.le_trans HBq.out.size HBe.out.size)

end Go.Proofs.YtpbnjobjjnhplaaDoor.Oct
