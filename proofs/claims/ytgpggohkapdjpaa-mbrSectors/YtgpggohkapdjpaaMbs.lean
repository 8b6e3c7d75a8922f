/- The statements' own disks: what disk answers. -/
import Derived.Test.YtgpggohkapdjpaaMbq
namespace Go.Proofs.Ytgpggohkapdjpaa.Oct
open Go.RowKit

theorem info5s : (Try.prog.info? 5).map (fun i => (i.zero, i.size, i.bytes)) = some (some (.int .u8 0), 1, 1) := by kernel_rfl

theorem Own.monoB {w : World} {B B' : Nat} {v : Value} {l : List Int} (h : Own w B v l) (hb : B' ≤ B) : Own w B' v l := h.mono hb

theorem Lies.new {w : World} {l : List Int} {cs : Array Value} (hcs : cs = (l.map (Value.int .u8)).toArray) : Lies (w.alloc (.cells cs 5)) (some ⟨w.heap.size, 0, none⟩) l := by
  subst hcs
  refine Lies.mk fun k hk => ?_
  have h := Blk.new w (l.map (Value.int .u8)).toArray 5
  rw [Nat.zero_add]
  refine h.cell k _ ?_
  simp [hk]

set_option maxHeartbeats 16000000 in
set_option maxRecDepth 100000 in
theorem disk_any (w : World) (sec : Int) (p : Option Addr) (cap : Nat) (X : List LD) (hX : LiesL w p X) (hXn : X.length ≤ 40) (hL : ∀ x ∈ X, x.L.length ≤ maxLen ∧ x.mb.length ≤ maxLen) (n : Nat) (hn : (n : Int) = sec % p64 % 200) (hn0 : 0 < n) :
    Calls Try.prog 16 #[.int .i64 sec, .slice p X.length cap] w fun e w' => ∃ a c, e = .returned (.tuple #[.slice a (512 * n) c, .bool true]) ∧ Own w' w.heap.size (.slice a (512 * n) c) (diskD n X X.length) ∧ Below w.heap.size w w' := by
  have hn2 : n < 200 := by have := Int.emod_lt_of_pos (sec % p64) (b := 200) (by omega); omega
  have HZ := hide (Zeros_any (512 * n) w (by omega))
  have HZ4 := fun u => hide (Zeros_any 4 u (by omega))
  have hz4 : ((4 : Nat) : Int) = 4 := rfl
  rw [hz4] at HZ4
  have hzc : (((512 * n : Nat)) : Int) = 512 * (n : Int) := by omega
  rw [hzc] at HZ
  obtain ⟨U, hU⟩ : ∃ U, U = sec % p64 := ⟨_, rfl⟩
  have hU0 : 0 ≤ U ∧ U < 18446744073709551616 := by rw [hU]; unfold p64; omega
  have hwU : IntKind.u64.wrap sec = U := by rw [IntKind.wrap_u64, hU]; rfl
  rw [← hU] at hn
  have hre : U % 200 = (n : Int) := hn.symm
  have hrt : U.tmod 200 = (n : Int) := by rw [Int.tmod_eq_emod_of_nonneg hU0.1]; exact hre
  have hwn : IntKind.i64.wrap (n : Int) = (n : Int) := by rw [IntKind.wrap_i64]; omega
  have hwm : IntKind.i64.wrap (512 * (n : Int)) = 512 * (n : Int) := by rw [IntKind.wrap_i64]; omega
  have hwu : IntKind.u64.wrap (n : Int) = (n : Int) := by rw [IntKind.wrap_u64]; omega
  have hX40 : ¬ (40 : Int) < (X.length : Int) := by omega
  have HX := hide hX
  have HLn := hide hL
  have HDl := hide (diskD_len n X hn0)
  clear hX hU hn hL
  go_enter Try.func16, Try.ntmps16
  go_wp2_with fail
  refine HZ.out.mono ?_
  rintro e9 w1 ⟨v1, rfl, ho1, hb1⟩
  have HO1 := hide ho1
  have HB1 := hide hb1
  clear ho1 hb1 HZ hzc hz4
  go_wp2_with fail
  go_loopw [7, 8] (fun v7 i wr => ∃ (j : Nat), j ≤ X.length ∧ i = .int .i64 j ∧ Own wr w.heap.size v7 (diskD n X j) ∧ Below w.heap.size w wr) (fun _ i _ => X.length - (intOf i).toNat)
  case atStart => exact ⟨0, by omega, rfl, HO1.out, HB1.out⟩
  case round =>
    obtain ⟨j, hj, rfl, ho7, hbel⟩ := hrel
    have HO7 := hide ho7
    have HB := hide hbel
    clear ho7 hbel
    have hnp : (0 : Int) < (n : Int) := by omega
    by_cases hlt : j < X.length
    · rcases HX.out with hE | ⟨b, off, rfl, hbl, hc⟩
      · rw [hE] at hlt; simp at hlt
      obtain ⟨⟨q0, q1, q2⟩, hlm, hlb⟩ := hc j hlt
      have r0 := (HB.out.cell (p := ⟨b, off + j * 3, none⟩) hbl).trans q0
      have HQ : Hid (∀ u, Below w.heap.size w u → u.cell? ⟨b, off + j * 3 + 1, none⟩ = some (.slice (X.getD j LD.z).a (X.getD j LD.z).L.length (X.getD j LD.z).c) ∧ u.cell? ⟨b, off + j * 3 + 2, none⟩ = some (.slice (X.getD j LD.z).ma (X.getD j LD.z).mb.length (X.getD j LD.z).mc)) := hide (fun u hu => ⟨(hu.cell (p := ⟨b, off + j * 3 + 1, none⟩) hbl).trans q1, (hu.cell (p := ⟨b, off + j * 3 + 2, none⟩) hbl).trans q2⟩)
      have HLm := hide hlm
      have HLb := hide hlb
      have HSt : Hid (diskD n X (j + 1) = layS (diskD n X j) n (X.getD j LD.z)) := hide rfl
      have hxm : X.getD j LD.z ∈ X := by
        have : X.getD j LD.z = X[j] := by simp [hlt]
        rw [this]
        exact List.getElem_mem _
      have HLj := hide (HLn.out _ hxm)
      have hatf := at_fits (X.getD j LD.z).at_ n hn0
      have HDj := hide (HDl.out j)
      generalize X.getD j LD.z = x at *
      generalize diskD n X j = D at *
      obtain ⟨x_at, xa, xL, xc, xma, xmb, xmc⟩ := x
      dsimp only at r0 HQ HLm HLb HLj hatf
      obtain ⟨V, hV⟩ : ∃ V, V = x_at % p64 := ⟨_, rfl⟩
      have hV0 : 0 ≤ V ∧ V < 18446744073709551616 := by rw [hV]; unfold p64; omega
      have hwV : IntKind.u64.wrap x_at = V := by rw [IntKind.wrap_u64, hV]; rfl
      rw [← hV] at hatf
      obtain ⟨t, ht⟩ : ∃ t : Nat, t = (V % n).toNat := ⟨_, rfl⟩
      have hte : V % (n : Int) = (t : Int) := by have := Int.emod_nonneg V (b := (n : Int)) (by omega); omega
      have htt : V.tmod (n : Int) = (t : Int) := by rw [Int.tmod_eq_emod_of_nonneg hV0.1]; exact hte
      rw [← ht] at hatf
      have hwt : IntKind.i64.wrap (t : Int) = (t : Int) := by rw [IntKind.wrap_i64]; omega
      have hwt5 : IntKind.i64.wrap (512 * (t : Int)) = 512 * (t : Int) := by rw [IntKind.wrap_i64]; omega
      have hwt6 : IntKind.i64.wrap (512 * (t : Int) + 446) = 512 * (t : Int) + 446 := by rw [IntKind.wrap_i64]; omega
      have hwt7 : IntKind.i64.wrap (512 * (t : Int) + 510) = 512 * (t : Int) + 510 := by rw [IntKind.wrap_i64]; omega
      have HSt2 : Hid (diskD n X (j + 1) = over (layD D (512 * t) xL xmb (min 4 xL.length)) (512 * t + 510) [85, 170]) := hide (by
        rw [HSt.out]
        unfold layS
        dsimp only
        rw [← hV, ← ht])
      clear hc q0 q1 q2 hlm hlb hxm hV ht HSt HX
      have hnu : ¬ (n : Int) = 0 := by omega
      go_wp2_with fail
      --INNER
      clear r0
      go_loopw [7, 10] (fun v7 i wr2 => ∃ (k : Nat), k ≤ min 4 xL.length ∧ i = .int .i64 k ∧ Own wr2 w.heap.size v7 (layD D (512 * t) xL xmb k) ∧ Below w.heap.size w wr2) (fun _ i _ => 4 - (intOf i).toNat)
      case atStart => exact ⟨0, by omega, rfl, HO7.out, HB.out⟩
      case round =>
        obtain ⟨k, hk, rfl, ho8, hbel2⟩ := hrel
        have HO8 := hide ho8
        have HB2 := hide hbel2
        obtain ⟨r1, r2⟩ := HQ.out _ HB2.out
        clear ho8 hbel2
        by_cases hk4 : k < min 4 xL.length
        · have hkL : k < xL.length := by omega
          have hk4' : (k : Int) < 4 := by omega
          have hkI : (k : Int) < (xL.length : Int) := by omega
          rcases HLm.out.below HB2.out with hE | ⟨bL, offL, rfl, hbL, hcL⟩
          · rw [hE] at hkL; simp at hkL
          obtain ⟨l0, l1, l2⟩ := hcL k hkL
          have HRo : Hid (layD D (512 * t) xL xmb (k + 1) = over (layD D (512 * t) xL xmb k) (512 * t + 446 + 16 * k) (rowD (xL.getD k zm3) (xmb.getD k 0))) := hide rfl
          have HLl := hide (layD_len (D := D) (t := 512 * t) (L := xL) (mk := xmb) (by rw [HDj.out]; omega) k (by omega))
          generalize xL.getD k zm3 = y at *
          obtain ⟨y1, y2, y3⟩ := y
          dsimp only at l0 l1 l2
          have HBy := fun (v : Int) u (hv : 0 ≤ v ∧ v < 18446744073709551616) => hide (Bytes_any v 4 u (by omega) hv.1 hv.2)
          have hz4 : ((4 : Nat) : Int) = 4 := rfl
          rw [hz4] at HBy
          have hwy1 : IntKind.u8.wrap y1 = y1 % 256 := IntKind.wrap_u8 y1
          have hwy2 : IntKind.u64.wrap y2 = y2 % p64 := IntKind.wrap_u64 y2
          have hwy3 : IntKind.u64.wrap y3 = y3 % p64 := IntKind.wrap_u64 y3
          have hw16 : IntKind.i64.wrap (16 * (k : Int)) = 16 * (k : Int) := by rw [IntKind.wrap_i64]; omega
          have hw17 : IntKind.i64.wrap (512 * (t : Int) + 446 + 16 * (k : Int)) = 512 * (t : Int) + 446 + 16 * (k : Int) := by rw [IntKind.wrap_i64]; omega
          obtain ⟨wA, hwA⟩ : ∃ wA, wA = wr.alloc (.cells #[.int .i64 y1, .int .i64 y2, .int .i64 y3] 32) := ⟨_, rfl⟩
          have hbA : Below wr.heap.size wr wA := by rw [hwA]; exact (Below.refl _ _).alloc (Nat.le_refl _) _
          have hxA : Blk wA wr.heap.size #[.int .i64 y1, .int .i64 y2, .int .i64 y3] 32 := by rw [hwA]; exact Blk.new _ _ _
          have HXA := hide hxA
          have HOA := hide (HO8.out.below hbA)
          have HBA := hide (HB2.out.trans (hbA.mono HB2.out.size))
          have HWA := hide hwA
          clear hcL hbA hxA hwA hz4
          go_wp2_with fail
          rw [← HWA.out]
          refine ((HZ4 _).out).mono ?_
          rintro e9 w3 ⟨v3, rfl, ho3, hb3⟩
          have hz : (List.replicate 4 (0 : Int)) = [0, 0, 0, 0] := rfl
          rw [hz] at ho3
          obtain ⟨a3, c3, hv3, _, _, _, _, hg3⟩ := ho3.form
          obtain ⟨g, ha3, hg3a, hg3b⟩ := hg3 (by simp)
          subst ha3
          subst hv3
          have hx3 := HXA.out.below hb3
          have hb3' := HBA.out.trans (hb3.mono HBA.out.size)
          have HNe : Hid (wr.heap.size ≠ g) := hide (by have := HXA.out.lt; omega)
          obtain ⟨r1', r2'⟩ := HQ.out _ hb3'
          have ho3' := ho3
          have hl4 : ([0, 0, 0, 0] : List Int).length = 4 := rfl
          rw [hl4] at ho3' ⊢
          clear hz hg3 r1 r2 l0 l1 l2
          by_cases hmk : k < xmb.length
          · have hmI : (k : Int) < (xmb.length : Int) := by omega
            rcases HLb.out.below hb3' with hE | ⟨bM, offM, rfl, hbM, hcM⟩
            · rw [hE] at hmk; simp at hmk
            have m0 := hcM k hmk
            obtain ⟨m, hm⟩ : ∃ m, m = xmb.getD k 0 := ⟨_, rfl⟩
            rw [← hm] at m0 HRo
            obtain ⟨W4, hW4⟩ : ∃ W4, W4 = w3.setCell ⟨g, 0, none⟩ (.int .u8 m) := ⟨_, rfl⟩
            have hst := Own.stored ho3' 0 m
            have ho4 : Own W4 wA.heap.size (.slice (some ⟨g, 0, none⟩) 4 c3) [m, 0, 0, 0] := by rw [hW4]; exact hst.1
            have e0 : (w3.setCell ⟨g, 0, none⟩ (.int .u8 m)).cell? ⟨wr.heap.size, 0, none⟩ = some (.int .i64 y1) := (hx3.other HNe.out 0 _).cell 0 _ rfl
            have hb4 : Below wA.heap.size wA W4 := by rw [hW4]; exact hb3.setCell (by simp; omega) _
            have HNw : Hid (Lies (W4.alloc (.cells #[.int .u8 (y1 % 256), .int .u8 0, .int .u8 0, .int .u8 0] 5)) (some ⟨w3.heap.size, 0, none⟩) [y1 % 256, 0, 0, 0]) := hide (by
              have hs4 : W4.heap.size = w3.heap.size := by rw [hW4]; simp [World.setCell]
              have := Lies.new (w := W4) (l := [y1 % 256, 0, 0, 0]) rfl
              rw [hs4] at this
              exact this)
            have g0 : w3.cell? ⟨g, 0, none⟩ = some (.int .u8 0) := by have := ho3'.lies 0 (by simp); simpa using this
            have z0 : w3.frozen? ⟨g, 0, none⟩ = false := World.ownsRow.frozenAt ho3' 0
            clear hst ho3 ho3' hb3 hb3' hcM hm hx3
            have HO4 := hide ho4
            have HB4 := hide hb4
            have HW4 := hide hW4
            clear ho4 hb4 hW4
            go_wp2_with (at_builtin; rw [← HW4.out]; refine wpList_append_bytes rfl _ _ 22 rfl Try.underlying22 info5s wA.heap.size _ [m, 0, 0, 0] rfl (HO4.out.alloc _) _ _ _ [y1 % 256, 0, 0, 0] rfl rfl HNw.out (by simp) (by have := HB4.out.size; simp; omega) ?_; intro v5 w5 ho5 hg5; have HO5 := hide ho5; have HB5 := hide ((HB4.out.alloc HB4.out.size _).grown hg5 (HB4.out.alloc HB4.out.size _).size (fun q hq => (World.ownsRow.lt HO4.out q hq).1)); have e1 : w5.cell? ⟨wr.heap.size, 1, none⟩ = some (.int .i64 y2) := (HXA.out.below HB5.out).cell 1 _ rfl; clear ho5 hg5)
            refine ((HBy (y2 % p64) _ (by unfold p64; omega)).out).mono ?_
            rintro e9 w6 ⟨v6, rfl, ho6, hb6⟩
            obtain ⟨a6, c6, hv6, hl6, _⟩ := ho6.form
            subst hv6
            rw [bytesOf_length] at ho6 ⊢
            have HO6 := hide (HO5.out.below hb6)
            have HB6 := hide (HB5.out.trans (hb6.mono HB5.out.size))
            have HL6 := hide hl6
            obtain ⟨R1, hR1⟩ : ∃ R1, R1 = [m, 0, 0, 0] ++ [y1 % 256, 0, 0, 0] := ⟨_, rfl⟩
            rw [← hR1] at HO6
            have HR1l : Hid (R1.length = 8) := hide (by rw [hR1]; rfl)
            have HR1 := hide hR1
            clear ho6 hb6 hl6 e1 HO5 HB5 hR1
            go_wp2_with (at_builtin; refine wpList_append_bytes rfl _ _ 22 rfl Try.underlying22 info5s wA.heap.size _ R1 rfl HO6.out _ _ _ (bytesOf (y2 % p64) 4) rfl (by rw [bytesOf_length]) HL6.out (by rw [HR1l.out, bytesOf_length]; simp) HB6.out.size ?_; intro v7 w7 ho7 hg7; have HO7' := hide ho7; have HB7 := hide (HB6.out.grown hg7 HB6.out.size (fun q hq => (World.ownsRow.lt HO6.out q hq).1)); have e2 : w7.cell? ⟨wr.heap.size, 2, none⟩ = some (.int .i64 y3) := (HXA.out.below HB7.out).cell 2 _ rfl; clear ho7 hg7)
            refine ((HBy (y3 % p64) _ (by unfold p64; omega)).out).mono ?_
            rintro e9 w8 ⟨v8, rfl, ho8, hb8⟩
            obtain ⟨a8, c8, hv8, hl8, _⟩ := ho8.form
            subst hv8
            rw [bytesOf_length] at ho8 ⊢
            have HO9 := hide (HO7'.out.below hb8)
            have HB8 := hide (HB7.out.trans (hb8.mono HB7.out.size))
            have HL8 := hide hl8
            obtain ⟨R2, hR2⟩ : ∃ R2, R2 = R1 ++ bytesOf (y2 % p64) 4 := ⟨_, rfl⟩
            rw [← hR2] at HO9
            have HR2l : Hid (R2.length = 12) := hide (by rw [hR2, List.length_append, HR1l.out, bytesOf_length])
            have HR2 := hide hR2
            clear ho8 hb8 hl8 e2 HO7' HB7 hR2
            go_wp2_with (at_builtin; refine wpList_append_bytes rfl _ _ 22 rfl Try.underlying22 info5s wA.heap.size _ R2 rfl HO9.out _ _ _ (bytesOf (y3 % p64) 4) rfl (by rw [bytesOf_length]) HL8.out (by rw [HR2l.out, bytesOf_length]; simp) HB8.out.size ?_; intro v9 w9 ho9 hg9; obtain ⟨a9, c9, hv9, hs9, _⟩ := ho9.sl; subst hv9; have HS9 := hide hs9; have HB9 := hide (HB8.out.grown hg9 HB8.out.size (fun q hq => (World.ownsRow.lt HO9.out q hq).1)); clear ho9 hg9 hs9)
            obtain ⟨R3, hR3⟩ : ∃ R3, R3 = R2 ++ bytesOf (y3 % p64) 4 := ⟨_, rfl⟩
            have hR3l : R3.length = 16 := by rw [hR3, List.length_append, HR2l.out, bytesOf_length]
            have HRw : Hid (R3 = rowD (y1, y2, y3) m) := hide (by rw [hR3, HR2.out, HR1.out]; rfl)
            rw [← hR3] at HS9
            rw [← List.length_append, ← hR3]
            obtain ⟨a7, c7, hv7, hs7, _⟩ := (HOA.out.below HB9.out).sl
            have HWi := hide (With_any a7 c7 _ a9 c9 R3 (512 * t + 446 + 16 * k) w9 (by rw [HLl.out, HDj.out]; omega) (by omega) (by rw [HLl.out, HDj.out, hR3l]; omega) hs7 HS9.out)
            rw [← hv7, HRw.out, ← HRo.out] at HWi
            have hcst : (((512 * t + 446 + 16 * k : Nat)) : Int) = 512 * (t : Int) + 446 + 16 * (k : Int) := by omega
            rw [hcst] at HWi
            rw [HRw.out]
            clear hR3 hR3l hs7 hcst hv7
            refine HWi.out.mono ?_
            rintro e9 w10 ⟨v10, rfl, ho10, hb10⟩
            have HO10 := hide (ho10.mono (B' := w.heap.size) (Nat.le_trans HBA.out.size HB9.out.size))
            have HB10 := hide ((HBA.out.trans (HB9.out.mono HBA.out.size)).trans (hb10.mono (Nat.le_trans HBA.out.size HB9.out.size)))
            clear ho10 hb10 HWi
            go_wp2_with fail
            exact ⟨⟨k + 1, by omega, by go_num, HO10.out, HB10.out⟩, by simp [intOf]; omega⟩
          · have hmI : ¬ (k : Int) < (xmb.length : Int) := by omega
            obtain ⟨m, hm⟩ : ∃ m : Int, m = 0 := ⟨_, rfl⟩
            have hm0 : xmb.getD k 0 = m := by rw [hm, List.getD_eq_getElem?_getD, List.getElem?_eq_none (by omega)]; rfl
            rw [hm0] at HRo
            obtain ⟨W4, hW4⟩ : ∃ W4, W4 = w3 := ⟨_, rfl⟩
            have ho4 : Own W4 wA.heap.size (.slice (some ⟨g, 0, none⟩) 4 c3) [m, 0, 0, 0] := by rw [hW4, hm]; exact ho3'
            have e0 : w3.cell? ⟨wr.heap.size, 0, none⟩ = some (.int .i64 y1) := hx3.cell 0 _ rfl
            have hb4 : Below wA.heap.size wA W4 := by rw [hW4]; exact hb3
            clear ho3 ho3' hb3 hb3' hm hm0 hx3
            have HO4 := hide ho4
            have HB4 := hide hb4
            have HW4 := hide hW4
            clear ho4 hb4 hW4
            go_wp2_with (at_builtin; rw [← HW4.out]; refine wpList_append_bytes rfl _ _ 22 rfl Try.underlying22 info5s wA.heap.size _ [m, 0, 0, 0] rfl (HO4.out.alloc _) _ _ _ [y1 % 256, 0, 0, 0] rfl rfl (Lies.new rfl) (by simp) (by have := HB4.out.size; simp; omega) ?_; intro v5 w5 ho5 hg5; have HO5 := hide ho5; have HB5 := hide ((HB4.out.alloc HB4.out.size _).grown hg5 (HB4.out.alloc HB4.out.size _).size (fun q hq => (World.ownsRow.lt HO4.out q hq).1)); have e1 : w5.cell? ⟨wr.heap.size, 1, none⟩ = some (.int .i64 y2) := (HXA.out.below HB5.out).cell 1 _ rfl; clear ho5 hg5)
            refine ((HBy (y2 % p64) _ (by unfold p64; omega)).out).mono ?_
            rintro e9 w6 ⟨v6, rfl, ho6, hb6⟩
            obtain ⟨a6, c6, hv6, hl6, _⟩ := ho6.form
            subst hv6
            rw [bytesOf_length] at ho6 ⊢
            have HO6 := hide (HO5.out.below hb6)
            have HB6 := hide (HB5.out.trans (hb6.mono HB5.out.size))
            have HL6 := hide hl6
            obtain ⟨R1, hR1⟩ : ∃ R1, R1 = [m, 0, 0, 0] ++ [y1 % 256, 0, 0, 0] := ⟨_, rfl⟩
            rw [← hR1] at HO6
            have HR1l : Hid (R1.length = 8) := hide (by rw [hR1]; rfl)
            have HR1 := hide hR1
            clear ho6 hb6 hl6 e1 HO5 HB5 hR1
            go_wp2_with (at_builtin; refine wpList_append_bytes rfl _ _ 22 rfl Try.underlying22 info5s wA.heap.size _ R1 rfl HO6.out _ _ _ (bytesOf (y2 % p64) 4) rfl (by rw [bytesOf_length]) HL6.out (by rw [HR1l.out, bytesOf_length]; simp) HB6.out.size ?_; intro v7 w7 ho7 hg7; have HO7' := hide ho7; have HB7 := hide (HB6.out.grown hg7 HB6.out.size (fun q hq => (World.ownsRow.lt HO6.out q hq).1)); have e2 : w7.cell? ⟨wr.heap.size, 2, none⟩ = some (.int .i64 y3) := (HXA.out.below HB7.out).cell 2 _ rfl; clear ho7 hg7)
            refine ((HBy (y3 % p64) _ (by unfold p64; omega)).out).mono ?_
            rintro e9 w8 ⟨v8, rfl, ho8, hb8⟩
            obtain ⟨a8, c8, hv8, hl8, _⟩ := ho8.form
            subst hv8
            rw [bytesOf_length] at ho8 ⊢
            have HO9 := hide (HO7'.out.below hb8)
            have HB8 := hide (HB7.out.trans (hb8.mono HB7.out.size))
            have HL8 := hide hl8
            obtain ⟨R2, hR2⟩ : ∃ R2, R2 = R1 ++ bytesOf (y2 % p64) 4 := ⟨_, rfl⟩
            rw [← hR2] at HO9
            have HR2l : Hid (R2.length = 12) := hide (by rw [hR2, List.length_append, HR1l.out, bytesOf_length])
            have HR2 := hide hR2
            clear ho8 hb8 hl8 e2 HO7' HB7 hR2
            go_wp2_with (at_builtin; refine wpList_append_bytes rfl _ _ 22 rfl Try.underlying22 info5s wA.heap.size _ R2 rfl HO9.out _ _ _ (bytesOf (y3 % p64) 4) rfl (by rw [bytesOf_length]) HL8.out (by rw [HR2l.out, bytesOf_length]; simp) HB8.out.size ?_; intro v9 w9 ho9 hg9; obtain ⟨a9, c9, hv9, hs9, _⟩ := ho9.sl; subst hv9; have HS9 := hide hs9; have HB9 := hide (HB8.out.grown hg9 HB8.out.size (fun q hq => (World.ownsRow.lt HO9.out q hq).1)); clear ho9 hg9 hs9)
            obtain ⟨R3, hR3⟩ : ∃ R3, R3 = R2 ++ bytesOf (y3 % p64) 4 := ⟨_, rfl⟩
            have hR3l : R3.length = 16 := by rw [hR3, List.length_append, HR2l.out, bytesOf_length]
            have HRw : Hid (R3 = rowD (y1, y2, y3) m) := hide (by rw [hR3, HR2.out, HR1.out]; rfl)
            rw [← hR3] at HS9
            rw [← List.length_append, ← hR3]
            obtain ⟨a7, c7, hv7, hs7, _⟩ := (HOA.out.below HB9.out).sl
            have HWi := hide (With_any a7 c7 _ a9 c9 R3 (512 * t + 446 + 16 * k) w9 (by rw [HLl.out, HDj.out]; omega) (by omega) (by rw [HLl.out, HDj.out, hR3l]; omega) hs7 HS9.out)
            rw [← hv7, HRw.out, ← HRo.out] at HWi
            have hcst : (((512 * t + 446 + 16 * k : Nat)) : Int) = 512 * (t : Int) + 446 + 16 * (k : Int) := by omega
            rw [hcst] at HWi
            rw [HRw.out]
            clear hR3 hR3l hs7 hcst hv7
            refine HWi.out.mono ?_
            rintro e9 w10 ⟨v10, rfl, ho10, hb10⟩
            have HO10 := hide (ho10.mono (B' := w.heap.size) (Nat.le_trans HBA.out.size HB9.out.size))
            have HB10 := hide ((HBA.out.trans (HB9.out.mono HBA.out.size)).trans (hb10.mono (Nat.le_trans HBA.out.size HB9.out.size)))
            clear ho10 hb10 HWi
            go_wp2_with fail
            exact ⟨⟨k + 1, by omega, by go_num, HO10.out, HB10.out⟩, by simp [intOf]; omega⟩
        · have HEnd : Hid (k = min 4 xL.length) := hide (by omega)
          have hfin : ¬ ((k : Int) < (xL.length : Int)) ∨ ((k : Int) < (xL.length : Int) ∧ ¬ ((k : Int) < 4)) := by omega
          obtain ⟨a7, c7, hv7, hs7, _⟩ := HO8.out.sl
          have hb11 := (Below.refl wr.heap.size wr).alloc (Nat.le_refl _) (.cells #[.int .u8 85, .int .u8 170] 5)
          have HWi := hide (With_any a7 c7 _ (some ⟨wr.heap.size, 0, none⟩) 2 [85, 170] (512 * t + 510) (wr.alloc (.cells #[.int .u8 85, .int .u8 170] 5)) (by rw [layD_len (by rw [HDj.out]; omega) k (by omega), HDj.out]; omega) (by simp) (by rw [layD_len (by rw [HDj.out]; omega) k (by omega), HDj.out]; simp; omega) (hs7.below hb11) ⟨by simp, by unfold maxLen; omega, fun e => (by cases e), Lies.new rfl⟩)
          rw [← hv7] at HWi
          have hcst : (((512 * t + 510 : Nat)) : Int) = 512 * (t : Int) + 510 := by omega
          rw [hcst] at HWi
          have hl2 : ([85, 170] : List Int).length = 2 := rfl
          rw [hl2] at HWi
          have HB11 := hide (HB2.out.trans (hb11.mono HB2.out.size))
          clear hs7 hcst hl2 hv7 hb11
          rcases hfin with hf | ⟨hf, hf2⟩
          all_goals
            go_wp2_with fail
            refine HWi.out.mono ?_
            rintro e9 w10 ⟨v10, rfl, ho10, hb10⟩
            have ho10' : Own w10 w.heap.size v10 (diskD n X (j + 1)) := by
              rw [HSt2.out, ← HEnd.out]
              exact ho10.mono HB11.out.size
            have HO10 := hide ho10'
            have HB10 := hide (HB11.out.trans (hb10.mono HB11.out.size))
            clear ho10 hb10 ho10'
            go_wp2_with fail
            exact ⟨⟨j + 1, by omega, by go_num, HO10.out, HB10.out⟩, by simp [intOf]; omega⟩
      --ENDINNER
    · obtain rfl : j = X.length := by omega
      have hge : ¬ ((X.length : Int) < (X.length : Int)) := by omega
      obtain ⟨a7, c7, hv7, _⟩ := HO7.out.form
      subst hv7
      rw [HDl.out] at HO7 ⊢
      go_wp2_with fail
      go_ret2
      exact ⟨a7, c7, rfl, HO7.out, HB.out⟩
end Go.Proofs.Ytgpggohkapdjpaa.Oct
