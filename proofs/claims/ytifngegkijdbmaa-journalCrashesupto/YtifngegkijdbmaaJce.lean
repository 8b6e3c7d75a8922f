/- The document's records as bytes. -/
import Derived.Test.YtifngegkijdbmaaJcd
import Derived.Test.YtifngegkijdbmaaLst
namespace Go.Proofs.Ytifngegkijdbmaa.Oct
open Go.RowKit Go.Deep Go.WideShapes

theorem bytesOf_leB (v : Int) : ∀ k, bytesOf v k = leB v k
  | 0 => rfl
  | k + 1 => by
    rw [bytesOf, leB, bytesOf_leB v k]
    congr 3
    rw [Int.pow_mul]
    rfl

set_option maxRecDepth 100000 in
set_option maxHeartbeats 8000000 in
theorem REncode_any (a : Option Addr) (cap : Nat) (R : List JR) (w : World) (h : LiesJ w a R) (hn : R.length ≤ 1000000) (hlen : lenD (R.map JR.dat) ≤ 1000000) :
    Calls Try.prog 23 #[.slice a R.length cap] w fun e w' => ∃ v, e = .returned v ∧ Own w' w.heap.size v (encD (R.map JR.dat)) ∧ Below w.heap.size w w' := by
  have HR := hide h
  have HM := hide (fun k => lenD_mono (R.map JR.dat) k)
  have HEl := hide (fun k => encD_length ((R.map JR.dat).take k))
  clear h
  go_enter Try.func23, Try.ntmps23
  go_wp2_with fail
  go_loopw [3, 4] (fun v i wr => ∃ k : Nat, k ≤ R.length ∧ i = .int .i64 (k : Int) ∧ Own wr w.heap.size v (encD ((R.map JR.dat).take k)) ∧ Below w.heap.size w wr) (fun _ i _ => R.length - (intOf i).toNat)
  case atStart => exact ⟨0, by omega, rfl, by simpa [encD] using Own.nil _ _, Below.refl _ _⟩
  case round =>
    obtain ⟨k, hk, rfl, ho, hbel⟩ := hrel
    have HBl := hide hbel
    have HOw := hide ho
    clear hbel ho
    by_cases hlt : k < R.length
    · rcases HR.out with hE | ⟨b, off, rfl, hblt, hc⟩
      · rw [hE] at hlt; simp at hlt
      obtain ⟨q0, q1, q2⟩ := hc k hlt
      have r0 := (HBl.out.cell (p := ⟨b, off + k * 2, none⟩) hblt).trans q0
      have r1 := (HBl.out.cell (p := ⟨b, off + k * 2 + 1, none⟩) hblt).trans q1
      have HQ2 := hide q2
      have HS := hide (lenJ_step R k hlt)
      have HSE := hide (encJ_step R k hlt)
      have h1 := HM.out (k + 1)
      have hXl := HEl.out k
      rw [HS.out] at h1
      clear hc q0 q1 q2
      generalize hr : R.getD k JR.z = r at *
      clear hr
      generalize lenD ((R.map JR.dat).take k) = t at *
      generalize encD ((R.map JR.dat).take k) = X at *
      subst hXl
      have hXT : X.length + 12 + r.b.length ≤ 1000000 := by omega
      have hw0 : 0 ≤ IntKind.u64.wrap r.at_ := by rw [IntKind.wrap_u64]; omega
      have hw1 : IntKind.u64.wrap r.at_ < 18446744073709551616 := by rw [IntKind.wrap_u64]; omega
      have HC1 := hide (Bytes_any (IntKind.u64.wrap r.at_) 8 wr (by omega) hw0 hw1)
      rw [bytesOf_leB] at HC1
      have HL8 := hide (leB_length (IntKind.u64.wrap r.at_) 8)
      have HL4 := hide (leB_length (r.b.length : Int) 4)
      have HEr : Hid (X ++ encR r.dat = X ++ leB (IntKind.u64.wrap r.at_) 8 ++ leB (r.b.length : Int) 4 ++ r.b) := hide (by
        rw [encR_eq]
        simp only [List.append_assoc])
      clear hw0 hw1
      go_wp2_with fail
      generalize leB (IntKind.u64.wrap r.at_) 8 = Y8 at *
      refine HC1.out.mono ?_
      rintro e9 w2 ⟨v2, rfl, ho2, hb2⟩
      obtain ⟨a2, c2, rfl, hsl2, _⟩ := ho2.sl
      have HLi2 := hide hsl2.lies
      have HB2 := hide (HBl.out.trans (hb2.mono HBl.out.size))
      have HO2 := hide (HOw.out.below hb2)
      have s0 := (HB2.out.cell (p := ⟨b, off + k * 2, none⟩) hblt).trans ((HBl.out.cell (p := ⟨b, off + k * 2, none⟩) hblt).symm.trans r0)
      have s1 := (HB2.out.cell (p := ⟨b, off + k * 2 + 1, none⟩) hblt).trans ((HBl.out.cell (p := ⟨b, off + k * 2 + 1, none⟩) hblt).symm.trans r1)
      clear ho2 hb2 hsl2 r0 r1 HC1
      go_wp2_with (at_builtin; refine wpList_append_bytes rfl _ _ 22 rfl Try.underlying22 info5 w.heap.size _ X rfl (by exact HO2.out) _ _ _ Y8 rfl rfl (by exact HLi2.out) (by rw [HL8.out]; omega) (by exact HB2.out.size) ?_; intro v3 w3 ho3 hg3; have HO3 := hide ho3; have HB3 := hide (Own.behind HO2.out HB2.out hg3 HB2.out.size); have t1 := (HB3.out.cell (p := ⟨b, off + k * 2 + 1, none⟩) hblt).trans ((HB2.out.cell (p := ⟨b, off + k * 2 + 1, none⟩) hblt).symm.trans s1); clear ho3 hg3 s0 s1)
      have HC4 := hide (Bytes_any (r.b.length : Int) 4 w3 (by omega) (by omega) (by omega))
      rw [bytesOf_leB] at HC4
      refine HC4.out.mono ?_
      generalize leB (r.b.length : Int) 4 = Y4 at *
      rintro e9 w4 ⟨v4, rfl, ho4, hb4⟩
      obtain ⟨a4, c4, rfl, hsl4, _⟩ := ho4.sl
      have HLi4 := hide hsl4.lies
      have HB4 := hide (HB3.out.trans (hb4.mono HB3.out.size))
      have HO4 := hide (HO3.out.below hb4)
      have t4 := (HB4.out.cell (p := ⟨b, off + k * 2 + 1, none⟩) hblt).trans ((HB3.out.cell (p := ⟨b, off + k * 2 + 1, none⟩) hblt).symm.trans t1)
      clear ho4 hb4 hsl4 t1 HC4
      have HZ8 : Hid ((X ++ Y8).length = X.length + 8) := hide (by rw [List.length_append, HL8.out])
      have HZ12 : Hid ((X ++ Y8 ++ Y4).length = X.length + 12) := hide (by rw [List.length_append, List.length_append, HL8.out, HL4.out])
      go_wp2_with (first
        | (at_builtin; refine wpList_append_bytes rfl _ _ 22 rfl Try.underlying22 info5 w.heap.size _ (X ++ Y8) rfl (by exact HO4.out) _ _ _ Y4 rfl rfl (by exact HLi4.out) (by rw [HZ8.out, HL4.out]; omega) (by exact HB4.out.size) ?_; intro v5 w5 ho5 hg5; have HO5 := hide ho5; have HB5 := hide (Own.behind HO4.out HB4.out hg5 HB4.out.size); have t5 := (HB5.out.cell (p := ⟨b, off + k * 2 + 1, none⟩) hblt).trans ((HB4.out.cell (p := ⟨b, off + k * 2 + 1, none⟩) hblt).symm.trans t4); clear ho5 hg5 t4)
        | (at_builtin; refine wpList_append_bytes rfl _ _ 22 rfl Try.underlying22 info5 w.heap.size _ (X ++ Y8 ++ Y4) rfl (by exact HO5.out) _ _ _ r.b rfl rfl (by exact (HQ2.out.below HB5.out).lies) (by rw [HZ12.out]; omega) (by exact HB5.out.size) ?_; intro v6 w6 ho6 hg6; have HO6 := hide ho6; have HB6 := hide (Own.behind HO5.out HB5.out hg6 HB5.out.size); clear ho6 hg6))
      exact ⟨⟨k + 1, by omega, by congr 1 <;> omega, by rw [HSE.out, HEr.out]; exact HO6.out, HB6.out⟩, by simp [intOf]; omega⟩
    · obtain rfl : k = R.length := by omega
      have e : (R.map JR.dat).take R.length = R.map JR.dat := by rw [List.take_of_length_le (by simp)]
      rw [e] at HOw
      clear e
      go_wp2_with fail
      go_ret
      exact ⟨_, rfl, HOw.out, HBl.out⟩

theorem far_in {w wr : World} {v : Value} {r : JR} (hs : Sl w r.a r.cap r.b) (hb : Below w.heap.size w wr) (hv : ∀ g, v.ownBlock = some g → w.heap.size ≤ g) : FarQ wr v r :=
  ⟨hs.below hb, fun hne => by
    rcases hs.lies with h | ⟨b, off, h1, h2, _⟩
    · exact absurd h hne
    · exact ⟨_, h1, Nat.lt_of_lt_of_le h2 hb.size, fun e => by have := hv _ e; simp at this; omega⟩⟩
end Go.Proofs.Ytifngegkijdbmaa.Oct
