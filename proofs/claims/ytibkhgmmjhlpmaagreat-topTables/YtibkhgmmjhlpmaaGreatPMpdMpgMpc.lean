/- The example that holds at every input. -/
import Derived.Test.YtibkhgmmjhlpmaaGreatPMpmMpe
namespace Go.Proofs.YtibkhgmmjhlpmaaGreat.Oct
open Go.RowKit

theorem belowN {n : Nat} {w u : World} (h : Below n w u) (k : Nat) : Below n w (u.drewN k) := ⟨h.os, h.tape, h.output, h.size, h.block⟩

/-- What the document's Encode says besides: of a kind 0 or 1 that. -/
def refN (k c : Int) (o : Bool) : Int := if k = 0 ∨ k = 1 then k else encN k c o

theorem refN_ok {k c : Int} {o : Bool} (h : okE k c o = true) : refN k c o = encN k c o := by
  unfold refN
  split
  · unfold encN; rw [if_pos h, if_neg (by omega)]
  · rfl

theorem refN_bd (k c : Int) (o : Bool) : 0 ≤ refN k c o ∧ refN k c o < 18446744073709551616 := by
  unfold refN
  split
  · omega
  · exact encN_bd k c o

/-- Cells of an entry that is laid. -/
theorem set3 {u : World} {R : Nat} {k c : Int} {o : Bool} {t : TypeId} (h : StE u R #[.int .i64 k, .int .i64 c, .bool o] t) (k2 c2 : Int) (o2 : Bool) :
    StE (((u.setCell ⟨R, 0, none⟩ (.int .i64 k2)).setCell ⟨R, 1, none⟩ (.int .i64 c2)).setCell ⟨R, 2, none⟩ (.bool o2)) R #[.int .i64 k2, .int .i64 c2, .bool o2] t :=
  ((h.set 0 _).set 1 _).set 2 _

theorem below3 {w u : World} {R : Nat} (h : Below w.heap.size w u) (hR : w.heap.size ≤ R) (x0 x1 x2 : Value) :
    Below w.heap.size w (((u.setCell ⟨R, 0, none⟩ x0).setCell ⟨R, 1, none⟩ x1).setCell ⟨R, 2, none⟩ x2) :=
  ((h.setCell (p := ⟨R, 0, none⟩) hR _).setCell (p := ⟨R, 1, none⟩) hR _).setCell (p := ⟨R, 2, none⟩) hR _

theorem other3 {u : World} {R R' : Nat} {k c : Int} {o : Bool} {t : TypeId} (h : StE u R' #[.int .i64 k, .int .i64 c, .bool o] t) (hne : R ≠ R') (x0 x1 x2 : Value) :
    StE (((u.setCell ⟨R, 0, none⟩ x0).setCell ⟨R, 1, none⟩ x1).setCell ⟨R, 2, none⟩ x2) R' #[.int .i64 k, .int .i64 c, .bool o] t :=
  ((h.other hne 0 _).other hne 1 _).other hne 2 _

end Go.Proofs.YtibkhgmmjhlpmaaGreat.Oct

namespace Go.Proofs.YtibkhgmmjhlpmaaGreat.Oct
open Go.RowKit

set_option maxHeartbeats 4000000 in
theorem decode_any (v : Int) (w : World) (h0 : 0 ≤ v) (h1 : v < 18446744073709551616) : Calls Tryz.prog 86 #[.int .u64 v] w fun e w' => e = .returned (.tuple #[.agg #[.int .i64 (decK v), .int .i64 (decC v), .bool (decOw v)], .int .i64 (noE (okV v))]) ∧ Below w.heap.size w w' := by
  have HV := hide (okV_iff v h0 h1)
  by_cases h2 : v < 2
  · have k1 : preK v = v := if_pos h2
    have k2 : preC v = 0 := if_pos h2
    have k3 : preO v = false := if_pos h2
    have k5 : okV v = true := decide_eq_true (Or.inl h2)
    have q1 : decK v = v := by unfold decK; rw [if_pos k5, k1]
    have q2 : decC v = 0 := by unfold decC; rw [if_pos k5, k2]
    have q3 : decOw v = false := by unfold decOw; rw [if_pos k5, k3]
    rw [q1, q2, q3, k5]
    have hE := HV.out
    rw [k5, k1, k2, k3] at hE
    have hE2 : okE v 0 false = true ∧ encN v 0 false = v := by simpa using hE.symm
    clear k1 k2 k3 k5 q1 q2 q3 hE HV
    have HE : ∀ u, Hid (Calls Tryz.prog 61 #[.agg #[.int .i64 v, .int .i64 0, .bool false]] u fun e w' => e = .returned (.tuple #[.int .u64 v, .int .i64 0]) ∧ Below u.heap.size u w') := fun u => hide (by have := encode_any v 0 false u; rw [hE2.1, hE2.2] at this; exact this)
    clear hE2
    have hv : v = 0 ∨ v = 1 := by omega
    have hA := andNot_high v h0 h1
    have hO := and_high v h0 h1
    rw [if_neg (by omega)] at hO
    have hm : v % 9223372036854775808 = v := by omega
    rw [hm] at hA
    have HR := hide ((StE.new w #[.int .i64 0, .int .i64 0, .bool false] 43).below ((Below.refl _ _).alloc (Nat.le_refl _) (.cells #[.int .i64 v, .int .i64 0, .bool false] 43)))
    have HL : Hid (StE _ (w.heap.size + 1) _ _) := hide (StE.new2 w (.cells #[.int .i64 0, .int .i64 0, .bool false] 43) #[.int .i64 v, .int .i64 0, .bool false] 43)
    have HB := hide (((Below.refl w.heap.size w).alloc (Nat.le_refl _) (.cells #[.int .i64 0, .int .i64 0, .bool false] 43)).alloc (by simp) (.cells #[.int .i64 v, .int .i64 0, .bool false] 43))
    clear hm h2
    rcases hv with rfl | rfl
    · go_enter Tryz.func86, Tryz.ntmps86
      go_wp2_with fail
      refine ((HE _).out).mono ?_
      rintro e9 w2 ⟨rfl, hb2⟩
      have HR := hide (HR.out.below hb2)
      have HL := hide (HL.out.below hb2)
      have HB := hide (HB.out.trans (hb2.mono HB.out.size))
      clear hb2
      obtain ⟨c0, c1, c2⟩ := HL.out.box
      obtain ⟨d0, d1, d2⟩ := HR.out.box
      have f0 := HR.out.frozen 0
      have f1 := HR.out.frozen 1
      have f2 := HR.out.frozen 2
      go_wp2_with fail
      refine bodyPost_ret (ret_E rfl _ _ w.heap.size _ _ _ _ rfl rfl (set3 HR.out 0 0 false)) rfl ⟨?_, below3 HB.out (Nat.le_refl _) _ _ _⟩
      rfl
    · go_enter Tryz.func86, Tryz.ntmps86
      go_wp2_with fail
      refine ((HE _).out).mono ?_
      rintro e9 w2 ⟨rfl, hb2⟩
      have HR := hide (HR.out.below hb2)
      have HL := hide (HL.out.below hb2)
      have HB := hide (HB.out.trans (hb2.mono HB.out.size))
      clear hb2
      obtain ⟨c0, c1, c2⟩ := HL.out.box
      obtain ⟨d0, d1, d2⟩ := HR.out.box
      have f0 := HR.out.frozen 0
      have f1 := HR.out.frozen 1
      have f2 := HR.out.frozen 2
      go_wp2_with fail
      refine bodyPost_ret (ret_E rfl _ _ w.heap.size _ _ _ _ rfl rfl (set3 HR.out 1 0 false)) rfl ⟨?_, below3 HB.out (Nat.le_refl _) _ _ _⟩
      rfl
  have k1 : preK v = 2 := if_neg h2
  have k2 : preC v = v % 9223372036854775808 / 256 := if_neg h2
  have k3 : preO v = decide (9223372036854775808 ≤ v) := if_neg h2
  obtain ⟨c, hc⟩ : ∃ c, c = v % 9223372036854775808 / 256 := ⟨_, rfl⟩
  obtain ⟨o, ho⟩ : ∃ o, o = decide (9223372036854775808 ≤ v) := ⟨_, rfl⟩
  rw [← hc] at k2
  rw [← ho] at k3
  have hE := HV.out
  rw [k1, k2, k3] at hE
  have q1 : decK v = if okV v then 2 else 0 := by unfold decK; rw [k1]
  have q2 : decC v = if okV v then c else 0 := by unfold decC; rw [k2]
  have q3 : decOw v = if okV v then o else false := by unfold decOw; rw [k3]
  have HY : Hid (okV v = true → decK v = 2 ∧ decC v = c ∧ decOw v = o) := hide (fun h => by rw [q1, q2, q3, h]; exact ⟨rfl, rfl, rfl⟩)
  have HN : Hid (okV v = false → decK v = 0 ∧ decC v = 0 ∧ decOw v = false) := hide (fun h => by rw [q1, q2, q3, h]; exact ⟨rfl, rfl, rfl⟩)
  have HE : ∀ u, Hid (Calls Tryz.prog 61 #[.agg #[.int .i64 2, .int .i64 c, .bool o]] u fun e w' => e = .returned (.tuple #[.int .u64 (encN 2 c o), .int .i64 (noE (okE 2 c o))]) ∧ Below u.heap.size u w') := fun u => hide (encode_any 2 c o u)
  have hA := andNot_high v h0 h1
  have hO := and_high v h0 h1
  have hS : v % 9223372036854775808 / 2 ^ 8 = c := hc.symm
  have hcb : 0 ≤ c ∧ c < 9223372036854775808 := by omega
  have hO2 : (bits .and .u64 v 9223372036854775808 != 0) = o := by
    rw [hO, ho]
    by_cases h : 9223372036854775808 ≤ v
    · simp [h]
    · simp [h]
  have v0 : (v == 0) = false := by simp; omega
  have v1 : (v == 1) = false := by simp; omega
  have HR := hide ((StE.new w #[.int .i64 0, .int .i64 0, .bool false] 43).below ((Below.refl _ _).alloc (Nat.le_refl _) (.cells #[.int .i64 2, .int .i64 c, .bool o] 43)))
  have HL : Hid (StE _ (w.heap.size + 1) _ _) := hide (StE.new2 w (.cells #[.int .i64 0, .int .i64 0, .bool false] 43) #[.int .i64 2, .int .i64 c, .bool o] 43)
  have HB := hide (((Below.refl w.heap.size w).alloc (Nat.le_refl _) (.cells #[.int .i64 0, .int .i64 0, .bool false] 43)).alloc (by simp) (.cells #[.int .i64 2, .int .i64 c, .bool o] 43))
  have HC := hide hc.symm
  clear k1 k2 k3 q1 q2 q3 HV ho hO hc
  generalize okE 2 c o = a at *
  generalize encN 2 c o = b at *
  generalize okV v = d at *
  generalize decK v = x at *
  generalize decC v = y at *
  generalize decOw v = z at *
  have HD := hide hE
  clear hE
  go_enter Tryz.func86, Tryz.ntmps86
  go_wp2_with fail
  rw [HC.out]
  refine ((HE _).out).mono ?_
  rintro e9 w2 ⟨rfl, hb2⟩
  have HR2 := hide (HR.out.below hb2)
  have HL2 := hide (HL.out.below hb2)
  have HB2 := hide (HB.out.trans (hb2.mono HB.out.size))
  clear hb2 HR HL HB
  obtain ⟨c0, c1, c2⟩ := HL2.out.box
  obtain ⟨d0, d1, d2⟩ := HR2.out.box
  have f0 := HR2.out.frozen 0
  have f1 := HR2.out.frozen 1
  have f2 := HR2.out.frozen 2
  clear hS hA hO2
  cases a
  · obtain rfl : d = false := by simpa using HD.out
    obtain ⟨rfl, rfl, rfl⟩ := HN.out rfl
    have hn : noE false = 11 := rfl
    rw [hn]
    clear hn HN HY HD
    go_wp2_with fail
    refine bodyPost_ret (ret_E rfl _ _ w.heap.size _ _ _ _ rfl rfl (set3 HR2.out 0 0 false)) rfl ⟨?_, below3 HB2.out (Nat.le_refl _) _ _ _⟩
    rfl
  · have hn : noE true = 0 := rfl
    rw [hn]
    by_cases hbv : b = v
    · obtain rfl : d = true := by simpa [hbv] using HD.out
      obtain ⟨rfl, rfl, rfl⟩ := HY.out rfl
      subst hbv
      have hb0 : (b != b) = false := by simp
      clear HN HY HD
      go_wp2_with fail
      refine bodyPost_ret (ret_E rfl _ _ w.heap.size _ _ _ _ rfl rfl (set3 HR2.out 2 y z)) rfl ⟨?_, below3 HB2.out (Nat.le_refl _) _ _ _⟩
      rfl
    · obtain rfl : d = false := by simpa [hbv] using HD.out
      obtain ⟨rfl, rfl, rfl⟩ := HN.out rfl
      have hb0 : (b != v) = true := by simp [hbv]
      clear HN HY HD
      go_wp2_with fail
      refine bodyPost_ret (ret_E rfl _ _ w.heap.size _ _ _ _ rfl rfl (set3 HR2.out 0 0 false)) rfl ⟨?_, below3 HB2.out (Nat.le_refl _) _ _ _⟩
      rfl
end Go.Proofs.YtibkhgmmjhlpmaaGreat.Oct

namespace Go.Proofs.YtibkhgmmjhlpmaaGreat.Oct
open Go.RowKit

theorem coded1 : encN 2 3 false = 768 ∧ okE 2 3 false = true := by decide
theorem coded2 : decK 2 = 0 ∧ decC 2 = 0 ∧ decOw 2 = false ∧ okV 2 = false := by decide
theorem coded3 : decK 9223372036854776576 = 2 ∧ decC 9223372036854776576 = 3 ∧ decOw 9223372036854776576 = true ∧ okV 9223372036854776576 = true := by decide
end Go.Proofs.YtibkhgmmjhlpmaaGreat.Oct
