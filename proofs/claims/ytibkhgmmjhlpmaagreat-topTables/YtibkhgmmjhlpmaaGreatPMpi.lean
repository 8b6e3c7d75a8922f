/- What the program's List and Bytes of entries answer. -/
import Derived.Test.YtibkhgmmjhlpmaaGreatPMpv
import Derived.Test.YtibkhgmmjhlpmaaGreatPRdLowWrLst
namespace Go.Proofs.YtibkhgmmjhlpmaaGreat.Oct
open Go.RowKit

/-- The entry of a number, as a list has it. -/
def dec3 (v : Int) : E3 := (decK v, decC v, decOw v)

/-- What List answers: all numbers are entries, and these; or one isn't. -/
def Listed (w : World) (l : List Int) (e : Ending) (w' : World) : Prop :=
  (∃ v R, e = .returned (.tuple #[v, .int .i64 0]) ∧ OwnN w' w.heap.size v R ∧ R.length = l.length / 8 ∧ ∀ j, j < l.length / 8 → okV (num l (8 * j) 8) = true ∧ R.getD j z3 = dec3 (num l (8 * j) 8)) ∨
  ((∃ j, j < l.length / 8 ∧ okV (num l (8 * j) 8) = false) ∧ e = .returned (.tuple #[.slice none 0 0, .int .i64 11]))

theorem num8 (l : List Int) (hb : Byts l) (p : Nat) : 0 ≤ num l p 8 ∧ num l p 8 < 18446744073709551616 := by
  have := num_lt l p hb 8
  have e : (256 : Int) ^ 8 = 18446744073709551616 := by decide
  omega

theorem getD_set3 (R : List E3) (k j : Nat) (x : E3) (hk : k < R.length) : (R.set k x).getD j z3 = if k = j then x else R.getD j z3 := by
  rw [List.getD_eq_getElem?_getD, List.getElem?_set]
  split
  · simp
  · rw [List.getD_eq_getElem?_getD]

set_option maxHeartbeats 4000000 in
theorem list_any (a : Option Addr) (cap : Nat) (l : List Int) (w : World) (hlen : l.length ≤ 1000000) (hb : Byts l) (hl : Lies w a l) :
    Calls Tryz.prog 58 #[.slice a l.length cap] w fun e w' => Listed w l e w' ∧ Below w.heap.size w w' := by
  obtain ⟨n, hn⟩ : ∃ n, n = l.length / 8 := ⟨_, rfl⟩
  have HN := hide hn
  have HM := fun u => hide (run_make_ents u n (by omega))
  have hmk := (HM w).out
  have hd : (l.length : Int) / 8 = (n : Int) := by omega
  have ht : (l.length : Int).tdiv 8 = (n : Int) := by rw [← hd]; exact Int.tdiv_eq_ediv_of_nonneg (by omega)
  have HO := hide (OwnN.made w n (by unfold maxLen; omega))
  have HB0 := hide ((Below.refl w.heap.size w).alloc (Nat.le_refl _) (.cells (madeCells #[.int .i64 0, .int .i64 0, .bool false] (n * 3)) 43))
  have HL := hide hl
  have HBy := hide hb
  clear hl hb HM hn
  go_enter Tryz.func58, Tryz.ntmps58
  go_wp2_with fail
  go_loopw [16] (fun i wr => ∃ (k : Nat) (R : List E3), k ≤ n ∧ i = .int .i64 k ∧ OwnN wr w.heap.size (.slice (some ⟨w.heap.size, 0, none⟩) n n) R ∧ R.length = n ∧ (∀ j, j < k → okV (num l (8 * j) 8) = true ∧ R.getD j z3 = dec3 (num l (8 * j) 8)) ∧ Below w.heap.size w wr) (fun i _ => n - (intOf i).toNat)
  case atStart => exact ⟨0, _, by omega, rfl, HO.out, by simp, by intro j hj; omega, HB0.out⟩
  case round =>
    obtain ⟨k, R, hk, rfl, ho, hRn, hall, hbel⟩ := hrel
    have HOw := hide ho
    have HRn := hide hRn
    have HAll := hide hall
    have HBel := hide hbel
    clear ho hRn hall hbel
    by_cases hlt : k < n
    · have HU := hide (U64_any a cap l ((8 * k : Nat) : Int) wr (by unfold maxLen; omega) HBy.out (HL.out.below HBel.out) (by omega) (by omega))
      have hth : thereB l.length ((8 * k : Nat) : Int) 8 = true := thereB_yes (by omega) (by omega) (by have := HN.out; omega)
      have hnm : numAt l ((8 * k : Nat) : Int) 8 = num l (8 * k) 8 := numAt_yes (by have := HN.out; omega)
      rw [hth, hnm] at HU
      have h8 : (((8 * k : Nat)) : Int) = 8 * (k : Int) := by omega
      rw [h8] at HU
      have hnb := num8 l HBy.out (8 * k)
      have HD := fun u => hide (decode_any (num l (8 * k) 8) u hnb.1 hnb.2)
      obtain ⟨v, hv⟩ : ∃ v, v = num l (8 * k) 8 := ⟨_, rfl⟩
      rw [← hv] at HU HD
      have HV := hide hv
      clear hv hth hnm h8 hnb
      obtain ⟨x, hx⟩ : ∃ x, x = decK v := ⟨_, rfl⟩
      obtain ⟨y, hy⟩ : ∃ y, y = decC v := ⟨_, rfl⟩
      obtain ⟨z, hz⟩ : ∃ z, z = decOw v := ⟨_, rfl⟩
      rw [← hx, ← hy, ← hz] at HD
      have HX : Hid ((x, y, z) = dec3 v) := hide (by rw [hx, hy, hz]; rfl)
      clear hx hy hz
      obtain ⟨b, hbk⟩ : ∃ b, b = okV v := ⟨_, rfl⟩
      rw [← hbk] at HD
      have HK := hide hbk
      clear hbk
      go_wp2_with fail
      refine HU.out.mono ?_
      rintro e9 w2 ⟨rfl, h2⟩
      subst h2
      go_wp2_with fail
      refine ((HD _).out).mono ?_
      rintro e9 w3 ⟨rfl, hb3⟩
      have HB4 := hide ((HBel.out.trans (hb3.mono HBel.out.size)).alloc (Nat.le_trans HBel.out.size hb3.size) (.cells #[.int .i64 x, .int .i64 y, .bool z] 43))
      have HO4 := hide ((HOw.out.below hb3).below ((Below.refl _ _).alloc (Nat.le_refl _) (.cells #[.int .i64 x, .int .i64 y, .bool z] 43)))
      have HO3 := hide (HOw.out.below hb3)
      have hne : w.heap.size ≠ w3.heap.size := by
        have h1 := (World.ownsRow.lt HOw.out w.heap.size rfl).2
        have h2 := hb3.size
        omega
      clear hb3
      cases b
      · have hn11 : noE false = 11 := rfl
        rw [hn11]
        clear hn11
        go_wp2_with fail
        go_ret2
        exact ⟨Or.inr ⟨⟨k, by rw [← HN.out]; exact hlt, by rw [← HV.out, ← HK.out]⟩, rfl⟩, HB4.out⟩
      · have hn0 : noE true = 0 := rfl
        rw [hn0]
        clear hn0
        obtain ⟨c0, c1, c2⟩ := HO4.out.cells k (by rw [HRn.out]; exact hlt)
        have f0 := HO4.out.frozen HRn.out.symm (k * 3)
        have f1 := HO4.out.frozen HRn.out.symm (k * 3 + 1)
        have f2 := HO4.out.frozen HRn.out.symm (k * 3 + 2)
        generalize (R.getD k z3).1 = r0 at *
        generalize (R.getD k z3).2.1 = r1 at *
        generalize (R.getD k z3).2.2 = r2 at *
        go_wp2_with fail
        have hs := HO4.out.set HRn.out.symm k (x, y, z) hlt
        refine ⟨⟨k + 1, R.set k (x, y, z), by omega, by go_num, hs.1, by rw [List.length_set, HRn.out], fun j hj => ?_, HB4.out.grown hs.2 HB4.out.size (fun q hq => by simp at hq; omega)⟩, by simp [intOf]; omega⟩
        rw [getD_set3 R k j _ (by rw [HRn.out]; exact hlt)]
        by_cases hjk : k = j
        · subst hjk
          rw [if_pos rfl, ← HV.out, ← HK.out, HX.out]
          exact ⟨rfl, rfl⟩
        · rw [if_neg hjk]
          exact HAll.out j (by omega)
    · obtain rfl : k = n := by omega
      go_wp2_with fail
      go_ret2
      exact ⟨Or.inl ⟨_, R, rfl, HOw.out, by rw [HRn.out, HN.out], fun j hj => HAll.out j (by rw [HN.out]; exact hj)⟩, HBel.out⟩

/-- An entry's number, as a list has it. -/
def enN (x : E3) : Int := encN x.1 x.2.1 x.2.2
def okN (x : E3) : Bool := okE x.1 x.2.1 x.2.2

/-- Bytes that are the numbers of entries one behind the other, the first k. -/
def LaidE (m : List Int) (L : List E3) (k : Nat) : Prop := ∀ j, j < k → ∀ i, i < 8 → m.getD (8 * j + i) 0 = enN (L.getD j z3) / 2 ^ (8 * i) % 256

/-- What Bytes answers. -/
def Byted (w : World) (L : List E3) (e : Ending) (w' : World) : Prop :=
  (∃ v m, e = .returned (.tuple #[v, .int .i64 0]) ∧ Own w' w.heap.size v m ∧ m.length = 8 * L.length ∧ Byts m ∧ (∀ j, j < L.length → okN (L.getD j z3) = true) ∧ LaidE m L L.length) ∨
  ((∃ j, j < L.length ∧ okN (L.getD j z3) = false) ∧ e = .returned (.tuple #[.slice none 0 0, .int .i64 11]))

set_option maxHeartbeats 4000000 in
theorem bytes_any (a : Option Addr) (cap : Nat) (L : List E3) (w : World) (hlen : L.length ≤ 100000) (hl : LiesN w a L) :
    Calls Tryz.prog 35 #[.slice a L.length cap] w fun e w' => Byted w L e w' ∧ Below w.heap.size w w' := by
  obtain ⟨n, hn⟩ : ∃ n, n = L.length := ⟨_, rfl⟩
  have hmk := run_make_bytes w (8 * n) (by omega)
  have h8 : (((8 * n : Nat)) : Int) = 8 * (n : Int) := by omega
  rw [h8] at hmk
  have HO := hide (Own.made w (8 * n) (by unfold maxLen; omega))
  have HB0 := hide ((Below.refl w.heap.size w).alloc (Nat.le_refl _) (.cells (madeCells #[.int .u8 0] (8 * n)) 5))
  have HL := hide hl
  have HN := hide hn
  clear hl h8
  rw [← hn] at hlen ⊢
  clear hn
  go_enter Tryz.func35, Tryz.ntmps35
  go_wp2_with fail
  go_loopw [15] (fun i wr => ∃ (k : Nat) (m : List Int), k ≤ n ∧ i = .int .i64 k ∧ Own wr w.heap.size (.slice (some ⟨w.heap.size, 0, none⟩) (8 * n) (8 * n)) m ∧ m.length = 8 * n ∧ Byts m ∧ (∀ j, j < k → okN (L.getD j z3) = true) ∧ LaidE m L k ∧ Below w.heap.size w wr) (fun i _ => n - (intOf i).toNat)
  case atStart => exact ⟨0, _, by omega, rfl, HO.out, by simp, Byts.zeros _, by intro j hj; omega, by intro j hj; omega, HB0.out⟩
  case round =>
    obtain ⟨k, m, hk, rfl, ho, hmn, hby, hall, hlaid, hbel⟩ := hrel
    have HOw := hide ho
    have HMn := hide hmn
    have HBy := hide hby
    have HAll := hide hall
    have HLd := hide hlaid
    have HBel := hide hbel
    clear ho hmn hby hall hlaid hbel
    by_cases hlt : k < n
    · rcases HL.out.below HBel.out with h | ⟨b, off, rfl, hbl, hc⟩
      · exfalso
        have := HN.out
        rw [h] at this
        simp at this
        omega
      obtain ⟨c0, c1, c2⟩ := hc k (by rw [← HN.out]; exact hlt)
      clear hc
      obtain ⟨x, hx⟩ : ∃ x, x = L.getD k z3 := ⟨_, rfl⟩
      rw [← hx] at c0 c1 c2
      have HX := hide hx
      clear hx
      obtain ⟨q, c, o⟩ := x
      have HE := fun u => hide (encode_any q c o u)
      obtain ⟨v, hv⟩ : ∃ v, v = encN q c o := ⟨_, rfl⟩
      obtain ⟨d, hd⟩ : ∃ d, d = okE q c o := ⟨_, rfl⟩
      rw [← hv, ← hd] at HE
      have HV := hide hv
      have HD := hide hd
      clear hv hd
      simp only at c0 c1 c2
      have HP : ∀ u, Own u w.heap.size (.slice (some ⟨w.heap.size, 0, none⟩) (8 * n) (8 * n)) m → Hid (Calls Tryz.prog 62 #[.slice (some ⟨w.heap.size, 0, none⟩) (8 * n) (8 * n), .int .i64 (8 * (k : Int)), .int .u64 v] u fun e w' =>
          e = .returned (.bool true) ∧ Own w' w.heap.size (.slice (some ⟨w.heap.size, 0, none⟩) (8 * n) (8 * n)) (putN m (8 * k) v 8) ∧ u.grownBy w' (some w.heap.size)) := fun u hu => hide (by
        have h8 : (((8 * k : Nat)) : Int) = 8 * (k : Int) := by omega
        have h9 : Own u w.heap.size (.slice (some ⟨w.heap.size, 0, none⟩) m.length (8 * n)) m := by rw [HMn.out]; exact hu
        have h := Put64_yes w.heap.size w.heap.size (8 * n) m (8 * k) v u (by rw [HMn.out]; unfold maxLen; omega) (by rw [HMn.out]; omega) h9
        rw [HMn.out, h8] at h
        exact h)
      go_wp2_with fail
      refine ((HE _).out).mono ?_
      rintro e9 w3 ⟨rfl, hb3⟩
      have HB3 := hide ((HBel.out.alloc HBel.out.size (.cells #[.int .i64 q, .int .i64 c, .bool o] 43)).trans (hb3.mono (Nat.le_trans HBel.out.size (by simp))))
      have HO3 := hide ((HOw.out.alloc (.cells #[.int .i64 q, .int .i64 c, .bool o] 43)).below hb3)
      clear hb3 c0 c1 c2
      cases d
      · have hn11 : noE false = 11 := rfl
        rw [hn11]
        clear hn11
        go_wp2_with fail
        go_ret2
        exact ⟨Or.inr ⟨⟨k, by rw [← HN.out]; exact hlt, by rw [← HX.out]; exact HD.out.symm⟩, rfl⟩, HB3.out⟩
      · have hn0 : noE true = 0 := rfl
        rw [hn0]
        clear hn0
        go_wp2_with fail
        refine ((HP _ HO3.out).out).mono ?_
        rintro e9 w4 ⟨rfl, ho4, hg4⟩
        have HO4 := hide ho4
        have HB4 := hide (HB3.out.grown hg4 HB3.out.size (fun q hq => by simp at hq; omega))
        clear ho4 hg4
        go_wp2_with fail
        have hm8 : 8 * k + 8 ≤ m.length := by rw [HMn.out]; omega
        refine ⟨⟨k + 1, _, by omega, by go_num, HO4.out, by rw [putN_length, HMn.out], Byts.putN HBy.out _ _ _, fun j hj => ?_, fun j hj i hi => ?_, HB4.out⟩, by simp [intOf]; omega⟩
        · by_cases hjk : j = k
          · subst hjk
            rw [← HX.out]; exact HD.out.symm
          · exact HAll.out j (by omega)
        · rw [getD_putN m (8 * k) v (8 * j + i) 8 hm8]
          by_cases hjk : j = k
          · subst hjk
            rw [if_pos (by omega), ← HX.out, Nat.add_sub_cancel_left, HV.out]
            rfl
          · rw [if_neg (by omega)]
            exact HLd.out j (by omega) i hi
    · obtain rfl : k = n := by omega
      go_wp2_with fail
      go_ret2
      exact ⟨Or.inl ⟨_, m, rfl, HOw.out, by rw [HMn.out, HN.out], HBy.out, fun j hj => HAll.out j (by rw [HN.out]; exact hj), fun j hj => HLd.out j (by rw [HN.out]; exact hj)⟩, HBel.out⟩
end Go.Proofs.YtibkhgmmjhlpmaaGreat.Oct
