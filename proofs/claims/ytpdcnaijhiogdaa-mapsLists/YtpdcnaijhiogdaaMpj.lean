/- For all entries and all bytes the statement MapsLists answers true and changes nothing that was there: entries as bytes, and back, are what the document says. No condition (the statement itself lets go more than 100 entries or 1000 bytes). -/
import Derived.Test.YtpdcnaijhiogdaaRows
import Derived.Test.YtpdcnaijhiogdaaMpi
import Derived.Test.YtpdcnaijhiogdaaMpq
import Derived.Test.YtpdcnaijhiogdaaLst
import Derived.Test.YtpdcnaijhiogdaaRef
namespace Go.Proofs.Ytpdcnaijhiogdaa.Oct
open Go.RowKit Go.ChangeShapes Go.WideShapes Go.ChangeAt

def refN3 (x : E3) : Int := refN x.1 x.2.1 x.2.2

/-- The bytes that the document would have. -/
def Wanted (m : List Int) (L : List E3) (k : Nat) : Prop := ∀ j, j < k → ∀ i, i < 8 → m.getD (8 * j + i) 0 = refN3 (L.getD j z3) / 2 ^ (8 * i) % 256

theorem getD_bytesOf8 (v : Int) (i : Nat) : ∀ k, i < k → (bytesOf v k).getD i 0 = v / 2 ^ (8 * i) % 256
  | 0, h => by omega
  | k + 1, h => by
    rw [bytesOf, List.getD_eq_getElem?_getD, List.getElem?_append]
    split
    · rename_i h2
      rw [bytesOf_length] at h2
      have := getD_bytesOf8 v i k h2
      rwa [List.getD_eq_getElem?_getD] at this
    · rename_i h2
      rw [bytesOf_length] at h2 ⊢
      have e : i = k := by omega
      subst e
      have e1 : (2 : Int) ^ (8 * i) = 256 ^ i := by rw [Int.pow_mul]; rfl
      simp [e1]

theorem Wanted.more {m : List Int} {L : List E3} {k : Nat} (h : Wanted m L k) (hm : m.length = 8 * k) : Wanted (m ++ bytesOf (refN3 (L.getD k z3)) 8) L (k + 1) := by
  intro j hj i hi
  rw [List.getD_eq_getElem?_getD, List.getElem?_append]
  by_cases hjk : j = k
  · subst hjk
    rw [if_neg (by omega), hm, show 8 * j + i - 8 * j = i by omega, ← List.getD_eq_getElem?_getD]
    exact getD_bytesOf8 _ i 8 hi
  · rw [if_pos (by omega), ← List.getD_eq_getElem?_getD]
    exact h j (by omega) i hi

theorem laid_wanted {m m' : List Int} {L : List E3} (h : Laid m L L.length) (h' : Wanted m' L L.length) (hm : m.length = 8 * L.length) (hm' : m'.length = 8 * L.length) (hall : ∀ j, j < L.length → okN (L.getD j z3) = true) : m = m' := by
  apply List.ext_getElem (by omega)
  intro q h1 h2
  have e1 := h (q / 8) (by omega) (q % 8) (by omega)
  have e2 := h' (q / 8) (by omega) (q % 8) (by omega)
  rw [show 8 * (q / 8) + q % 8 = q by omega] at e1 e2
  have e3 : refN3 (L.getD (q / 8) z3) = enN (L.getD (q / 8) z3) := refN_ok (hall _ (by omega))
  rw [e3, ← e1] at e2
  rw [List.getD_eq_getElem?_getD, List.getD_eq_getElem?_getD, List.getElem?_eq_getElem h1, List.getElem?_eq_getElem h2] at e2
  simpa using e2.symm

theorem ent_box {u : World} {b off B k : Nat} {R : List E3} {x y : Int} {z : Bool} {t : TypeId} (h : LiesN u (some ⟨b, off, none⟩) R) (hk : k < R.length) (he : R.getD k z3 = (x, y, z)) (h' : StE u B #[.int .i64 x, .int .i64 y, .bool z] t) :
    u.cell? ⟨b, off + k * 3, none⟩ = some (.int .i64 x) ∧ u.cell? ⟨b, off + k * 3 + 1, none⟩ = some (.int .i64 y) ∧ u.cell? ⟨b, off + k * 3 + 2, none⟩ = some (.bool z) ∧ u.cell? ⟨B, 0, none⟩ = some (.int .i64 x) ∧ u.cell? ⟨B, 1, none⟩ = some (.int .i64 y) ∧ u.cell? ⟨B, 2, none⟩ = some (.bool z) := by
  rcases h with rfl | ⟨b2, off2, e, _, hc⟩
  · simp at hk
  · simp only [Option.some.injEq, Addr.mk.injEq, and_true] at e
    obtain ⟨rfl, rfl⟩ := e
    have := hc k hk
    rw [he] at this
    exact ⟨this.1, this.2.1, this.2.2, h'.box.1, h'.box.2.1, h'.box.2.2⟩

set_option maxRecDepth 100000 in
set_option maxHeartbeats 20000000 in
theorem mlists_walk (a : Option Addr) (cap : Nat) (L : List E3) (a' : Option Addr) (cap' : Nat) (l : List Int) (w : World) (hN : LiesN w a L) (hlm : L.length ≤ maxLen) (hlm' : l.length ≤ maxLen) (hb : Byts l) (hl : Lies w a' l) :
    Calls Try.prog 5 #[.slice a L.length cap, .slice a' l.length cap'] w fun e w' => e = .returned (.bool true) ∧ Below w.heap.size w w' := by
  have HC := fun u => hide (coded_any u)
  unfold maxLen at hlm hlm'
  obtain ⟨n, hn⟩ : ∃ n, n = L.length := ⟨_, rfl⟩
  obtain ⟨p, hp⟩ : ∃ p, p = l.length := ⟨_, rfl⟩
  have HNL := hide hn
  have HPL := hide hp
  have HN := hide hN
  have HL := hide hl
  have HBy := hide hb
  rw [← hn] at hlm ⊢
  rw [← hp] at hlm' ⊢
  obtain ⟨q8, hq8⟩ : ∃ q8, l.length / 8 = q8 := ⟨_, rfl⟩
  have HQ8 := hide hq8
  have hq1 : 8 * q8 ≤ p := by omega
  have hq2 : p < 8 * q8 + 8 := by omega
  clear hq8
  clear hN hl hb hn hp
  by_cases h100 : 100 < n
  · have hd : decide ((100 : Int) < n) = true := by simp; omega
    go_enter Try.func5, Try.ntmps5
    go_wp2_with fail
    refine ((HC _).out).mono ?_
    rintro e9 w2 ⟨rfl, hb2⟩
    have HB := hide hb2
    clear hb2
    go_wp2_with fail
    go_ret
    exact ⟨rfl, HB.out⟩
  have hd : decide ((100 : Int) < n) = false := by simp; omega
  by_cases h1000 : 1000 < p
  · have hd2 : decide ((1000 : Int) < p) = true := by simp; omega
    go_enter Try.func5, Try.ntmps5
    go_wp2_with fail
    refine ((HC _).out).mono ?_
    rintro e9 w2 ⟨rfl, hb2⟩
    have HB := hide hb2
    clear hb2
    go_wp2_with fail
    go_ret
    exact ⟨rfl, HB.out⟩
  have hd2 : decide ((1000 : Int) < p) = false := by simp; omega
  have HBT : ∀ u, Below w.heap.size w u → Hid (Calls Try.prog 13 #[.slice a n cap] u fun e w' => Byted u L e w' ∧ Below u.heap.size u w') := fun u hu => hide (by
    have := bytes_any a cap L u (by have := HNL.out; omega) (HN.out.below hu)
    rwa [← HNL.out] at this)
  have HLT : ∀ u, Below w.heap.size w u → Hid (Calls Try.prog 15 #[.slice a' p cap'] u fun e w' => Listed u l e w' ∧ Below u.heap.size u w') := fun u hu => hide (by
    have := list_any a' cap' l u (by have := HPL.out; omega) HBy.out (HL.out.below hu)
    rwa [← HPL.out] at this)
  go_enter Try.func5, Try.ntmps5
  go_wp2_with fail
  go_loopw [5, 6, 7] (fun v5 v6 i wr => ∃ (k : Nat) (m : List Int) (ab : Bool), k ≤ n ∧ i = .int .i64 k ∧ v6 = .bool ab ∧ Own wr w.heap.size v5 m ∧ m.length = 8 * k ∧ Byts m ∧ (ab = true ↔ ∀ j, j < k → okN (L.getD j z3) = true) ∧ Wanted m L k ∧ Below w.heap.size w wr) (fun _ _ i _ => n - (intOf i).toNat)
  case atStart => exact ⟨0, [], true, by omega, rfl, rfl, Own.nil _ _, rfl, by intro k; simp, ⟨fun _ j hj => by omega, fun _ => rfl⟩, by intro j hj; omega, Below.refl _ _⟩
  case round =>
    obtain ⟨k, m, ab, hk, rfl, rfl, ho, hmk, hby, hall, hwant, hbel⟩ := hrel
    have HOw := hide ho
    have HMk := hide hmk
    have HMb := hide hby
    have HAll := hide hall
    have HWt := hide hwant
    have HBel := hide hbel
    clear ho hmk hby hall hwant hbel
    by_cases hlt : k < n
    · rcases HN.out.below HBel.out with h | ⟨b, off, rfl, hbl, hc⟩
      · exfalso
        have := HNL.out
        rw [h] at this
        simp at this
        omega
      obtain ⟨c0, c1, c2⟩ := hc k (by rw [← HNL.out]; exact hlt)
      clear hc
      obtain ⟨x, hx⟩ : ∃ x, x = L.getD k z3 := ⟨_, rfl⟩
      rw [← hx] at c0 c1 c2
      have HX := hide hx
      clear hx
      obtain ⟨q, c, o⟩ := x
      simp only at c0 c1 c2
      have HO := fun u => hide (ofE_any q c o u)
      have HR := fun u => hide (refencode_any q c o u)
      have hrb := refN_bd q c o
      obtain ⟨r, hr⟩ : ∃ r, r = refN q c o := ⟨_, rfl⟩
      obtain ⟨d, hd9⟩ : ∃ d, d = okE q c o := ⟨_, rfl⟩
      rw [← hr] at HR hrb
      rw [← hd9] at HR
      have HRr : Hid (r = refN3 (L.getD k z3)) := hide (by rw [← HX.out, hr]; rfl)
      have HDd : Hid (d = okN (L.getD k z3)) := hide (by rw [← HX.out, hd9]; rfl)
      have HYT := fun u => hide (Bytes_any r 8 u (by omega) hrb.1 hrb.2)
      have HA2 : Hid ((ab && d) = true ↔ ∀ j, j < k + 1 → okN (L.getD j z3) = true) := hide (by
        rw [Bool.and_eq_true, HAll.out, HDd.out]
        constructor
        · rintro ⟨h1, h2⟩ j hj
          by_cases hjk : j = k
          · subst hjk; exact h2
          · exact h1 j (by omega)
        · intro h
          exact ⟨fun j hj => h j (by omega), h k (by omega)⟩)
      clear hr hd9 hrb
      have hbyl : (bytesOf r 8).length = 8 := bytesOf_length r 8
      have HBl := hide hbyl
      clear hbyl
      go_wp2_with fail
      refine ((HO _).out).mono ?_
      rintro e9 w2 ⟨rfl, hb2⟩
      have HB2 := hide (HBel.out.trans (hb2.mono HBel.out.size))
      have HO2 := hide (HOw.out.below hb2)
      clear hb2 c0 c1 c2
      go_wp2_with fail
      refine ((HR _).out).mono ?_
      rintro e9 w3 ⟨rfl, hb3⟩
      have HB3 := hide (HB2.out.trans (hb3.mono HB2.out.size))
      have HO3 := hide (HO2.out.below hb3)
      clear hb3
      have hab : (if ab = true then Value.bool d else Value.bool false) = .bool (ab && d) := by cases ab <;> rfl
      cases ab <;>
      · go_wp2_with fail
        refine ((HYT _).out).mono ?_
        rintro e9 w4 ⟨r4, rfl, ho4, hb4⟩
        have HB4 := hide (HB3.out.trans (hb4.mono HB3.out.size))
        have HO4 := hide (HO3.out.below hb4)
        obtain ⟨a4, c4, rfl, hl4, hx4⟩ := ho4.form
        have HL4 := hide hl4
        rw [HBl.out]
        clear hb4 ho4 hx4 hl4
        go_wp2_with (at_builtin; refine wpList_append_bytes rfl _ _ 40 rfl Try.underlying40 info5 w.heap.size _ m rfl (by exact HO4.out) _ _ _ (bytesOf r 8) rfl HBl.out.symm (by exact HL4.out) (by rw [HBl.out, HMk.out]; omega) (by exact HB4.out.size) ?_; intro v' w5 ho5 hg5)
        have HB5 := Own.behind HO4.out HB4.out hg5 HB4.out.size
        refine ⟨⟨k + 1, m ++ bytesOf r 8, _, by omega, by go_num, rfl, ho5, by rw [List.length_append, HBl.out, HMk.out]; omega, HMb.out.append (Byts.bytesOf _ _), HA2.out, ?_, HB5⟩, by simp [intOf]; omega⟩
        rw [HRr.out]
        exact HWt.out.more HMk.out
    · obtain rfl : k = n := by omega
      have HWl := hide HMk.out
      obtain ⟨av, cv, hv5, hlv, hv6⟩ := HOw.out.form
      subst hv5
      rw [HMk.out]
      have HLv := hide hlv
      clear hv6 hlv
      go_wp2_with fail
      refine ((HBT _ HBel.out).out).mono ?_
      rintro e9 w2 ⟨hbt, hb2⟩
      have HB2 := hide (HBel.out.trans (hb2.mono HBel.out.size))
      have HLv2 := hide (HLv.out.below hb2)
      rcases hbt with ⟨vx, mx, rfl, hox, hmx, hbx, hax, hlx⟩ | ⟨⟨jx, hjx, hfx⟩, rfl⟩
      · have HA : ab = true := HAll.out.2 (fun j hj => hax j (by rw [← HNL.out]; exact hj))
        subst HA
        have hmm : mx = m := laid_wanted hlx (by rw [← HNL.out]; exact HWt.out) hmx (by rw [HMk.out, HNL.out]) hax
        subst hmm
        obtain ⟨ax, cx, rfl, hlx2, hx6⟩ := hox.form
        rw [HMk.out]
        have HSm : Hid (Calls Try.prog 14 #[.slice ax (8 * k) cx, .slice av (8 * k) cv] w2 fun e w' => e = .returned (.bool true) ∧ w' = w2) := hide (by
          have := Same_any ax av cx cv mx mx w2 hlx2 HLv2.out hbx hbx
          rw [HMk.out] at this
          simpa using this)
        clear hlx hbx hox hmx hax hlx2 hx6 hb2
        go_wp2_with fail
        refine HSm.out.mono ?_
        rintro e9 w3 ⟨rfl, h3⟩
        subst h3
        go_wp2_with fail
        refine ((HLT _ HB2.out).out).mono ?_
        rintro e9 w4 ⟨hlt4, hb4⟩
        have HB4 := hide (HB2.out.trans (hb4.mono HB2.out.size))
        clear hb4
        rcases hlt4 with ⟨vy, R, rfl, hoR, hRl, hRa⟩ | ⟨⟨jy, hjy, hfy⟩, rfl⟩
        · obtain ⟨ay, cy, rfl, hly, hy6⟩ := hoR.form
          rw [hRl]
          have HoR := hide hly
          have HRl := hide (hRl.trans HQ8.out)
          have HRa := hide hRa
          have hpl : l.length / 8 = q8 := HQ8.out
          rw [hpl]
          clear hly hy6 hoR hRl hRa hpl
          obtain ⟨w5, hw5⟩ : ∃ w5, w5 = w4 := ⟨_, rfl⟩
          subst hw5
          go_wp2_with fail
          go_loopw [14] (fun i wr => ∃ (k2 : Nat), k2 ≤ q8 ∧ i = .int .i64 (8 * (k2 : Int)) ∧ (∀ j, j < k2 → okV (num l (8 * j) 8) = true) ∧ Below w5.heap.size w5 wr) (fun i _ => p + 8 - (intOf i).toNat)
          case atStart => exact ⟨0, by omega, rfl, by intro j hj; omega, Below.refl _ _⟩
          case round =>
            obtain ⟨k2, hk2, rfl, hall2, hbel2⟩ := hrel
            have HAl2 := hide hall2
            have HBl2 := hide hbel2
            have HB6 := hide (HB4.out.trans (hbel2.mono HB4.out.size))
            clear hall2 hbel2
            by_cases hlt2 : k2 < q8
            · have HU : Hid (Calls Try.prog 16 #[.slice a' p cap', .int .i64 (8 * (k2 : Int)), .int .i64 8] wr fun e w' => e = .returned (.tuple #[.int .u64 (num l (8 * k2) 8), .bool true]) ∧ w' = wr) := hide (by
                have := Num_any a' cap' l ((8 * k2 : Nat) : Int) 8 (by omega) (by omega) wr (by have := HPL.out; unfold maxLen; omega) HBy.out (HL.out.below HB6.out) (by omega) (by omega)
                rw [thereB_yes (by omega) (by omega) (by have := HPL.out; omega), numAt_yes (by have := HPL.out; omega), ← HPL.out, show (((8 * k2 : Nat)) : Int) = 8 * (k2 : Int) by omega] at this
                exact this)
              have hnb := num8 l HBy.out (8 * k2)
              have HD := fun u => hide (refdecode_any (num l (8 * k2) 8) u hnb.1 hnb.2)
              obtain ⟨v, hv⟩ : ∃ v, v = num l (8 * k2) 8 := ⟨_, rfl⟩
              rw [← hv] at HU HD
              have HV := hide hv
              clear hv hnb
              generalize decK v = x at *
              generalize decC v = y at *
              generalize decO v = z at *
              obtain ⟨b, hbk⟩ : ∃ b, b = okV v := ⟨_, rfl⟩
              rw [← hbk] at HD
              have HK := hide hbk
              clear hbk
              go_wp2_with fail
              refine HU.out.mono ?_
              rintro e9 w7 ⟨rfl, h7⟩
              subst h7
              go_wp2_with fail
              refine ((HD _).out).mono ?_
              rintro e9 w8 ⟨rfl, hb8⟩
              have HB8 := hide ((HBl2.out.trans (hb8.mono HBl2.out.size)).alloc (Nat.le_trans HBl2.out.size hb8.size) (.cells #[.int .i64 x, .int .i64 y, .bool z] 30))
              clear hb8
              obtain rfl : b = true := by rw [HK.out, HV.out]; exact (HRa.out k2 (by rw [HQ8.out]; exact hlt2)).1
              go_wp2_with fail
              refine ⟨⟨k2 + 1, by omega, by congr 1 <;> omega, fun j hj => ?_, HB8.out⟩, by simp [intOf]; omega⟩
              by_cases hjk : j = k2
              · subst hjk
                rw [← HV.out, ← HK.out]
              · exact HAl2.out j (by omega)
            · have hkq : q8 = k2 := by omega
              subst hkq
              obtain ⟨w11, hw11⟩ : ∃ w11, w11 = wr := ⟨_, rfl⟩
              subst hw11
              go_wp2_with fail
              go_loopw [19, 20] (fun i2 i wr => ∃ (k3 : Nat), k3 ≤ q8 ∧ i2 = .int .i64 (k3 : Int) ∧ i = .int .i64 (8 * (k3 : Int)) ∧ Below w5.heap.size w5 wr) (fun _ i _ => p + 8 - (intOf i).toNat)
              case atStart => exact ⟨0, by omega, rfl, rfl, HBl2.out⟩
              case round =>
                obtain ⟨k3, hk3, rfl, rfl, hbel3⟩ := hrel
                have HBl3 := hide hbel3
                have HB7 := hide (HB4.out.trans (hbel3.mono HB4.out.size))
                clear hbel3
                by_cases hlt3 : k3 < q8
                · have HU : Hid (Calls Try.prog 16 #[.slice a' p cap', .int .i64 (8 * (k3 : Int)), .int .i64 8] wr fun e w' => e = .returned (.tuple #[.int .u64 (num l (8 * k3) 8), .bool true]) ∧ w' = wr) := hide (by
                    have := Num_any a' cap' l ((8 * k3 : Nat) : Int) 8 (by omega) (by omega) wr (by have := HPL.out; unfold maxLen; omega) HBy.out (HL.out.below HB7.out) (by omega) (by omega)
                    rw [thereB_yes (by omega) (by omega) (by have := HPL.out; omega), numAt_yes (by have := HPL.out; omega), ← HPL.out, show (((8 * k3 : Nat)) : Int) = 8 * (k3 : Int) by omega] at this
                    exact this)
                  have hnb := num8 l HBy.out (8 * k3)
                  have HD := fun u => hide (refdecode_any (num l (8 * k3) 8) u hnb.1 hnb.2)
                  have hra := (HRa.out k3 (by rw [HQ8.out]; exact hlt3))
                  obtain ⟨v, hv⟩ : ∃ v, v = num l (8 * k3) 8 := ⟨_, rfl⟩
                  rw [← hv] at HU HD hra
                  clear hv hnb
                  rw [hra.1] at HD
                  have HG := hide hra.2
                  clear hra
                  unfold dec3 at HG
                  generalize decK v = x at *
                  generalize decC v = y at *
                  generalize decO v = z at *
                  rcases HoR.out.below HBl3.out with hR0 | ⟨b, off, rfl, hbl, hc⟩
                  · exfalso
                    have := HRl.out
                    rw [hR0] at this
                    simp at this
                    omega
                  obtain ⟨c0, c1, c2⟩ := hc k3 (by rw [HRl.out]; exact hlt3)
                  have HCc := hide hc
                  rw [HG.out] at c0 c1 c2
                  simp only at c0 c1 c2
                  have HO := fun u => hide (ofE_any x y z u)
                  have hqe := fun u => neq_W u x y z x y z
                  rw [show (x == x && y == y && z == z) = true by simp] at hqe
                  have hq : ∀ u, (binOp .neq 30 (.agg #[.int .i64 x, .int .i64 y, .bool z]) (.agg #[.int .i64 x, .int .i64 y, .bool z])).run Try.prog u = .ok (.bool false) u := hqe
                  have hg := fun u op p q => guard_W u op p q #[.int .i64 x, .int .i64 y, .bool z] #[.int .i64 x, .int .i64 y, .bool z]
                  clear hqe hc c0 c1 c2
                  go_wp2_with fail
                  refine HU.out.mono ?_
                  rintro e9 w12 ⟨rfl, h12⟩
                  subst h12
                  go_wp2_with fail
                  refine ((HD _).out).mono ?_
                  rintro e9 w13 ⟨rfl, hb13⟩
                  have HB13 := hide ((HBl3.out.trans (hb13.mono HBl3.out.size)).alloc (Nat.le_trans HBl3.out.size hb13.size) (.cells #[.int .i64 x, .int .i64 y, .bool z] 30))
                  have HT13 := hide (StE.new w13 #[.int .i64 x, .int .i64 y, .bool z] 30)
                  have HR13 := hide (LiesN.below (Or.inr ⟨b, off, rfl, hbl, HCc.out⟩ : LiesN w12 (some ⟨b, off, none⟩) R) hb13)
                  clear hb13
                  have HR15 := hide (HR13.out.below ((Below.refl _ _).alloc (Nat.le_refl _) (.cells #[.int .i64 x, .int .i64 y, .bool z] 30)))
                  have hkR : k3 < R.length := by rw [HRl.out]; exact hlt3
                  have HkR := hide hkR
                  clear hkR
                  go_wp2_with fail
                  generalize w13.alloc (.cells #[.int .i64 x, .int .i64 y, .bool z] 30) = w15 at *
                  have HB := hide HB13.out.drew
                  have HT := hide HT13.out.drew
                  have HR := hide (HR15.out.below (Below.refl _ _).drew)
                  obtain ⟨s0, s1, s2, s3, s4, s5⟩ := ent_box HR.out HkR.out HG.out HT.out
                  have hd7 : decide ((k3 : Int) < (q8 : Int)) = true := by simp; omega
                  have hd8 : decide ((q8 : Int) ≤ (k3 : Int)) = false := by simp; omega
                  have hd9 : decide (q8 ≤ k3) = false := by simp; omega
                  have hd10 : ¬ q8 ≤ k3 := by omega
                  go_region_held3 (fun u => u.cell? ⟨b, off + k3 * 3, none⟩ = some (.int .i64 x) ∧ u.cell? ⟨b, off + k3 * 3 + 1, none⟩ = some (.int .i64 y) ∧ u.cell? ⟨b, off + k3 * 3 + 2, none⟩ = some (.bool z) ∧ u.cell? ⟨w13.heap.size, 0, none⟩ = some (.int .i64 x) ∧ u.cell? ⟨w13.heap.size, 1, none⟩ = some (.int .i64 y) ∧ u.cell? ⟨w13.heap.size, 2, none⟩ = some (.bool z)) (first | go_keep | exact ent_box HR.out HkR.out HG.out HT.out) (first
                    | (go_at_call 8; refine ((HO _).out).mono ?_; rintro e9 w16 ⟨rfl, hb16⟩; have HB := hide (HB.out.trans (hb16.mono HB.out.size)); have HT := hide (HT.out.below hb16); have HR := hide (HR.out.below hb16); clear hb16))
                  all_goals
                    go_wp2_with fail
                    exact ⟨⟨k3 + 1, by omega, by congr 1 <;> omega, by congr 1 <;> omega, HB.out⟩, by simp [intOf]; omega⟩
                · have hkq : q8 = k3 := by omega
                  subst hkq
                  go_wp2_with fail
                  refine ((HC _).out).mono ?_
                  rintro e9 w14 ⟨rfl, hb14⟩
                  have HB14 := hide (HBl3.out.trans (hb14.mono HBl3.out.size))
                  clear hb14
                  go_wp2_with fail
                  go_ret
                  exact ⟨rfl, HB4.out.trans (HB14.out.mono HB4.out.size)⟩
        · obtain ⟨w5, hw5⟩ : ∃ w5, w5 = w4 := ⟨_, rfl⟩
          subst hw5
          go_wp2_with fail
          go_loopw [14] (fun i wr => ∃ (k2 : Nat), k2 ≤ q8 ∧ i = .int .i64 (8 * (k2 : Int)) ∧ (∀ j, j < k2 → okV (num l (8 * j) 8) = true) ∧ Below w5.heap.size w5 wr) (fun i _ => p + 8 - (intOf i).toNat)
          case atStart => exact ⟨0, by omega, rfl, by intro j hj; omega, Below.refl _ _⟩
          case round =>
            obtain ⟨k2, hk2, rfl, hall2, hbel2⟩ := hrel
            have HAl2 := hide hall2
            have HBl2 := hide hbel2
            have HB6 := hide (HB4.out.trans (hbel2.mono HB4.out.size))
            clear hall2 hbel2
            by_cases hlt2 : k2 < q8
            · have HU : Hid (Calls Try.prog 16 #[.slice a' p cap', .int .i64 (8 * (k2 : Int)), .int .i64 8] wr fun e w' => e = .returned (.tuple #[.int .u64 (num l (8 * k2) 8), .bool true]) ∧ w' = wr) := hide (by
                have := Num_any a' cap' l ((8 * k2 : Nat) : Int) 8 (by omega) (by omega) wr (by have := HPL.out; unfold maxLen; omega) HBy.out (HL.out.below HB6.out) (by omega) (by omega)
                rw [thereB_yes (by omega) (by omega) (by have := HPL.out; omega), numAt_yes (by have := HPL.out; omega), ← HPL.out, show (((8 * k2 : Nat)) : Int) = 8 * (k2 : Int) by omega] at this
                exact this)
              have hnb := num8 l HBy.out (8 * k2)
              have HD := fun u => hide (refdecode_any (num l (8 * k2) 8) u hnb.1 hnb.2)
              obtain ⟨v, hv⟩ : ∃ v, v = num l (8 * k2) 8 := ⟨_, rfl⟩
              rw [← hv] at HU HD
              have HV := hide hv
              clear hv hnb
              generalize decK v = x at *
              generalize decC v = y at *
              generalize decO v = z at *
              obtain ⟨b, hbk⟩ : ∃ b, b = okV v := ⟨_, rfl⟩
              rw [← hbk] at HD
              have HK := hide hbk
              clear hbk
              go_wp2_with fail
              refine HU.out.mono ?_
              rintro e9 w7 ⟨rfl, h7⟩
              subst h7
              go_wp2_with fail
              refine ((HD _).out).mono ?_
              rintro e9 w8 ⟨rfl, hb8⟩
              have HB8 := hide ((HBl2.out.trans (hb8.mono HBl2.out.size)).alloc (Nat.le_trans HBl2.out.size hb8.size) (.cells #[.int .i64 x, .int .i64 y, .bool z] 30))
              clear hb8
              cases b
              · go_wp2_with fail
                generalize w8.alloc (.cells #[.int .i64 x, .int .i64 y, .bool z] 30) = w9 at *
                refine ((HC _).out).mono ?_
                rintro e9 w10 ⟨rfl, hb10⟩
                have HB10 := hide (HB8.out.trans (hb10.mono HB8.out.size))
                clear hb10
                go_wp2_with fail
                go_ret
                exact ⟨rfl, HB4.out.trans (HB10.out.mono HB4.out.size)⟩
              · go_wp2_with fail
                refine ⟨⟨k2 + 1, by omega, by congr 1 <;> omega, fun j hj => ?_, HB8.out⟩, by simp [intOf]; omega⟩
                by_cases hjk : j = k2
                · subst hjk
                  rw [← HV.out, ← HK.out]
                · exact HAl2.out j (by omega)
            · have hkq : q8 = k2 := by omega
              subst hkq
              exfalso
              have := HAl2.out jy (by rw [← HQ8.out]; exact hjy)
              rw [this] at hfy
              cases hfy
      · have HA : ab = false := by
          cases ab
          · rfl
          · have := HAll.out.1 rfl jx (by rw [HNL.out]; exact hjx)
            rw [this] at hfx
            cases hfx
        subst HA
        clear hjx hfx hb2
        go_wp2_with fail
        refine ((HLT _ HB2.out).out).mono ?_
        rintro e9 w4 ⟨hlt4, hb4⟩
        have HB4 := hide (HB2.out.trans (hb4.mono HB2.out.size))
        clear hb4
        rcases hlt4 with ⟨vy, R, rfl, hoR, hRl, hRa⟩ | ⟨⟨jy, hjy, hfy⟩, rfl⟩
        · obtain ⟨ay, cy, rfl, hly, hy6⟩ := hoR.form
          rw [hRl]
          have HoR := hide hly
          have HRl := hide (hRl.trans HQ8.out)
          have HRa := hide hRa
          have hpl : l.length / 8 = q8 := HQ8.out
          rw [hpl]
          clear hly hy6 hoR hRl hRa hpl
          obtain ⟨w5, hw5⟩ : ∃ w5, w5 = w4 := ⟨_, rfl⟩
          subst hw5
          go_wp2_with fail
          go_loopw [14] (fun i wr => ∃ (k2 : Nat), k2 ≤ q8 ∧ i = .int .i64 (8 * (k2 : Int)) ∧ (∀ j, j < k2 → okV (num l (8 * j) 8) = true) ∧ Below w5.heap.size w5 wr) (fun i _ => p + 8 - (intOf i).toNat)
          case atStart => exact ⟨0, by omega, rfl, by intro j hj; omega, Below.refl _ _⟩
          case round =>
            obtain ⟨k2, hk2, rfl, hall2, hbel2⟩ := hrel
            have HAl2 := hide hall2
            have HBl2 := hide hbel2
            have HB6 := hide (HB4.out.trans (hbel2.mono HB4.out.size))
            clear hall2 hbel2
            by_cases hlt2 : k2 < q8
            · have HU : Hid (Calls Try.prog 16 #[.slice a' p cap', .int .i64 (8 * (k2 : Int)), .int .i64 8] wr fun e w' => e = .returned (.tuple #[.int .u64 (num l (8 * k2) 8), .bool true]) ∧ w' = wr) := hide (by
                have := Num_any a' cap' l ((8 * k2 : Nat) : Int) 8 (by omega) (by omega) wr (by have := HPL.out; unfold maxLen; omega) HBy.out (HL.out.below HB6.out) (by omega) (by omega)
                rw [thereB_yes (by omega) (by omega) (by have := HPL.out; omega), numAt_yes (by have := HPL.out; omega), ← HPL.out, show (((8 * k2 : Nat)) : Int) = 8 * (k2 : Int) by omega] at this
                exact this)
              have hnb := num8 l HBy.out (8 * k2)
              have HD := fun u => hide (refdecode_any (num l (8 * k2) 8) u hnb.1 hnb.2)
              obtain ⟨v, hv⟩ : ∃ v, v = num l (8 * k2) 8 := ⟨_, rfl⟩
              rw [← hv] at HU HD
              have HV := hide hv
              clear hv hnb
              generalize decK v = x at *
              generalize decC v = y at *
              generalize decO v = z at *
              obtain ⟨b, hbk⟩ : ∃ b, b = okV v := ⟨_, rfl⟩
              rw [← hbk] at HD
              have HK := hide hbk
              clear hbk
              go_wp2_with fail
              refine HU.out.mono ?_
              rintro e9 w7 ⟨rfl, h7⟩
              subst h7
              go_wp2_with fail
              refine ((HD _).out).mono ?_
              rintro e9 w8 ⟨rfl, hb8⟩
              have HB8 := hide ((HBl2.out.trans (hb8.mono HBl2.out.size)).alloc (Nat.le_trans HBl2.out.size hb8.size) (.cells #[.int .i64 x, .int .i64 y, .bool z] 30))
              clear hb8
              obtain rfl : b = true := by rw [HK.out, HV.out]; exact (HRa.out k2 (by rw [HQ8.out]; exact hlt2)).1
              go_wp2_with fail
              refine ⟨⟨k2 + 1, by omega, by congr 1 <;> omega, fun j hj => ?_, HB8.out⟩, by simp [intOf]; omega⟩
              by_cases hjk : j = k2
              · subst hjk
                rw [← HV.out, ← HK.out]
              · exact HAl2.out j (by omega)
            · have hkq : q8 = k2 := by omega
              subst hkq
              obtain ⟨w11, hw11⟩ : ∃ w11, w11 = wr := ⟨_, rfl⟩
              subst hw11
              go_wp2_with fail
              go_loopw [19, 20] (fun i2 i wr => ∃ (k3 : Nat), k3 ≤ q8 ∧ i2 = .int .i64 (k3 : Int) ∧ i = .int .i64 (8 * (k3 : Int)) ∧ Below w5.heap.size w5 wr) (fun _ i _ => p + 8 - (intOf i).toNat)
              case atStart => exact ⟨0, by omega, rfl, rfl, HBl2.out⟩
              case round =>
                obtain ⟨k3, hk3, rfl, rfl, hbel3⟩ := hrel
                have HBl3 := hide hbel3
                have HB7 := hide (HB4.out.trans (hbel3.mono HB4.out.size))
                clear hbel3
                by_cases hlt3 : k3 < q8
                · have HU : Hid (Calls Try.prog 16 #[.slice a' p cap', .int .i64 (8 * (k3 : Int)), .int .i64 8] wr fun e w' => e = .returned (.tuple #[.int .u64 (num l (8 * k3) 8), .bool true]) ∧ w' = wr) := hide (by
                    have := Num_any a' cap' l ((8 * k3 : Nat) : Int) 8 (by omega) (by omega) wr (by have := HPL.out; unfold maxLen; omega) HBy.out (HL.out.below HB7.out) (by omega) (by omega)
                    rw [thereB_yes (by omega) (by omega) (by have := HPL.out; omega), numAt_yes (by have := HPL.out; omega), ← HPL.out, show (((8 * k3 : Nat)) : Int) = 8 * (k3 : Int) by omega] at this
                    exact this)
                  have hnb := num8 l HBy.out (8 * k3)
                  have HD := fun u => hide (refdecode_any (num l (8 * k3) 8) u hnb.1 hnb.2)
                  have hra := (HRa.out k3 (by rw [HQ8.out]; exact hlt3))
                  obtain ⟨v, hv⟩ : ∃ v, v = num l (8 * k3) 8 := ⟨_, rfl⟩
                  rw [← hv] at HU HD hra
                  clear hv hnb
                  rw [hra.1] at HD
                  have HG := hide hra.2
                  clear hra
                  unfold dec3 at HG
                  generalize decK v = x at *
                  generalize decC v = y at *
                  generalize decO v = z at *
                  rcases HoR.out.below HBl3.out with hR0 | ⟨b, off, rfl, hbl, hc⟩
                  · exfalso
                    have := HRl.out
                    rw [hR0] at this
                    simp at this
                    omega
                  obtain ⟨c0, c1, c2⟩ := hc k3 (by rw [HRl.out]; exact hlt3)
                  have HCc := hide hc
                  rw [HG.out] at c0 c1 c2
                  simp only at c0 c1 c2
                  have HO := fun u => hide (ofE_any x y z u)
                  have hqe := fun u => neq_W u x y z x y z
                  rw [show (x == x && y == y && z == z) = true by simp] at hqe
                  have hq : ∀ u, (binOp .neq 30 (.agg #[.int .i64 x, .int .i64 y, .bool z]) (.agg #[.int .i64 x, .int .i64 y, .bool z])).run Try.prog u = .ok (.bool false) u := hqe
                  have hg := fun u op p q => guard_W u op p q #[.int .i64 x, .int .i64 y, .bool z] #[.int .i64 x, .int .i64 y, .bool z]
                  clear hqe hc c0 c1 c2
                  go_wp2_with fail
                  refine HU.out.mono ?_
                  rintro e9 w12 ⟨rfl, h12⟩
                  subst h12
                  go_wp2_with fail
                  refine ((HD _).out).mono ?_
                  rintro e9 w13 ⟨rfl, hb13⟩
                  have HB13 := hide ((HBl3.out.trans (hb13.mono HBl3.out.size)).alloc (Nat.le_trans HBl3.out.size hb13.size) (.cells #[.int .i64 x, .int .i64 y, .bool z] 30))
                  have HT13 := hide (StE.new w13 #[.int .i64 x, .int .i64 y, .bool z] 30)
                  have HR13 := hide (LiesN.below (Or.inr ⟨b, off, rfl, hbl, HCc.out⟩ : LiesN w12 (some ⟨b, off, none⟩) R) hb13)
                  clear hb13
                  have HR15 := hide (HR13.out.below ((Below.refl _ _).alloc (Nat.le_refl _) (.cells #[.int .i64 x, .int .i64 y, .bool z] 30)))
                  have hkR : k3 < R.length := by rw [HRl.out]; exact hlt3
                  have HkR := hide hkR
                  clear hkR
                  go_wp2_with fail
                  generalize w13.alloc (.cells #[.int .i64 x, .int .i64 y, .bool z] 30) = w15 at *
                  have HB := hide HB13.out.drew
                  have HT := hide HT13.out.drew
                  have HR := hide (HR15.out.below (Below.refl _ _).drew)
                  obtain ⟨s0, s1, s2, s3, s4, s5⟩ := ent_box HR.out HkR.out HG.out HT.out
                  have hd7 : decide ((k3 : Int) < (q8 : Int)) = true := by simp; omega
                  have hd8 : decide ((q8 : Int) ≤ (k3 : Int)) = false := by simp; omega
                  have hd9 : decide (q8 ≤ k3) = false := by simp; omega
                  have hd10 : ¬ q8 ≤ k3 := by omega
                  go_region_held3 (fun u => u.cell? ⟨b, off + k3 * 3, none⟩ = some (.int .i64 x) ∧ u.cell? ⟨b, off + k3 * 3 + 1, none⟩ = some (.int .i64 y) ∧ u.cell? ⟨b, off + k3 * 3 + 2, none⟩ = some (.bool z) ∧ u.cell? ⟨w13.heap.size, 0, none⟩ = some (.int .i64 x) ∧ u.cell? ⟨w13.heap.size, 1, none⟩ = some (.int .i64 y) ∧ u.cell? ⟨w13.heap.size, 2, none⟩ = some (.bool z)) (first | go_keep | exact ent_box HR.out HkR.out HG.out HT.out) (first
                    | (go_at_call 8; refine ((HO _).out).mono ?_; rintro e9 w16 ⟨rfl, hb16⟩; have HB := hide (HB.out.trans (hb16.mono HB.out.size)); have HT := hide (HT.out.below hb16); have HR := hide (HR.out.below hb16); clear hb16))
                  all_goals
                    go_wp2_with fail
                    exact ⟨⟨k3 + 1, by omega, by congr 1 <;> omega, by congr 1 <;> omega, HB.out⟩, by simp [intOf]; omega⟩
                · have hkq : q8 = k3 := by omega
                  subst hkq
                  go_wp2_with fail
                  refine ((HC _).out).mono ?_
                  rintro e9 w14 ⟨rfl, hb14⟩
                  have HB14 := hide (HBl3.out.trans (hb14.mono HBl3.out.size))
                  clear hb14
                  go_wp2_with fail
                  go_ret
                  exact ⟨rfl, HB4.out.trans (HB14.out.mono HB4.out.size)⟩
        · obtain ⟨w5, hw5⟩ : ∃ w5, w5 = w4 := ⟨_, rfl⟩
          subst hw5
          go_wp2_with fail
          go_loopw [14] (fun i wr => ∃ (k2 : Nat), k2 ≤ q8 ∧ i = .int .i64 (8 * (k2 : Int)) ∧ (∀ j, j < k2 → okV (num l (8 * j) 8) = true) ∧ Below w5.heap.size w5 wr) (fun i _ => p + 8 - (intOf i).toNat)
          case atStart => exact ⟨0, by omega, rfl, by intro j hj; omega, Below.refl _ _⟩
          case round =>
            obtain ⟨k2, hk2, rfl, hall2, hbel2⟩ := hrel
            have HAl2 := hide hall2
            have HBl2 := hide hbel2
            have HB6 := hide (HB4.out.trans (hbel2.mono HB4.out.size))
            clear hall2 hbel2
            by_cases hlt2 : k2 < q8
            · have HU : Hid (Calls Try.prog 16 #[.slice a' p cap', .int .i64 (8 * (k2 : Int)), .int .i64 8] wr fun e w' => e = .returned (.tuple #[.int .u64 (num l (8 * k2) 8), .bool true]) ∧ w' = wr) := hide (by
                have := Num_any a' cap' l ((8 * k2 : Nat) : Int) 8 (by omega) (by omega) wr (by have := HPL.out; unfold maxLen; omega) HBy.out (HL.out.below HB6.out) (by omega) (by omega)
                rw [thereB_yes (by omega) (by omega) (by have := HPL.out; omega), numAt_yes (by have := HPL.out; omega), ← HPL.out, show (((8 * k2 : Nat)) : Int) = 8 * (k2 : Int) by omega] at this
                exact this)
              have hnb := num8 l HBy.out (8 * k2)
              have HD := fun u => hide (refdecode_any (num l (8 * k2) 8) u hnb.1 hnb.2)
              obtain ⟨v, hv⟩ : ∃ v, v = num l (8 * k2) 8 := ⟨_, rfl⟩
              rw [← hv] at HU HD
              have HV := hide hv
              clear hv hnb
              generalize decK v = x at *
              generalize decC v = y at *
              generalize decO v = z at *
              obtain ⟨b, hbk⟩ : ∃ b, b = okV v := ⟨_, rfl⟩
              rw [← hbk] at HD
              have HK := hide hbk
              clear hbk
              go_wp2_with fail
              refine HU.out.mono ?_
              rintro e9 w7 ⟨rfl, h7⟩
              subst h7
              go_wp2_with fail
              refine ((HD _).out).mono ?_
              rintro e9 w8 ⟨rfl, hb8⟩
              have HB8 := hide ((HBl2.out.trans (hb8.mono HBl2.out.size)).alloc (Nat.le_trans HBl2.out.size hb8.size) (.cells #[.int .i64 x, .int .i64 y, .bool z] 30))
              clear hb8
              cases b
              · go_wp2_with fail
                generalize w8.alloc (.cells #[.int .i64 x, .int .i64 y, .bool z] 30) = w9 at *
                refine ((HC _).out).mono ?_
                rintro e9 w10 ⟨rfl, hb10⟩
                have HB10 := hide (HB8.out.trans (hb10.mono HB8.out.size))
                clear hb10
                go_wp2_with fail
                go_ret
                exact ⟨rfl, HB4.out.trans (HB10.out.mono HB4.out.size)⟩
              · go_wp2_with fail
                refine ⟨⟨k2 + 1, by omega, by congr 1 <;> omega, fun j hj => ?_, HB8.out⟩, by simp [intOf]; omega⟩
                by_cases hjk : j = k2
                · subst hjk
                  rw [← HV.out, ← HK.out]
                · exact HAl2.out j (by omega)
            · have hkq : q8 = k2 := by omega
              subst hkq
              exfalso
              have := HAl2.out jy (by rw [← HQ8.out]; exact hjy)
              rw [this] at hfy
              cases hfy

set_option maxRecDepth 100000 in
theorem mapsLists_lifted (os : Os) (started : os.Started) (H : Type) (enc : TypeId × Value → H) :
    ReturnsInHanded {} Try.checked os 5 .any (Rows.mapsListsSpec.pre6 enc Try.prog Try.f5 Rows.mapsListsRow.domain false) (Rows.mapsListsSpec.post enc Try.prog Try.f5 false true false false) := by
  refine returnsInHanded_of_change (C := Try.checked) own started (by kernel_rfl) Try.func5
    (ChangeSpec.witness6 (enc := enc) (C := Try.checked) false ⟨#[], #[.slice none 0 0, .slice none 0 0], []⟩ 8 (by kernel_rfl) (by kernel_rfl) (by kernel_rfl) (by kernel_rfl)) ?_
  intro W base args ds gs before hval0 hW _ _
  have hval : ∀ (j : Nat) t v, Try.f5.params[j]? = some t → args[j]? = some v → Value.okWide Try.prog W .any base t v := hval0
  have hW' := hW
  obtain ⟨p, q, hA0, hV, rfl, hfz, hnd⟩ := hW
  have hA : DataW.TrodAll enc Try.prog W 0 (fun _ => true) true Try.f5.params.toList args.toList ds p := hA0
  rw [Try.params5] at hA hval
  obtain ⟨v0, vs0, d0, ds0, p0, q0, hargs0, rfl, rfl, h0, r0⟩ := trodAll_cons hA
  obtain ⟨v1, vs1, d1, ds1, p1, q1, hargs1, rfl, rfl, h1, r1⟩ := trodAll_cons r0
  obtain ⟨rfl, rfl, rfl⟩ := trodAll_nil r1
  subst hargs1
  obtain rfl : args = #[v0, v1] := by cases args; simp_all
  obtain ⟨rfl, rfl⟩ := trodVars_none hV
  simp only [List.append_nil] at hW'
  have hlt0 : ∀ x ∈ p0, x.block < W.heap.size := fun x hx => by simpa using hW'.lt x (by simp [hx])
  have hlt1 : ∀ x ∈ p1, x.block < W.heap.size := fun x hx => by simpa using hW'.lt x (by simp [hx])
  obtain ⟨a0, cap0, l0, rfl, hn0, hl0⟩ := open_ents (hval 0 39 v0 rfl rfl) h0
  obtain ⟨a1, cap1, l1, rfl, hn1, hb1, hl1, hs1⟩ := open_bytes (hval 1 40 v1 rfl rfl) h1
  clear hA0
  refine (mlists_walk a0 cap0 l0 a1 cap1 l1 W hl0 hn0 hn1 hb1 hl1).mono fun e W' ⟨he, hb⟩ => ?_
  subst he
  refine ⟨_, rfl, _, _, _, [], (p0 ++ (p1 ++ [])), [], hW', ?_, ?_, rfl, hb.frame _, fun h => by cases h⟩
  · exact trodAll_cons_mk (shut_bool Try.underlying4 _) trodAll_mk0
  · exact trodAll_cons_mk (Below.trod laidOut (by kernel_rfl) (of_decide_eq_true (by kernel_rfl)) h0 hb hlt0) (trodAll_cons_mk (Below.trod laidOut (by kernel_rfl) (of_decide_eq_true (by kernel_rfl)) h1 hb hlt1) (trodAll_mk0))

theorem mapsLists_holds : Rows.MapsListsSaid :=
  OpenClaim.holds_of_wide 5 Try.f5 rfl rfl rfl rfl rfl rfl rfl ⟨rfl, rfl, rfl, rfl, rfl⟩ rfl rfl rfl rfl rfl (by kernel_rfl) Try.func5 (by kernel_rfl)
    (of_decide_eq_true (by kernel_rfl)) (by unfold Func.isWrapper; first | (rw [if_pos (by decide +kernel)]; kernel_rfl) | (rw [if_neg (by decide +kernel)]; exact ⟨rfl, rfl⟩))
    (fun os started H enc _ => mapsLists_lifted os started H enc)
end Go.Proofs.Ytpdcnaijhiogdaa.Oct
