/- The records of a body, if they count. -/
import Derived.Test.YtgmifbknmjdemaaGreatPJrk
namespace Go.Proofs.YtgmifbknmjdemaaGreat.Oct
open Go.RowKit Go.Deep

/-- No record is barred, and there is one. -/
def okD (p q : Nat) (D : List RD) : Bool := !D.isEmpty && !(D.any (fun r => barB p q r.1 r.2.length))

/-- The records of a body, by what a sign says of it. -/
def cntD (p q : Nat) (c s : Int) (l : List Int) : Option (List RD) :=
  if (moreC 0 l : Int) = s then (match decD l c with | some D => if okD p q D = true then some D else none | none => none) else none

theorem anyB_dat (p q : Nat) (R : List JR) : (R.map JR.dat).any (fun r => barB p q r.1 r.2.length) = anyB p q R := by
  unfold anyB
  rw [List.any_map]
  rfl

theorem decO_small {l : List Int} {p : Nat} {r : RD} (hb : Byts l) (h : decO l p = some r) : 0 ≤ r.1 ∧ r.1 ≤ 4194304 ∧ r.2.length ≤ l.length := by
  have he := decO_end h
  unfold decO at h
  split at h
  · rename_i hc
    simp at h
    have := (num_lt l p hb 8).1
    subst h
    simp only at *
    omega
  · cases h

theorem decM_small {l : List Int} (hb : Byts l) : ∀ {k : Nat} {D : List RD} {p : Nat}, decM l k = some (D, p) → ∀ r ∈ D, 0 ≤ r.1 ∧ r.1 ≤ 4194304 ∧ r.2.length ≤ l.length
  | 0, D, p, h => by
    simp [decM] at h
    obtain ⟨rfl, rfl⟩ := h
    intro r hr
    cases hr
  | k + 1, D, p, h => by
    rw [decM] at h
    split at h
    · cases h
    · rename_i D' p' hm
      split at h
      · cases h
      · rename_i r hr
        simp at h
        obtain ⟨rfl, rfl⟩ := h
        intro x hx
        rcases List.mem_append.1 hx with hx | hx
        · exact decM_small hb hm x hx
        · simp at hx
          subst hx
          exact decO_small hb hr

theorem decD_small' {l : List Int} (hb : Byts l) {c : Int} {D : List RD} (h : decD l c = some D) : (D.length : Int) ≤ max c 0 ∧ D.length ≤ l.length ∧ ∀ r ∈ D, 0 ≤ r.1 ∧ r.1 ≤ 4194304 ∧ r.2.length ≤ l.length := by
  unfold decD at h
  split at h
  · cases h
  · split at h
    · cases h
    · rename_i D' p' hm
      split at h
      · simp at h
        subst h
        have := (decM_end hm).2
        exact ⟨by omega, by omega, decM_small hb hm⟩
      · cases h

set_option maxHeartbeats 8000000 in
set_option maxRecDepth 100000 in
theorem counting_j (w : World) (J F p q : Nat) (nu : Int) (hJ : Jrn w J F p q nu) (hq : q ≤ 4194304) (nn : Int) (c : Nat) (m s : Int) (hc : c < 4294967296) (a : Option Addr) (cap : Nat) (l : List Int) (hlen : l.length ≤ 1000000) (hb : Byts l) (hs : Sl w a cap l) :
    Calls Tryz.prog 56 #[.pointer (some ⟨J, 0, none⟩), .agg #[.int .u64 nn, .int .u32 c, .int .u32 m, .int .u32 s], .slice a l.length cap] w fun e w' => Below w.heap.size w w' ∧
      ((cntD p q c s l = none ∧ e = .returned (.tuple #[.slice none 0 0, .bool false])) ∨
       (∃ R v, cntD p q c s l = some (R.map JR.dat) ∧ e = .returned (.tuple #[v, .bool true]) ∧ OwnK w' w.heap.size v R)) := by
  have hbx := Blk.new w #[.int .u64 nn, .int .u32 c, .int .u32 m, .int .u32 s] 103
  have hbl : Below w.heap.size w (w.alloc (.cells #[.int .u64 nn, .int .u32 c, .int .u32 m, .int .u32 s] 103)) := (Below.refl _ _).alloc (Nat.le_refl _) _
  have hsz : w.heap.size < (w.alloc (.cells #[.int .u64 nn, .int .u32 c, .int .u32 m, .int .u32 s] 103)).heap.size := by simp
  have HBx := hide hbx
  have HBl := hide hbl
  have HJ := hide hJ
  have HS := hide hs
  have HBy := hide hb
  have HDe := fun u (hu : Sl u a cap l) => hide (Decode_nat a cap l c u hlen hb hu (by omega))
  clear hJ hs hb hbx hbl
  go_enter Tryz.func56, Tryz.ntmps56
  go_wp2_with fail
  generalize w.alloc (.cells #[.int .u64 nn, .int .u32 c, .int .u32 m, .int .u32 s] 103) = w1 at *
  have HS1 : Hid (Calls Tryz.prog 51 #[.slice (some ⟨w1.heap.size, 0, none⟩) 1 1] (w1.alloc (.cells #[.slice a l.length cap] 24)).drew fun e w' => e = .returned (.int .u32 (moreC 0 l)) ∧ w' = (w1.alloc (.cells #[.slice a l.length cap] 24)).drew) := hide (by
    have := Sum_any (some ⟨w1.heap.size, 0, none⟩) 1 [l] (w1.alloc (.cells #[.slice a l.length cap] 24)).drew (by unfold maxLen; simp) (fun r => by
      match r with
      | 0 => simp; unfold maxLen; omega
      | r + 1 => simp) (fun r => by
      match r with
      | 0 => simpa using HBy.out
      | r + 1 => intro k; simp) (Or.inr ⟨w1.heap.size, 0, rfl, by simp, fun r hr => by
        have : r = 0 := by simpa using hr
        subst this
        exact ⟨a, cap, by simp, by simpa using ((HS.out.below HBl.out).below ((Below.refl _ _).alloc (Nat.le_refl _) (.cells #[.slice a l.length cap] 24)).drew)⟩⟩)
    simpa using this)
  have d0 : w1.drew.cell? ⟨w.heap.size, 3, none⟩ = some (.int .u32 s) := HBx.out.cell 3 _ rfl
  have d1 : (w1.alloc (.cells #[.slice a l.length cap] 24)).drew.cell? ⟨w.heap.size, 3, none⟩ = some (.int .u32 s) := (HBx.out.below ((Below.refl _ _).alloc (Nat.le_refl _) (.cells #[.slice a l.length cap] 24))).drew.cell 3 _ rfl
  have HB2 : Hid (Below w.heap.size w (w1.alloc (.cells #[.slice a l.length cap] 24)).drew) := hide (HBl.out.alloc HBl.out.size _).drew
  have HX2 := hide (HBx.out.below ((Below.refl _ _).alloc (Nat.le_refl _) (.cells #[.slice a l.length cap] 24))).drew
  go_wp2_with fail
  go_region_held3 (fun u => u.cell? ⟨w.heap.size, 3, none⟩ = some (.int .u32 s)) (go_keep) (first
    | (go_at_call 51; refine HS1.out.mono ?_; rintro e9 w7 ⟨rfl, rfl⟩))
  generalize (w1.alloc (.cells #[.slice a l.length cap] 24)).drew = w2 at *
  clear d0 d1 HS1
  obtain ⟨x0, x1, x2, x3⟩ : w2.cell? ⟨w.heap.size, 0, none⟩ = some (.int .u64 nn) ∧ w2.cell? ⟨w.heap.size, 1, none⟩ = some (.int .u32 c) ∧ w2.cell? ⟨w.heap.size, 2, none⟩ = some (.int .u32 m) ∧ w2.cell? ⟨w.heap.size, 3, none⟩ = some (.int .u32 s) := ⟨HX2.out.cell 0 _ rfl, HX2.out.cell 1 _ rfl, HX2.out.cell 2 _ rfl, HX2.out.cell 3 _ rfl⟩
  by_cases hsum : ((moreC 0 l : Nat) : Int) = s
  rotate_left
  · have HNo : Hid (cntD p q c s l = none) := hide (if_neg hsum)
    have hne : (((moreC 0 l : Nat) : Int) != s) = true := by simp [hsum]
    have HSm := hide hsum
    clear hsum
    go_wp2_with fail
    go_ret2
    exact ⟨HB2.out, Or.inl ⟨HNo.out, rfl⟩⟩
  have hne : (((moreC 0 l : Nat) : Int) != s) = false := by simp [hsum]
  have HCn : Hid (cntD p q c s l = match decD l c with | some D => if okD p q D = true then some D else none | none => none) := hide (if_pos hsum)
  have hwc : wrap64 (c : Int) = c := by unfold wrap64; omega
  clear hsum
  have HD2 := hide ((HDe w2 (HS.out.below HB2.out)).out)
  go_wp2_with fail
  refine HD2.out.mono ?_
  rintro e9 w3 ⟨hb3, ⟨hno, rfl⟩ | ⟨R, v, hyes, rfl, hown⟩⟩
  · have HNo : Hid (cntD p q c s l = none) := hide (by rw [HCn.out, hno])
    have HB3 := hide (HB2.out.trans (hb3.mono HB2.out.size))
    clear hb3 hno
    go_wp2_with fail
    go_ret2
    exact ⟨HB3.out, Or.inl ⟨HNo.out, rfl⟩⟩
  · have HB3 := hide (HB2.out.trans (hb3.mono HB2.out.size))
    have HCn2 : Hid (cntD p q c s l = if okD p q (R.map JR.dat) = true then some (R.map JR.dat) else none) := hide (by rw [HCn.out, hyes])
    have HOw : Hid (OwnK w3 w.heap.size v R) := hide ⟨⟨hown.row.1, (hown.row.2).imp id (fun ⟨g, cap, cur, h1, h2, h3⟩ => ⟨g, cap, cur, h1, Nat.le_trans HB2.out.size h2, h3⟩)⟩, fun r hr => ⟨(hown.far r hr).1, fun hne => by
      obtain ⟨g, h1, h2, h3⟩ := (hown.far r hr).2 hne
      exact ⟨g, h1, Nat.le_trans HB2.out.size h2, h3⟩⟩⟩
    have HYes := hide hyes
    obtain ⟨av, cv, rfl, hlv, hcv1, hcv2, _⟩ := HOw.out.form
    have hDl : (R.map JR.dat).length ≤ l.length ∧ ∀ r ∈ R.map JR.dat, 0 ≤ r.1 ∧ r.1 ≤ 4194304 ∧ r.2.length ≤ l.length := (decD_small' HBy.out hyes).2
    have HCt := hide (contains_j w3 J F p q nu (HJ.out.below HB3.out) hq av cv R hlv (fun r hr => by
      have := hDl.2 r.dat (List.mem_map_of_mem hr)
      simp only [JR.dat] at this
      omega) (by have := hDl.1; simp at this; omega) (fun r hr => by
      have := hDl.2 r.dat (List.mem_map_of_mem hr)
      simp only [JR.dat] at this
      unfold maxLen
      omega))
    have HOk : Hid (okD p q (R.map JR.dat) = (!(R.map JR.dat).isEmpty && !anyB p q R)) := hide (by unfold okD; rw [anyB_dat])
    clear hb3 hown hyes hlv
    by_cases hR0 : R.length = 0
    · have HNo : Hid (cntD p q c s l = none) := hide (by
        rw [HCn2.out, HOk.out, if_neg]
        have : R = [] := List.length_eq_zero_iff.1 hR0
        subst this
        simp)
      rw [hR0]
      go_wp2_with fail
      go_ret2
      exact ⟨HB3.out, Or.inl ⟨HNo.out, rfl⟩⟩
    · have hR1 : ((R.length : Int) == 0) = false := by simp; intro e; exact hR0 (by rw [e]; rfl)
      have hR2 : ¬ ((R.length : Int) = 0) := by omega
      go_wp2_with fail
      refine HCt.out.mono ?_
      rintro e9 w4 ⟨rfl, hb4⟩
      have HB4 := hide (HB3.out.trans (hb4.mono HB3.out.size))
      have HOw4 := hide (HOw.out.below hb4)
      clear hb4
      cases hab : anyB p q R with
      | true =>
        have HNo : Hid (cntD p q c s l = none) := hide (by rw [HCn2.out, HOk.out, hab, if_neg (by simp)])
        go_wp2_with fail
        go_ret2
        exact ⟨HB4.out, Or.inl ⟨HNo.out, rfl⟩⟩
      | false =>
        have HYs : Hid (cntD p q c s l = some (R.map JR.dat)) := hide (by
          rw [HCn2.out, HOk.out, hab, if_pos]
          have : R ≠ [] := fun e => hR0 (by rw [e]; rfl)
          simpa using this)
        go_wp2_with fail
        go_ret2
        exact ⟨HB4.out, Or.inr ⟨R, _, HYs.out, rfl, HOw4.out⟩⟩
end Go.Proofs.YtgmifbknmjdemaaGreat.Oct
