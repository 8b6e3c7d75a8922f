/- The document's records out of bytes. -/
import Derived.Test.YtifngegkijdbmaaJce
namespace Go.Proofs.Ytifngegkijdbmaa.Oct
open Go.RowKit Go.Deep Go.WideShapes

set_option maxHeartbeats 400000 in
theorem rint_at (a : Option Addr) (cap : Nat) (l : List Int) (p : Nat) (w : World) (h5 : l.length ≤ 1000000) (hb : Byts l) (hl : Lies w a l) (hp : p + 4 ≤ l.length) :
    Calls Try.prog 51 #[.slice a l.length cap, .int .i64 p, .int .i64 4] w fun e w' => e = .returned (.int .i64 (num l p 4)) ∧ w' = w := by
  have HN : Hid (Calls Try.prog 50 #[.slice a l.length cap, .int .i64 p, .int .i64 4] w fun e w' => e = .returned (.tuple #[.int .u64 (num l p 4), .bool true]) ∧ w' = w) := hide (by
    have := Num_any a cap l p 4 (by omega) (by omega) w (by unfold maxLen; omega) hb hl (by omega) (by omega)
    rw [thereB_yes (by omega) (by omega) (by omega), numAt_yes hp] at this
    exact this)
  have hn := num_lt l p hb 4
  have p4 : (256 : Int) ^ 4 = 4294967296 := by decide
  rw [p4] at hn
  clear p4 hl hb
  generalize num l p 4 = v at *
  go_enter Try.func51, Try.ntmps51
  go_wp2_with fail
  refine HN.out.mono ?_
  rintro e9 w2 ⟨rfl, rfl⟩
  go_wp2_with fail
  go_ret
  exact ⟨rfl, rfl⟩

theorem rnum_at (a : Option Addr) (cap : Nat) (l : List Int) (p : Nat) (w : World) (h5 : l.length ≤ 1000000) (hb : Byts l) (hl : Lies w a l) (hp : p + 8 ≤ l.length) :
    Calls Try.prog 50 #[.slice a l.length cap, .int .i64 p, .int .i64 8] w fun e w' => e = .returned (.tuple #[.int .u64 (num l p 8), .bool true]) ∧ w' = w := by
  have := Num_any a cap l p 8 (by omega) (by omega) w (by unfold maxLen; omega) hb hl (by omega) (by omega)
  rw [thereB_yes (by omega) (by omega) (by omega), numAt_yes hp] at this
  exact this

/-- A part of bytes that is there: a record's bytes, apart from all that was. -/
theorem Part_rec (a : Option Addr) (cap : Nat) (l : List Int) (p n : Nat) (w : World) (hlen : l.length ≤ 1000000) (hs : Sl w a cap l) (hp : p + n ≤ l.length) :
    Calls Try.prog 45 #[.slice a l.length cap, .int .i64 p, .int .i64 n] w fun e w' => ∃ v, e = .returned v ∧ Own w' w.heap.size v ((l.drop p).take n) ∧ Below w.heap.size w w' := by
  by_cases hn : 0 < n
  · exact Part_in a cap l p n w hlen hs hp hn
  · obtain rfl : n = 0 := by omega
    refine (Part_nil a cap l p w hlen hs (by omega)).mono ?_
    rintro e w' ⟨rfl, rfl⟩
    exact ⟨_, rfl, by simpa using Own.nil _ _, Below.refl _ _⟩

/-- What the document's reading makes of bytes. -/
def decR (l : List Int) (n : Int) : Option (List RD) := match decM l n.toNat with
    | none => none
    | some (D, p) => if p = l.length then some D else none

theorem decM_room {l : List Int} : ∀ {k : Nat} {D : List RD} {p : Nat}, decM l k = some (D, p) → 12 * k ≤ p
  | 0, D, p, h => by omega
  | k + 1, D, p, h => by
    rw [decM] at h
    split at h
    · cases h
    · rename_i D' p' hm
      split at h
      · cases h
      · have := decM_room hm
        simp at h
        omega

theorem decR_eq (l : List Int) (n : Int) : decR l n = decD l n := by
  unfold decR decD
  by_cases h : n > (l.length : Int) / 12
  · rw [if_pos h]
    cases hm : decM l n.toNat with
    | none => rfl
    | some x =>
      obtain ⟨D, p⟩ := x
      have h1 := decM_room hm
      have h2 := decM_end hm
      omega
  · rw [if_neg h]
    cases decM l n.toNat <;> rfl

set_option maxRecDepth 100000 in
set_option maxHeartbeats 8000000 in
theorem RDecode_any (a : Option Addr) (cap : Nat) (l : List Int) (n : Int) (w : World) (hlen : l.length ≤ 2000) (hb : Byts l) (hs : Sl w a cap l) (hcm : n ≤ 1000) :
    Calls Try.prog 22 #[.slice a l.length cap, .int .i64 n] w fun e w' => Below w.heap.size w w' ∧
      ((decD l n = none ∧ e = .returned (.tuple #[.slice none 0 0, .int .i64 11])) ∨
       (∃ R v, decD l n = some (R.map JR.dat) ∧ e = .returned (.tuple #[v, .int .i64 0]) ∧ OwnQ w' w.heap.size v R)) := by
  have HS := hide hs
  have HBy := hide hb
  obtain ⟨i1, hi, hz0, hz1, hz2⟩ := info_parts info_rec5
  clear hs hb
  rw [← decR_eq]
  have HDd : Hid (decR l n = match decM l n.toNat with | none => none | some (D, p) => if p = l.length then some D else none) := hide rfl
  obtain ⟨dd, hdd⟩ : ∃ dd, decR l n = dd := ⟨_, rfl⟩
  rw [hdd] at HDd ⊢
  clear hdd
  go_enter Try.func22, Try.ntmps22
  go_wp2_with fail

  go_loopw [6, 7, 8] (fun v t i wr => ∃ (k p : Nat) (R : List JR), k ≤ n.toNat ∧ i = .int .i64 (k : Int) ∧ t = .int .i64 (p : Int) ∧ decM l k = some (R.map JR.dat, p) ∧ OwnQ wr w.heap.size v R ∧ Below w.heap.size w wr) (fun _ _ i _ => n.toNat - (intOf i).toNat)
  case atStart => exact ⟨0, 0, [], by omega, rfl, rfl, rfl, OwnQ.nil _ _, Below.refl _ _⟩
  case round =>
    obtain ⟨k, p, R, hk, rfl, rfl, hdm, ho, hbel⟩ := hrel
    have hpe := (decM_end hdm).1
    have hRl := (decM_end hdm).2
    have HDm := hide hdm
    have HO := hide ho
    have HB := hide hbel
    have HStep : Hid (decM l (k + 1) = match decO l p with | none => none | some r => some (R.map JR.dat ++ [r], p + (12 + r.2.length))) := hide (by rw [decM, hdm]; rfl)
    clear hdm hbel
    by_cases hlt : k < n.toNat
    · have hlt2 : (k : Int) < n := by omega
      have HNo : Hid (decO l p = none → dd = none) := hide (fun h => by
        have h1 : decM l (k + 1) = none := by rw [HStep.out, h]
        rw [HDd.out, decM_none h1 _ (by omega)])
      have HI := hide (In_any a l.length cap (p : Int) 12 wr (by unfold maxLen; omega) (by omega) (by omega))
      have HSw := hide (HS.out.below HB.out)
      by_cases h12 : p + 12 ≤ l.length
      · have t12 : thereB l.length (p : Int) 12 = true := thereB_yes (by omega) (by omega) (by omega)
        rw [t12] at HI
        clear t12
        have HN8 := hide (rnum_at a cap l p wr (by omega) HBy.out HSw.out.lies (by omega))
        have HN4 := hide (rint_at a cap l (p + 8) wr (by omega) HBy.out HSw.out.lies (by omega))
        have c8 : ((p + 8 : Nat) : Int) = (p : Int) + 8 := by omega
        rw [c8] at HN4
        have b8 := num_lt l p HBy.out 8
        have b4 := num_lt l (p + 8) HBy.out 4
        obtain ⟨x, hx⟩ : ∃ x, num l p 8 = x := ⟨_, rfl⟩
        obtain ⟨y, hy⟩ : ∃ y, num l (p + 8) 4 = y := ⟨_, rfl⟩
        rw [hx] at HN8 b8
        rw [hy] at HN4 b4
        have HD : Hid (decO l p = if x ≤ 4194304 ∧ y ≤ (l.length : Int) - (p + 12) then some (x, (l.drop (p + 12)).take y.toNat) else none) := hide (by
          unfold decO
          rw [hx, hy]
          by_cases hc : x ≤ 4194304 ∧ y ≤ (l.length : Int) - (p + 12)
          · rw [if_pos ⟨h12, hc⟩, if_pos hc]
          · rw [if_neg (fun e => hc e.2), if_neg hc])
        have hb8 : x < 18446744073709551616 := by have := b8.2; simpa using this
        have hb4 : y < 4294967296 := by have := b4.2; simpa using this
        obtain ⟨hx0, _⟩ := b8
        obtain ⟨hy0, _⟩ := b4
        clear hx hy c8
        by_cases hxm : x ≤ 4194304
        · have hd1 : decide (4194304 < x) = false := by simp; omega
          obtain ⟨m, rfl⟩ := Int.eq_ofNat_of_zero_le hy0
          by_cases hyl : p + 12 + m ≤ l.length
          · have hv1 : IntKind.i64.wrap ((l.length : Int) - p - 12) = (l.length : Int) - p - 12 := by rw [IntKind.wrap_i64]; omega
            have hv2 : decide ((l.length : Int) - p - 12 < (m : Int)) = false := by simp; omega
            have hv3 : IntKind.i64.wrap x = x := by rw [IntKind.wrap_i64]; omega
            have HP := hide (Part_rec a cap l (p + 12) m wr (by omega) HSw.out (by omega))
            have c12 : ((p + 12 : Nat) : Int) = (p : Int) + 12 := by omega
            rw [c12] at HP
            have HQL : Hid (((l.drop (p + 12)).take m).length = m) := hide (by simp; omega)
            have HDn : Hid (decO l p = some (x, (l.drop (p + 12)).take m)) := hide (by
              rw [HD.out, if_pos ⟨hxm, by omega⟩]
              rfl)
            generalize (l.drop (p + 12)).take m = q at *
            clear c12 HD
            go_wp2_with fail
            refine HI.out.mono ?_
            rintro e9 w2 ⟨rfl, rfl⟩
            go_wp2_with fail
            refine HN8.out.mono ?_
            rintro e9 w2 ⟨rfl, rfl⟩
            go_wp2_with fail
            refine HN4.out.mono ?_
            rintro e9 w2 ⟨rfl, rfl⟩
            go_wp2_with fail
            refine HP.out.mono ?_
            rintro e9 w2 ⟨vr, rfl, hor, hb2⟩
            have HYes : Hid (decM l (k + 1) = some (R.map JR.dat ++ [(x, q)], p + (12 + q.length))) := hide (by rw [HStep.out, HDn.out])
            have HB2 := hide (HB.out.trans (hb2.mono HB.out.size))
            obtain ⟨ar, cr, rfl, hslr, hgr⟩ := hor.sl
            have HF2 : Hid (FarQ w2 u6 ⟨x, ar, cr, q⟩) := hide ⟨hslr, fun hne => by
              obtain ⟨g, h1, h2, h3⟩ := hgr hne
              refine ⟨_, h1, h3, fun e => ?_⟩
              have := (World.ownsRow.lt ho.row g e).2
              omega⟩
            have HO2 := hide (HO.out.below hb2)
            have hb3 : Below w2.heap.size w2 (w2.alloc (.cells #[.int .i64 x, .slice ar q.length cr] 54)) := (Below.refl w2.heap.size w2).alloc (Nat.le_refl _) _
            have HO3 := hide (HO2.out.below hb3)
            have HB3 := hide (HB2.out.trans (hb3.mono HB2.out.size))
            have HF3 := hide (HF2.out.below hb3)
            have HN3 := hide (new2J w2 54 (.int .i64 x) (.slice ar q.length cr))
            have hRm : R.length ≤ 1000 := by have := hRl; simp at this; omega
            have hwm : IntKind.i64.wrap ((p : Int) + 12 + (m : Int)) = (p : Int) + 12 + (m : Int) := by rw [IntKind.wrap_i64]; omega
            clear hb2 hb3 hslr hgr hor ho
            go_wp2_with (at_builtin; refine wpList_append_own_at _ rfl (.tmp 42) (.tmp 51) 31 rfl w.heap.size 54 i1 (.agg #[.int .i64 0, .slice none 0 0]) 2 32 Try.underlying31 hi hz0 hz1 hz2 rfl (by decide) u6 R.length (R.flatMap JR.cells) rfl HO3.out.row ⟨w2.heap.size, 0, none⟩ 1 1 [.int .i64 x, .slice ar q.length cr] rfl rfl HN3.out (by simp [Value.oneCell']) (by unfold maxLen; omega) (by omega) HB3.out.size ?_; intro v5 w5 ho5 hg5 _ hw5; have HO5 := hide ho5; have HG5 := hide hg5; have HW5 := hide hw5; clear ho5 hg5 hw5)
            have hql := HQL.out
            have hb5 := HB3.out.grown HG5.out HB3.out.size (fun q hq => (World.ownsRow.lt HO3.out.row q hq).1)
            exact ⟨⟨k + 1, p + (12 + q.length), R ++ [⟨x, ar, cr, q⟩], by omega, by congr 1 <;> omega, by congr 1 <;> omega, by rw [HYes.out, List.map_append]; rfl, OwnQ.append (r := ⟨x, ar, cr, q⟩) HO3.out HF3.out HO5.out HG5.out HW5.out, hb5⟩, by simp [intOf]; omega⟩
          · have HDn := hide (HNo.out (by rw [HD.out, if_neg (by omega)]))
            have hv1 : IntKind.i64.wrap ((l.length : Int) - p - 12) = (l.length : Int) - p - 12 := by rw [IntKind.wrap_i64]; omega
            have hv2 : decide ((l.length : Int) - p - 12 < (m : Int)) = true := by simp; omega
            go_wp2_with fail
            refine HI.out.mono ?_
            rintro e9 w2 ⟨rfl, rfl⟩
            go_wp2_with fail
            refine HN8.out.mono ?_
            rintro e9 w2 ⟨rfl, rfl⟩
            go_wp2_with fail
            refine HN4.out.mono ?_
            rintro e9 w2 ⟨rfl, rfl⟩
            go_wp2_with fail
            go_ret2
            exact ⟨HB.out, Or.inl ⟨HDn.out, rfl⟩⟩
        · have hd1 : decide (4194304 < x) = true := by simp; omega
          have HDn := hide (HNo.out (by rw [HD.out, if_neg (by omega)]))
          go_wp2_with fail
          refine HI.out.mono ?_
          rintro e9 w2 ⟨rfl, rfl⟩
          go_wp2_with fail
          refine HN8.out.mono ?_
          rintro e9 w2 ⟨rfl, rfl⟩
          go_wp2_with fail
          refine HN4.out.mono ?_
          rintro e9 w2 ⟨rfl, rfl⟩
          go_wp2_with fail
          go_ret2
          exact ⟨HB.out, Or.inl ⟨HDn.out, rfl⟩⟩
      · have t12 : thereB l.length (p : Int) 12 = false := thereB_no (by omega)
        rw [t12] at HI
        have HDn := hide (HNo.out (by unfold decO; rw [if_neg (by omega)]))
        go_wp2_with fail
        refine HI.out.mono ?_
        rintro e9 w2 ⟨rfl, rfl⟩
        go_wp2_with fail
        go_ret2
        exact ⟨HB.out, Or.inl ⟨HDn.out, rfl⟩⟩
    · obtain rfl : k = n.toNat := by omega
      have hlt2 : ¬ (((n.toNat : Nat) : Int) < n) := by omega
      by_cases hpl : p = l.length
      · have h1 : ((p : Int) != (l.length : Int)) = false := by simp; omega
        have HFin : Hid (dd = some (R.map JR.dat)) := hide (by rw [HDd.out, HDm.out]; simp only; rw [if_pos hpl])
        subst hpl
        go_wp2_with fail
        go_ret2
        first
          | exact ⟨HB.out, Or.inr ⟨R, u6, HFin.out, rfl, HO.out⟩⟩
          | exact ⟨HB.out, Or.inr ⟨R, HFin.out, u6, rfl, HO.out⟩⟩
      · have h1 : ((p : Int) != (l.length : Int)) = true := by simp; omega
        have h2 : ¬ ((p : Int) = (l.length : Int)) := by omega
        have HFin : Hid (dd = none) := hide (by rw [HDd.out, HDm.out]; simp only; rw [if_neg hpl])
        go_wp2_with fail
        go_ret2
        exact ⟨HB.out, Or.inl ⟨HFin.out, rfl⟩⟩
end Go.Proofs.Ytifngegkijdbmaa.Oct
