/- A sector's four entries: what the program answers. -/
import Derived.Test.YtjpdfchdgphdoaaGreatDoorPMbc
namespace Go.Proofs.YtjpdfchdgphdoaaGreatDoor.Oct
open Go.RowKit

/-- What Entries answers. -/
def Ents (T : Nat) (w : World) (l : List Int) (e : Ending) (w' : World) : Prop :=
  (entC l = 0 ∧ ∃ v, e = .returned (.tuple #[v, .int .i64 0]) ∧ OwnM T w' w.heap.size v (entsM l)) ∨
  (¬ entC l = 0 ∧ e = .returned (.tuple #[.slice none 0 0, .int .i64 (entC l)]))

set_option maxHeartbeats 4000000 in
set_option maxRecDepth 100000 in
theorem entries_any (a : Option Addr) (cap : Nat) (l : List Int) (w : World) (hlen : l.length ≤ maxLen) (hcap : l.length ≤ cap) (hby : Byts l) (hl : Lies w a l) :
    Calls Tryz.prog 75 #[.slice a l.length cap] w fun e w' => Ents 128 w l e w' ∧ Below w.heap.size w w' := by
  by_cases h5 : l.length = 512
  · have hc0 : ∀ k, k < 512 → ∃ b off, a = some ⟨b, off, none⟩ := fun k hk => by
      rcases hl with h | ⟨b, off, e, _⟩
      · rw [h] at h5; simp at h5
      · exact ⟨b, off, e⟩
    obtain ⟨b, off, ha⟩ := hc0 0 (by omega)
    subst ha
    clear hc0
    have hn := num2 l hby 510
    have HU := fun u (hu : Below w.heap.size w u) => hide (U16_any (some ⟨b, off, none⟩) cap l ((510 : Nat) : Int) u hlen hby (hl.below hu) (by omega) (by omega))
    rw [thereB_yes (by omega) (by omega) (by omega), numAt_yes (by omega), h5] at HU
    have HE : ∀ (k : Nat) (u : World), k < 4 → Below w.heap.size w u → Hid (Calls Tryz.prog 101 #[.slice (some ⟨b, off + (446 + k * 16), none⟩) 16 (cap - (446 + k * 16))] u fun e w' => e = .returned (entR ((l.drop (446 + k * 16)).take 16)) ∧ Below u.heap.size u w') := fun k u hk hu => hide (by
      refine entry_any b (off + (446 + k * 16)) _ _ u (by simp; omega) ((hby.drop _).take _) ?_
      exact (hl.below hu).of_part _ _)
    have HC := hide (show ∀ k, k < 4 → entR ((l.drop (446 + k * 16)).take 16) = if okM l (446 + 16 * k) = true then .tuple #[.agg #[.int .i64 (entM l (446 + 16 * k)).1, .int .i64 (entM l (446 + 16 * k)).2.1, .int .i64 (entM l (446 + 16 * k)).2.2], .int .i64 0] else .tuple #[.agg #[.int .i64 0, .int .i64 0, .int .i64 0], .int .i64 11] from fun k hk => by
      unfold entR
      rw [okM_part l _ _ 0 (by omega) (by omega), entM_part l _ _ 0 (by omega) (by omega), show 446 + k * 16 + 0 = 446 + 16 * k by omega])
    have hmk : (Instr.makeSlice 124 (.int .i64 4) (.int .i64 4)).run Tryz.prog w = .ok (.slice (some ⟨w.heap.size, 0, none⟩) 4 4) (w.alloc (.cells (madeCells #[.int .i64 0, .int .i64 0, .int .i64 0] (4 * 3)) 128)) := run_make_m3 w 4 (by omega)
    have HO := hide (OwnM.made w 4 (by unfold maxLen; omega))
    have HB0 := hide ((Below.refl w.heap.size w).alloc (Nat.le_refl _) (.cells (madeCells #[.int .i64 0, .int .i64 0, .int .i64 0] (4 * 3)) 128))
    have HE0 : Hid (entC l = if num l 510 2 = 43605 then (if okAll l = true then 0 else 11) else 10) := hide (by unfold entC; rw [if_pos h5])
    have HAI := hide (okAll_iff l)
    have HEq := hide (ents_eq l)
    have H5 := hide h5
    rw [h5] at hcap ⊢
    obtain ⟨x, hx⟩ : ∃ x, x = num l 510 2 := ⟨_, rfl⟩
    rw [← hx] at HU HE0 hn
    clear hl hby hlen h5 hx
    by_cases hx5 : x = 43605
    · subst hx5
      go_enter Tryz.func75, Tryz.ntmps75
      go_wp2_with fail
      refine ((HU _ (Below.refl _ _)).out).mono ?_
      rintro e9 w2 ⟨rfl, h2⟩
      subst h2
      go_wp2_with fail
      go_loopw [24] (fun i wr => ∃ (k : Nat) (R : List M3), k ≤ 4 ∧ i = .int .i64 k ∧ OwnM 128 wr w2.heap.size (.slice (some ⟨w2.heap.size, 0, none⟩) 4 4) R ∧ R.length = 4 ∧ (∀ j, j < k → okM l (446 + 16 * j) = true ∧ R.getD j zm3 = entM l (446 + 16 * j)) ∧ Below w2.heap.size w2 wr) (fun i _ => 4 - (intOf i).toNat)
      case atStart => exact ⟨0, _, by omega, rfl, HO.out, by simp, by intro j hj; omega, HB0.out⟩
      case round =>
        obtain ⟨k, R, hk, rfl, ho, hRn, hall, hbel⟩ := hrel
        have HOw := hide ho
        have HRn := hide hRn
        have HAll := hide hall
        have HBel := hide hbel
        clear ho hRn hall hbel
        by_cases hlt : k < 4
        · have HEk := HE k wr hlt HBel.out
          rw [HC.out k hlt] at HEk
          have hwa : IntKind.i64.wrap ((k : Int) * 16) = (k : Int) * 16 := by rw [IntKind.wrap_i64]; omega
          have hwb : IntKind.i64.wrap (446 + (k : Int) * 16) = 446 + (k : Int) * 16 := by rw [IntKind.wrap_i64]; omega
          have hwc : IntKind.i64.wrap (446 + (k : Int) * 16 + 16) = 446 + (k : Int) * 16 + 16 := by rw [IntKind.wrap_i64]; omega
          obtain ⟨x, hx⟩ : ∃ x, x = entM l (446 + 16 * k) := ⟨_, rfl⟩
          obtain ⟨bk, hbk⟩ : ∃ bk, bk = okM l (446 + 16 * k) := ⟨_, rfl⟩
          rw [← hx, ← hbk] at HEk
          obtain ⟨x1, x2, x3⟩ := x
          dsimp only at HEk
          have HX := hide hx
          have HBk := hide hbk
          clear hx hbk
          go_wp2_with fail
          refine HEk.out.mono ?_
          rintro e9 w3 ⟨rfl, hb3⟩
          cases bk
          · rw [if_neg (by decide)]
            have HB4 := hide ((HBel.out.trans (hb3.mono HBel.out.size)).alloc (Nat.le_trans HBel.out.size hb3.size) (.cells #[.int .i64 0, .int .i64 0, .int .i64 0] 128))
            clear hb3
            go_wp2_with fail
            go_ret2
            have e11 : entC l = 11 := by
              rw [HE0.out, if_pos trivial, if_neg]
              intro h
              have := HAI.out.1 h k hlt
              rw [← HBk.out] at this
              cases this
            exact ⟨Or.inr ⟨by rw [e11]; decide, by rw [e11]; rfl⟩, HB4.out⟩
          · rw [if_pos rfl]
            have HB4 := hide ((HBel.out.trans (hb3.mono HBel.out.size)).alloc (Nat.le_trans HBel.out.size hb3.size) (.cells #[.int .i64 x1, .int .i64 x2, .int .i64 x3] 128))
            have HO4 := hide ((HOw.out.below hb3).below ((Below.refl _ _).alloc (Nat.le_refl _) (.cells #[.int .i64 x1, .int .i64 x2, .int .i64 x3] 128)))
            have hne : w2.heap.size ≠ w3.heap.size := by
              have h1 := (World.ownsRow.lt HOw.out w2.heap.size rfl).2
              have h2 := hb3.size
              omega
            clear hb3
            obtain ⟨c0, c1, c2⟩ := HO4.out.cells k (by rw [HRn.out]; exact hlt)
            have f0 := HO4.out.frozen HRn.out.symm (k * 3)
            have f1 := HO4.out.frozen HRn.out.symm (k * 3 + 1)
            have f2 := HO4.out.frozen HRn.out.symm (k * 3 + 2)
            generalize (R.getD k zm3).1 = r0 at *
            generalize (R.getD k zm3).2.1 = r1 at *
            generalize (R.getD k zm3).2.2 = r2 at *
            go_wp2_with fail
            have hs := HO4.out.set HRn.out.symm k (x1, x2, x3) hlt
            refine ⟨⟨k + 1, R.set k (x1, x2, x3), by omega, by go_num, hs.1, by rw [List.length_set, HRn.out], fun j hj => ?_, HB4.out.grown hs.2 HB4.out.size (fun q hq => by simp at hq; omega)⟩, by simp [intOf]; omega⟩
            rw [getD_setM R k j _ (by rw [HRn.out]; exact hlt)]
            by_cases hjk : k = j
            · subst hjk
              rw [if_pos rfl, ← HX.out, ← HBk.out]
              exact ⟨rfl, rfl⟩
            · rw [if_neg hjk]
              exact HAll.out j (by omega)
        · obtain rfl : k = 4 := by omega
          go_wp2_with fail
          go_ret2
          have e0 : entC l = 0 := by rw [HE0.out, if_pos trivial, if_pos (HAI.out.2 (fun j hj => (HAll.out j hj).1))]
          exact ⟨Or.inl ⟨e0, _, rfl, by rw [← HEq.out R HRn.out (fun j hj => (HAll.out j hj).2)]; exact HOw.out⟩, HBel.out⟩
    · have hne : (x != 43605) = true := by simpa using hx5
      go_enter Tryz.func75, Tryz.ntmps75
      go_wp2_with fail
      refine ((HU _ (Below.refl _ _)).out).mono ?_
      rintro e9 w2 ⟨rfl, h2⟩
      subst h2
      go_wp2_with fail
      go_ret2
      have e10 : entC l = 10 := by rw [HE0.out, if_neg hx5]
      exact ⟨Or.inr ⟨by rw [e10]; decide, by rw [e10]; rfl⟩, Below.refl _ _⟩
  · have e4 : entC l = 4 := by unfold entC; rw [if_neg h5]
    have HE4 := hide e4
    have hne : ((l.length : Int) != 512) = true := by simp; omega
    clear e4
    go_enter Tryz.func75, Tryz.ntmps75
    go_wp2_with fail
    go_ret2
    exact ⟨Or.inr ⟨by rw [HE4.out]; decide, by rw [HE4.out]; rfl⟩, Below.refl _ _⟩
end Go.Proofs.YtjpdfchdgphdoaaGreatDoor.Oct
