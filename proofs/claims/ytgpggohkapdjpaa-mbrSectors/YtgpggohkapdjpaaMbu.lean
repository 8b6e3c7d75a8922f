/- The example that every statement of mbr asks for. -/
import Derived.Test.YtgpggohkapdjpaaMbt
import Derived.Test.YtgpggohkapdjpaaMbs
import Derived.Test.YtgpggohkapdjpaaSrt
namespace Go.Proofs.Ytgpggohkapdjpaa.Oct
open Go.RowKit

theorem ex_len (a b : Option Addr) : (diskD 100 (exX a b) 2).length = 51200 := diskD_len 100 _ (by omega) 2

theorem ex_first (a b : Option Addr) : firstM (diskD 100 (exX a b) 2) = .ok ⟨[(4096, 24576, 12, 0)], [(0, 512)], 32768, 49152, false⟩ := by
  have h0 : secD (diskD 100 (exX a b) 2) 0 = secA := by rw [exD_sec a b 0 (by omega)]; rfl
  have hc : secC (diskD 100 (exX a b) 2) 0 = 0 := by
    unfold secC
    rw [if_pos (by rw [ex_len]; omega)]
    change entC (secD (diskD 100 (exX a b) 2) 0) = 0
    rw [h0, secA_c]
  unfold firstM rdM
  rw [if_pos hc]
  simp only
  rw [h0, secA_e, ex_len]
  rfl

theorem ex_link (a b : Option Addr) : linkM (diskD 100 (exX a b) 2) ⟨[(4096, 24576, 12, 0)], [(0, 512)], 32768, 49152, false⟩ 4 64 = .ok (stEx, (0, 0, 0)) := by
  have h0 : secD (diskD 100 (exX a b) 2) 64 = secB := by rw [exD_sec a b 64 (by omega)]; rfl
  have hc : secC (diskD 100 (exX a b) 2) 64 = 0 := by
    unfold secC
    rw [if_pos (by rw [ex_len]; omega)]
    change entC (secD (diskD 100 (exX a b) 2) 64) = 0
    rw [h0, secB_c]
  have e0 : entM secB 446 = (11, 1, 10) := by have := secB_e; unfold entsM at this; simp only [List.cons.injEq] at this; exact this.1
  have e1 : entM secB 462 = (0, 0, 0) := by have := secB_e; unfold entsM at this; simp only [List.cons.injEq] at this; exact this.2.1
  have e2 : entM secB 478 = (0, 0, 0) := by have := secB_e; unfold entsM at this; simp only [List.cons.injEq] at this; exact this.2.2.1
  have e3 : entM secB 494 = (0, 0, 0) := by have := secB_e; unfold entsM at this; simp only [List.cons.injEq] at this; exact this.2.2.2.1
  unfold linkM rdM
  rw [if_neg (by decide), if_pos hc]
  simp only
  have ht : (64 : Int).toNat = 64 := rfl
  rw [ht, h0, e0, e1, e2, e3]
  rfl

theorem ex_pars (a b : Option Addr) : parsM (diskD 100 (exX a b) 2) = .ok stEx := by
  have hch : chM (diskD 100 (exX a b) 2) ⟨[(4096, 24576, 12, 0)], [(0, 512)], 32768, 49152, false⟩ = .ok stEx := by
    unfold chM
    rw [if_pos (by rfl)]
    have hb : ((32768 : Int) / 512) = 64 := by decide
    simp only [hb]
    unfold chainM
    rw [if_neg (by simp), ex_link]
    rfl
  unfold parsM
  rw [ex_first]
  simp only
  rw [hch]
  simp only
  rw [if_pos]
  constructor
  · simp [outerM, stEx, Off]
  · simp [allM, stEx, Off]

theorem info3l : (Try.prog.info? 61).map (fun i => (i.zero, i.size, i.bytes)) = some (some (.agg #[.int .i64 0, .slice none 0 0, .slice none 0 0]), 3, 56) := by kernel_rfl

set_option maxHeartbeats 8000000 in
set_option maxRecDepth 100000 in
theorem chained_any (hS : SortSays) (w : World) : Calls Try.prog 7 #[] w fun e w' => e = .returned (.bool true) ∧ Below w.heap.size w w' := by
  obtain ⟨w1, hw1⟩ : ∃ w1, w1 = ((w.alloc (.cells #[.int .i64 12, .int .i64 8, .int .i64 40, .int .i64 5, .int .i64 64, .int .i64 32] 32)).alloc (.cells #[.int .i64 11, .int .i64 1, .int .i64 10] 32)).alloc (.cells #[.int .i64 0, .slice (some ⟨w.heap.size, 0, none⟩) 2 2, .slice none 0 0, .int .i64 64, .slice (some ⟨w.heap.size + 1, 0, none⟩) 1 1, .slice none 0 0] 61) := ⟨_, rfl⟩
  have hb1 : Below w.heap.size w w1 := by rw [hw1]; exact (((Below.refl _ _).alloc (Nat.le_refl _) _).alloc (by simp) _).alloc (by simp; omega) _
  have b1 : Blk w1 w.heap.size #[.int .i64 12, .int .i64 8, .int .i64 40, .int .i64 5, .int .i64 64, .int .i64 32] 32 := by
    rw [hw1]
    exact ((Blk.new w _ _).below ((Below.refl _ _).alloc (Nat.le_refl _) _)).below ((Below.refl _ _).alloc (Nat.le_refl _) _)
  have b2 : Blk w1 (w.heap.size + 1) #[.int .i64 11, .int .i64 1, .int .i64 10] 32 := by
    rw [hw1]
    have := (Blk.new (w.alloc (.cells #[.int .i64 12, .int .i64 8, .int .i64 40, .int .i64 5, .int .i64 64, .int .i64 32] 32)) #[.int .i64 11, .int .i64 1, .int .i64 10] 32).below ((Below.refl _ _).alloc (Nat.le_refl _) (.cells #[.int .i64 0, .slice (some ⟨w.heap.size, 0, none⟩) 2 2, .slice none 0 0, .int .i64 64, .slice (some ⟨w.heap.size + 1, 0, none⟩) 1 1, .slice none 0 0] 61))
    simpa using this
  have b3 : Blk w1 (w.heap.size + 2) #[.int .i64 0, .slice (some ⟨w.heap.size, 0, none⟩) 2 2, .slice none 0 0, .int .i64 64, .slice (some ⟨w.heap.size + 1, 0, none⟩) 1 1, .slice none 0 0] 61 := by
    rw [hw1]
    have := Blk.new ((w.alloc (.cells #[.int .i64 12, .int .i64 8, .int .i64 40, .int .i64 5, .int .i64 64, .int .i64 32] 32)).alloc (.cells #[.int .i64 11, .int .i64 1, .int .i64 10] 32)) #[.int .i64 0, .slice (some ⟨w.heap.size, 0, none⟩) 2 2, .slice none 0 0, .int .i64 64, .slice (some ⟨w.heap.size + 1, 0, none⟩) 1 1, .slice none 0 0] 61
    simpa using this
  have hX : LiesL w1 (some ⟨w.heap.size + 2, 0, none⟩) (exX (some ⟨w.heap.size, 0, none⟩) (some ⟨w.heap.size + 1, 0, none⟩)) := by
    refine Or.inr ⟨w.heap.size + 2, 0, rfl, b3.lt, fun k hk => ?_⟩
    have hk2 : k = 0 ∨ k = 1 := by simp [exX] at hk; omega
    rcases hk2 with rfl | rfl
    · refine ⟨⟨b3.cell 0 _ rfl, b3.cell 1 _ rfl, b3.cell 2 _ rfl⟩, Or.inr ⟨w.heap.size, 0, rfl, b1.lt, fun q hq => ?_⟩, Or.inl rfl⟩
      have hq2 : q = 0 ∨ q = 1 := by simp [exX] at hq; omega
      rcases hq2 with rfl | rfl
      · exact ⟨b1.cell 0 _ rfl, b1.cell 1 _ rfl, b1.cell 2 _ rfl⟩
      · exact ⟨b1.cell 3 _ rfl, b1.cell 4 _ rfl, b1.cell 5 _ rfl⟩
    · refine ⟨⟨b3.cell 3 _ rfl, b3.cell 4 _ rfl, b3.cell 5 _ rfl⟩, Or.inr ⟨w.heap.size + 1, 0, rfl, b2.lt, fun q hq => ?_⟩, Or.inl rfl⟩
      have hq2 : q = 0 := by simp [exX] at hq; omega
      subst hq2
      exact ⟨b2.cell 0 _ rfl, b2.cell 1 _ rfl, b2.cell 2 _ rfl⟩
  have HD : Hid (Calls Try.prog 16 #[.int .i64 100, .slice (some ⟨w.heap.size + 2, 0, none⟩) 2 2] w1 fun e w' => ∃ a c, e = .returned (.tuple #[.slice a 51200 c, .bool true]) ∧ Own w' w1.heap.size (.slice a 51200 c) (diskD 100 (exX (some ⟨w.heap.size, 0, none⟩) (some ⟨w.heap.size + 1, 0, none⟩)) 2) ∧ Below w1.heap.size w1 w') := hide (by
    have := disk_any w1 100 (some ⟨w.heap.size + 2, 0, none⟩) 2 (exX (some ⟨w.heap.size, 0, none⟩) (some ⟨w.heap.size + 1, 0, none⟩)) hX (by simp [exX]) (fun x hx => by
      simp only [exX, List.mem_cons, List.not_mem_nil, or_false] at hx
      rcases hx with rfl | rfl <;> simp [maxLen]) 100 (by decide) (by omega)
    exact this)
  have HB1 := hide hb1
  have HW1 := hide hw1
  have HPs := fun u (a : Option Addr) (c : Nat) (d : List Int) h1 h2 h3 h4 h5 => hide (parse_any hS u a c d h1 h2 h3 h4 h5)
  have HEx := hide (ex_pars (some ⟨w.heap.size, 0, none⟩) (some ⟨w.heap.size + 1, 0, none⟩))
  have HEl := hide (ex_len (some ⟨w.heap.size, 0, none⟩) (some ⟨w.heap.size + 1, 0, none⟩))
  have HEb : Hid (Byts (diskD 100 (exX (some ⟨w.heap.size, 0, none⟩) (some ⟨w.heap.size + 1, 0, none⟩)) 2)) := hide (Byts.diskD _ _ (fun x hx => by
    simp only [exX, List.mem_cons, List.not_mem_nil, or_false] at hx
    rcases hx with rfl | rfl <;> (intro k; simp)) 2)
  clear hw1 hb1 b1 b2 b3 hX hS
  generalize diskD 100 (exX (some ⟨w.heap.size, 0, none⟩) (some ⟨w.heap.size + 1, 0, none⟩)) 2 = d at *
  go_enter Try.func7, Try.ntmps7
  go_wp2_with fail
  rw [← HW1.out]
  refine HD.out.mono ?_
  rintro e9 w2 ⟨a2, c2, rfl, ho2, hb2⟩
  have HB2 := hide (HB1.out.trans (hb2.mono HB1.out.size))
  have hcap : d.length ≤ c2 := by
    obtain ⟨a', c', e, _, _, h, _⟩ := ho2.form
    simp only [Value.slice.injEq] at e
    rw [e.2.2]
    exact h
  have hli : Lies w2 a2 d := by
    obtain ⟨a', c', e, h, _⟩ := ho2.form
    simp only [Value.slice.injEq] at e
    rw [e.1]
    exact h
  have hal : ∀ x, a2 = some x → x.block < w2.heap.size := fun x hx => (World.ownsRow.lt ho2 x.block (by rw [hx]; rfl)).2
  have HP := HPs w2 a2 c2 d hli hal HEb.out (by rw [HEl.out]; omega) hcap
  rw [HEl.out] at HP
  clear ho2 hb2 hcap hli hal HPs HD
  go_wp2_with fail
  refine HP.out.mono ?_
  rintro e9 w3 ⟨he3, hb3⟩
  rcases he3 with ⟨st, aP, cP, aH, cH, h5, rfl, hlP, hlH, _, _⟩ | ⟨c, h5, _⟩
  · rw [HEx.out] at h5
    cases h5
    have HB3 := hide (HB2.out.trans (hb3.mono HB2.out.size))
    rcases hlP with hE | ⟨bP, oP, rfl, hbP, hcP⟩
    · exact absurd hE (by simp [stEx])
    obtain ⟨k0, k1, k2, k3⟩ := hcP 1 (by simp [stEx])
    have k0' : w3.cell? ⟨bP, oP + 4, none⟩ = some (.int .i64 33280) := k0
    have k1' : w3.cell? ⟨bP, oP + 4 + 1, none⟩ = some (.int .i64 38400) := k1
    have k3' : w3.cell? ⟨bP, oP + 4 + 3, none⟩ = some (.int .i64 4) := k3
    have hl2 : stEx.P.length = 2 := rfl
    have hi1 : stEx.i1 = 32768 := rfl
    have hi2 : stEx.i2 = 49152 := rfl
    have hg0 : stEx.g = false := rfl
    rw [hl2, hi1, hi2, hg0]
    generalize stEx.H.length = nH at *
    have hba := (Below.refl w3.heap.size w3).alloc (Nat.le_refl _) (.cells #[.slice (some ⟨bP, oP, none⟩) 2 cP, .slice aH nH cH, .int .i64 32768, .int .i64 49152, .bool false] 51)
    have j0 := (hba.cell (p := ⟨bP, oP + 4, none⟩) hbP).trans k0'
    have j1 := (hba.cell (p := ⟨bP, oP + 4 + 1, none⟩) hbP).trans k1'
    have j3 := (hba.cell (p := ⟨bP, oP + 4 + 3, none⟩) hbP).trans k3'
    have hgd := fun (u : World) (p q : Operand) => guard_X u .eql p q #[.int .i64 33280, .int .i64 38400] #[.int .i64 33280, .int .i64 38400]
    have hq : ∀ u : World, (binOp .eql 49 (.agg #[.int .i64 33280, .int .i64 38400]) (.agg #[.int .i64 33280, .int .i64 38400])).run Try.prog u = .ok (.bool true) u := fun u => by
      rw [run_eql_struct, eqf_X]
      rfl
    have HB4 := hide (HB3.out.trans (hba.mono HB3.out.size))
    clear hcP k0 k1 k2 k3 hlH hb3 hba hl2 hi1 hi2 hg0
    go_wp2_with fail
    go_ret
    exact ⟨rfl, HB4.out⟩
  · rw [HEx.out] at h5
    cases h5
end Go.Proofs.Ytgpggohkapdjpaa.Oct
