/- A table is made; numbers that come in. -/
import Derived.Test.YtibkhgmmjhlpmaaGreatPTbsTbt
import Derived.Test.YtibkhgmmjhlpmaaGreatPMpwMpoMpq
namespace Go.Proofs.YtibkhgmmjhlpmaaGreat.Oct
open Go.RowKit Go.Deep Go.ChangeShapes Go.WideShapes Go.ChangeAt

theorem good_check : Hd.check ⟨9, 32768, 120, 29, false⟩ = 0 := by decide

set_option maxHeartbeats 1000000 in
theorem at_no (T : Nat) (c : Int) (hc : ¬ (1 ≤ c ∧ c < 120)) (w : World) : Calls Tryz.prog 30 #[.agg #[.int .i64 9, .int .i64 32768, .int .i64 120, .int .i64 29, .bool false], .pointer (some ⟨T, 0, none⟩), .int .i64 c] w fun e w' => e = .returned (.tuple #[.pointer none, .int .i64 4]) ∧ Below w.heap.size w w' := by
  have HB := hide ((Below.refl w.heap.size w).alloc (Nat.le_refl _) (.cells #[.int .i64 9, .int .i64 32768, .int .i64 120, .int .i64 29, .bool false] 25))
  by_cases h1 : c < 1
  · clear hc
    go_enter Tryz.func30, Tryz.ntmps30
    go_wp2_with fail
    go_ret2
    exact ⟨rfl, HB.out⟩
  · have h2 : 120 ≤ c := by omega
    clear hc
    go_enter Tryz.func30, Tryz.ntmps30
    go_wp2_with fail
    go_ret2
    exact ⟨rfl, HB.out⟩

set_option maxHeartbeats 1000000 in
theorem at_ok (T : Nat) (c : Int) (hc : 1 ≤ c ∧ c < 120) (w : World) : Calls Tryz.prog 30 #[.agg #[.int .i64 9, .int .i64 32768, .int .i64 120, .int .i64 29, .bool false], .pointer (some ⟨T, 0, none⟩), .int .i64 c] w fun e w' => ∃ A, e = .returned (.tuple #[.pointer (some ⟨A, 0, none⟩), .int .i64 0]) ∧ w.heap.size ≤ A ∧ Tab w' A T c ∧ Below w.heap.size w w' := by
  have hs := heap_alloc_new w (.cells #[.int .i64 9, .int .i64 32768, .int .i64 120, .int .i64 29, .bool false] 25)
  have HB := hide ((Below.refl w.heap.size w).alloc (Nat.le_refl _) (.cells #[.int .i64 9, .int .i64 32768, .int .i64 120, .int .i64 29, .bool false] 25))
  have HK := hide (HBox.new w 25 9 32768 120 29 false)
  have HC := fun u => hide (check_any 9 32768 120 29 false u)
  rw [good_check] at HC
  have h1 : ¬ c < 1 := by omega
  have h2 : ¬ 120 ≤ c := by omega
  clear hc hs
  go_enter Tryz.func30, Tryz.ntmps30
  go_wp2_with fail
  refine ((HC _).out).mono ?_
  rintro e9 w2 ⟨rfl, hb2⟩
  have HB2 := hide (HB.out.trans (hb2.mono HB.out.size))
  obtain ⟨c0, c1, c2, c3, c4⟩ := HK.out.below (by simp) hb2
  clear hb2
  go_wp2_with fail
  go_ret2
  exact ⟨w2.heap.size, rfl, HB2.out.size, heap_alloc_new w2 _, HB2.out.alloc HB2.out.size _⟩

/-- Numbers lie from the address on. -/
def LiesI (w : World) (a : Option Addr) (L : List Int) : Prop := L = [] ∨ ∃ b off, a = some ⟨b, off, none⟩ ∧ b < w.heap.size ∧ ∀ k, k < L.length → w.cell? ⟨b, off + k, none⟩ = some (.int .i64 (L.getD k 0))

theorem LiesI.below {w w' : World} {a : Option Addr} {L : List Int} (h : LiesI w a L) (hb : RowKit.Below w.heap.size w w') : LiesI w' a L := by
  rcases h with rfl | ⟨b, off, rfl, hlt, hc⟩
  · exact Or.inl rfl
  · exact Or.inr ⟨b, off, rfl, Nat.lt_of_lt_of_le hlt hb.size, fun k hk => (hb.cell (p := ⟨b, off + k, none⟩) hlt).trans (hc k hk)⟩

set_option maxRecDepth 100000 in
theorem open_i64s_trod {H : Type} {enc : TypeId × Value → H} {W : World} {fuel : Nat} {v : Value} {x : DataW H × List MemPlace}
    (hf : DataW.trod enc Tryz.prog W 0 (fun _ => true) true fuel 22 [v] = some x) :
    ∃ a cap L, v = .slice a (List.length L) cap ∧ L.length ≤ maxLen ∧ LiesI W a L := by
  rcases open_slice1 Tryz.underlying22 cellsI2 hf with ⟨hcs, _⟩ | ⟨a, len, cap, m, n, V, D, Pl, hcs, _, hl, hm, hmm, _, hx⟩
  · simp at hcs
    subst hcs
    exact ⟨none, 0, [], rfl, by simp, Or.inl rfl⟩
  · simp at hcs
    subst hcs
    simp only [if_true] at hmm
    by_cases h0 : len = 0
    · subst h0
      exact ⟨some a, cap, [], rfl, by simp, Or.inl rfl⟩
    obtain ⟨b, off, spot⟩ := a
    have hs : spot = none := by simpa [Addr.add] using World.cell?_spot (hx 0 (by omega)).1
    subst hs
    obtain ⟨q, hq⟩ := choose_lt (α := Int) (p := fun i x => W.cell? ⟨b, off + i, none⟩ = some (.int .i64 x)) (fun i (hi : i < m) => by
      obtain ⟨h1, h2⟩ := hx i hi
      obtain ⟨x, hb, _⟩ := DataW.trod_int Tryz.underlying2 h2
      simp at hb
      rw [hb, add_plain] at h1
      exact ⟨x, h1⟩)
    obtain ⟨L, hL⟩ : ∃ L, L = (List.range len).map q := ⟨_, rfl⟩
    have hlen : L.length = len := by rw [hL]; simp
    have hget : ∀ r, r < len → L.getD r 0 = q r := fun r hr => by rw [hL]; simp [hr]
    refine ⟨some ⟨b, off, none⟩, cap, L, by rw [hlen], by omega, Or.inr ⟨b, off, rfl, lt_of_cell (hq 0 (by omega)), fun r hr => ?_⟩⟩
    rw [hget r (by omega)]
    exact hq r (by omega)

set_option maxRecDepth 100000 in
theorem open_i64s {H : Type} {enc : TypeId × Value → H} {W : World} {base : Nat} {v : Value} {d : DataW H} {ps : List MemPlace}
    (hok : Value.okWide Tryz.prog W .any base 22 v) (h : DataW.Trod enc Tryz.prog W 0 (fun _ => true) true 22 v d ps) :
    ∃ a cap L, v = .slice a (List.length L) cap ∧ L.length ≤ maxLen ∧ LiesI W a L := by
  obtain ⟨a0, len, cap, rfl⟩ := okWide_slice Tryz.underlying22 hok
  obtain ⟨fuel, hf⟩ := h
  exact open_i64s_trod (by simpa [Value.cells] using hf)
end Go.Proofs.YtibkhgmmjhlpmaaGreat.Oct
