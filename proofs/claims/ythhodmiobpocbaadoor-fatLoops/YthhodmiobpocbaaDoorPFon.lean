/- A volume is opened: the numbers of its table. -/
import Derived.Test.YthhodmiobpocbaaDoorPFot
namespace Go.Proofs.YthhodmiobpocbaaDoor.Oct
open Go.RowKit

/-- A row of numbers of the call's own. -/
def OwnU (w : World) (B : Nat) (v : Value) (l : List Int) : Prop := w.ownsRow B 97 1 v l.length (l.map (Value.int .u32))

theorem OwnU.below {w w' : World} {B : Nat} {v : Value} {l : List Int} (h : OwnU w B v l) (hb : Below w.heap.size w w') : OwnU w' B v l :=
  World.ownsRow.kept (row := none) h ⟨hb.os, hb.tape, hb.output, hb.size, fun k hk _ => hb.block k hk⟩ (by cases v.ownBlock <;> simp)

theorem OwnU.mono {w : World} {B B' : Nat} {v : Value} {l : List Int} (h : OwnU w B v l) (hb : B' ≤ B) : OwnU w B' v l := by
  refine ⟨h.1, ?_⟩
  rcases h.2 with h1 | ⟨g, cap, cur, h1, hg, hr⟩
  · exact Or.inl h1
  · exact Or.inr ⟨g, cap, cur, h1, Nat.le_trans hb hg, hr⟩

theorem OwnU.cell {w : World} {B g n cap : Nat} {l : List Int} (h : OwnU w B (.slice (some ⟨g, 0, none⟩) n cap) l) (j : Nat) (hj : j < l.length) :
    w.cell? ⟨g, j, none⟩ = some (.int .u32 (l.getD j 0)) := by
  have hcs := World.ownsRow.cells (g := g) h rfl
  have := hcs j (.int .u32 (l.getD j 0)) (by simp [hj])
  rw [Go.WideShapes.add_plain, Nat.zero_add] at this
  exact this

theorem OwnU.free {w : World} {B g n cap : Nat} {l : List Int} (h : OwnU w B (.slice (some ⟨g, 0, none⟩) n cap) l) (hn : n = l.length) (j : Nat) : w.frozen? ⟨g, j, none⟩ = false := by
  subst hn
  exact World.ownsRow.frozenAt h j

theorem OwnU.set {w : World} {B g n cap : Nat} {l : List Int} (h : OwnU w B (.slice (some ⟨g, 0, none⟩) n cap) l) (hn : n = l.length) (j : Nat) (x : Int) :
    OwnU (w.setCell ⟨g, j, none⟩ (.int .u32 x)) B (.slice (some ⟨g, 0, none⟩) n cap) (l.set j x) ∧ w.grownBy (w.setCell ⟨g, j, none⟩ (.int .u32 x)) (some g) := by
  subst hn
  have := World.ownsRow.stored h j (.int .u32 x)
  rw [show (l.map (Value.int .u32)).set j (.int .u32 x) = (l.set j x).map (Value.int .u32) from by rw [List.map_set]] at this
  refine ⟨?_, this.2⟩
  unfold OwnU
  rw [List.length_set]
  exact this.1

theorem info_u32 : (Tryd.prog.info? 97).map (fun i => (i.zero, i.size, i.bytes)) = some (some (.int .u32 0), 1, 4) := by kernel_rfl

theorem made_u32 (w : World) (n : Nat) (hn : n ≤ 100000) : ∃ w', (Instr.makeSlice 65 (.int .i64 (n : Int)) (.int .i64 (n : Int))).run Tryd.prog w = .ok (.slice (some ⟨w.heap.size, 0, none⟩) n n) w' ∧ OwnU w' w.heap.size (.slice (some ⟨w.heap.size, 0, none⟩) n n) (List.replicate n 0) ∧ Below w.heap.size w w' := by
  obtain ⟨i, hi, hz0, hz1, hz2⟩ := info_parts info_u32
  obtain ⟨w', h1, h2, h3⟩ := run_make_full (P := Tryd.prog) (w := w) w.heap.size 65 97 i (.int .u32 0) 1 Tryd.underlying65 hi hz0 hz1 .i64 .i64 n (by rw [hz2]; omega) (by unfold maxLen; omega) (Nat.le_refl _)
  refine ⟨w', h1, ?_, ⟨h3.os, h3.tape, h3.output, h3.size, fun k hk => h3.block k hk (by simp)⟩⟩
  unfold OwnU
  have e : (madeCells (Value.int .u32 0).cells (n * 1)).toList = (List.replicate n (0 : Int)).map (Value.int .u32) := by
    simp [Value.cells]
    exact toList_madeCells_one _ _
  rw [e] at h2
  simpa using h2

/-- What a table says of a cluster, from 2 on. -/
def nxt (T : List Int) (i : Nat) : Int := num T ((i + 2) * 4) 4 % 268435456

/-- The numbers of the first clusters. -/
def numsF (T : List Int) (k : Nat) : List Int := (List.range k).map (nxt T)

theorem numsF_len (T : List Int) (k : Nat) : (numsF T k).length = k := by simp [numsF]

theorem numsF_step (T : List Int) (j k : Nat) (h : j < k) : (numsF T j ++ List.replicate (k - j) 0).set j (nxt T j) = numsF T (j + 1) ++ List.replicate (k - (j + 1)) 0 := by
  rw [List.set_append_right _ _ (by rw [numsF_len]; omega), numsF_len, Nat.sub_self, show k - j = (k - (j + 1)) + 1 by omega, List.replicate_succ, List.set_cons_zero]
  unfold numsF
  rw [List.range_succ, List.map_append]
  simp

theorem mask28 (x : Int) (h0 : 0 ≤ x) (h1 : x < 4294967296) : bits .and .u32 x 268435455 = x % 268435456 := by
  obtain ⟨a, rfl⟩ := Int.eq_ofNat_of_zero_le h0
  have h := u32_and_nat a 268435455 (by omega) (by omega)
  have e : a &&& 268435455 = a % 268435456 := Nat.and_two_pow_sub_one_eq_mod a 28
  rw [e] at h
  simpa using h

set_option maxHeartbeats 8000000 in
set_option maxRecDepth 100000 in
theorem numbers_any (b : Bt) (y : Option Addr) (c k : Nat) (T : List Int) (w : World) (hn : b.near) (hk : b.clus = (k : Int)) (hk2 : k ≤ 40000) (hT : Lies w y T) (hbT : Byts T) (hlT : T.length ≤ maxLen) (hfit : (k + 2) * 4 ≤ T.length) :
    Calls Tryd.prog 26 #[.agg b.cs, .slice y T.length c] w fun e w' => (∃ g, e = .returned (.slice (some ⟨g, 0, none⟩) k k) ∧ w.heap.size ≤ g ∧ OwnU w' w.heap.size (.slice (some ⟨g, 0, none⟩) k k) (numsF T k)) ∧ Below w.heap.size w w' := by
  obtain ⟨w1, hw1⟩ : ∃ w1, w1 = w.alloc (.cells b.cs 64) := ⟨_, rfl⟩
  have hb1 : Below w.heap.size w w1 := by rw [hw1]; exact (Below.refl _ _).alloc (Nat.le_refl _) _
  have hc0 := cells_of (Blk.new w b.cs 64)
  have HCl := hide (clus_any b w1 hn)
  rw [hk] at HCl
  have HU : ∀ (j : Nat) (u : World), j < k → Lies u y T → Hid (Calls Tryd.prog 50 #[.slice y T.length c, .int .i64 (((j : Int) + 2) * 4)] u fun e w' => e = .returned (.tuple #[.int .u32 (num T ((j + 2) * 4) 4), .bool true]) ∧ w' = u) := fun j u hj hu => hide (by
    have h := U32_at y c T ((j + 2) * 4) u hlT hbT hu (by omega)
    push_cast at h
    exact h)
  have HT1 := hide (hT.below hb1)
  have hTne : ¬ T = [] := fun e => by rw [e] at hfit; simp at hfit
  have HBy := hide hbT
  have HK2 := hide hk2
  have HW1 := hide hw1
  have HB1 := hide hb1
  obtain ⟨tl, htl⟩ : ∃ tl, tl = T.length := ⟨_, rfl⟩
  rw [← htl] at HU ⊢
  clear hn hk hk2 hT hbT hlT hfit hw1 hb1 htl
  obtain ⟨c0, c1, c2, c3, c4, c5, c6, c7⟩ := hc0
  go_enter Tryd.func26, Tryd.ntmps26
  go_wp2_with fail
  rw [← HW1.out]
  clear c0 c1 c2 c3 c4 c5 c6 c7
  refine HCl.out.mono ?_
  rintro e9 w2 ⟨rfl, hb2⟩
  obtain ⟨w3, hmk, ho3, hb3⟩ := made_u32 w2 k (by have := HK2.out; omega)
  have HT3 := hide ((HT1.out.below hb2).below hb3)
  have hs2 : w.heap.size ≤ w2.heap.size := (HB1.out.trans (hb2.mono HB1.out.size)).size
  have HB3 := hide ((HB1.out.trans (hb2.mono HB1.out.size)).trans (hb3.mono hs2))
  have HO3 := hide ho3
  have HS2 := hide hs2
  have HNy := hide (show ∀ z, y = some z → z.block ≠ w2.heap.size from fun z hz => by
    have h := HT1.out.below hb2
    rcases h with h | ⟨b9, o9, h9, h8, _⟩
    · exact absurd h hTne
    · rw [hz] at h9; cases h9; show b9 ≠ _; omega)
  clear hb2 hb3 ho3 hs2 HCl
  go_wp2_with fail
  go_loopw [14] (fun i wr => ∃ j : Nat, j ≤ k ∧ i = .int .i64 (j : Int) ∧ OwnU wr w2.heap.size (.slice (some ⟨w2.heap.size, 0, none⟩) k k) (numsF T j ++ List.replicate (k - j) 0) ∧ Lies wr y T ∧ Below w.heap.size w wr) (fun i _ => k - (intOf i).toNat)
  case atStart => exact ⟨0, by omega, rfl, by simpa [numsF] using HO3.out, HT3.out, HB3.out⟩
  case round =>
    obtain ⟨j, hj, rfl, ho, ht, hbr⟩ := hrel
    have HO := hide ho
    have HT := hide ht
    have HBr := hide hbr
    clear ho ht hbr
    by_cases hjk : j < k
    · have hk3 := HK2.out
      have hq1 : IntKind.i64.wrap ((j : Int) + 2) = (j : Int) + 2 := by rw [IntKind.wrap_i64]; omega
      have hq2 : IntKind.i64.wrap (((j : Int) + 2) * 4) = ((j : Int) + 2) * 4 := by rw [IntKind.wrap_i64]; omega
      have hq3 : IntKind.i64.wrap ((j : Int) + 1) = (j : Int) + 1 := by rw [IntKind.wrap_i64]; omega
      have hlt : (j : Int) < (k : Int) := by omega
      have HUj := HU j wr hjk HT.out
      have hlen : (numsF T j ++ List.replicate (k - j) 0).length = k := by rw [List.length_append, numsF_len, List.length_replicate]; omega
      have cj := HO.out.cell j (by rw [hlen]; exact hjk)
      have fj := HO.out.free hlen.symm j
      have HLn := hide hlen
      have HJ := hide hjk
      clear hjk hk3 hlen HU hj
      go_wp2_with fail
      refine HUj.out.mono ?_
      rintro e9 w4 ⟨rfl, h4⟩
      rw [h4]
      clear h4
      go_wp2_with fail
      go_roundw
      case rel =>
        have hnum := num_lt T ((j + 2) * 4) HBy.out 4
        have hm : bits .and .u32 (num T ((j + 2) * 4) 4) 268435455 = nxt T j := mask28 _ hnum.1 (by have := hnum.2; simp at this; omega)
        rw [hm]
        obtain ⟨h1, h2⟩ := HO.out.set HLn.out.symm j (nxt T j)
        rw [numsF_step T j k HJ.out] at h1
        have hg := h2
        have hbl := Below.trans HBr.out (Chg.below (X := fun q => some q = some w2.heap.size) w.heap.size (Chg.of_grown hg) HBr.out.size (fun i hi e => by cases e; have := HS2.out; omega))
        refine ⟨j + 1, by have := HJ.out; omega, by push_cast; rfl, h1, ?_, hbl⟩
        exact HT.out.chg (Chg.of_grown hg) (fun z hz e => HNy.out z hz (Option.some.inj e))
      case measure =>
        have := HJ.out
        simp [intOf]
        omega
    · obtain rfl : j = k := by omega
      clear hjk
      have hnlt : ¬ ((j : Int) < (j : Int)) := by omega
      go_wp2_with fail
      go_ret
      refine ⟨⟨w2.heap.size, rfl, HS2.out, ?_⟩, HBr.out⟩
      have h := HO.out
      rw [Nat.sub_self, List.replicate_zero, List.append_nil] at h
      exact OwnU.mono h HS2.out

/-- A volume's cells: what its first sector says, its numbers, its counts. -/
abbrev volC (b : Bt) (g k : Nat) (f x : Int) : Array Value := #[.int .i64 b.each, .int .i64 b.ahead, .int .i64 b.tabs, .int .i64 b.secs, .int .i64 b.long, .int .i64 b.root, .int .i64 b.info, .int .i64 b.copy, .slice (some ⟨g, 0, none⟩) k k, .int .i64 f, .int .i64 x]

/-- How many clusters of the first are free. -/
def frees (L : List Int) (j : Nat) : Int := (((L.take j).filter (fun v => v == 0)).length : Int)

theorem frees_step (L : List Int) (j : Nat) (h : j < L.length) : frees L (j + 1) = if L.getD j 0 = 0 then frees L j + 1 else frees L j := by
  unfold frees
  have e : L.take (j + 1) = L.take j ++ [L[j]] := by rw [List.take_add_one, List.getElem?_eq_getElem h]; rfl
  rw [e, List.filter_append, List.length_append, List.getD_eq_getElem?_getD, List.getElem?_eq_getElem h]
  by_cases h0 : L[j] = 0
  · simp [h0]
  · simp [h0]

theorem frees_le (L : List Int) (j : Nat) : 0 ≤ frees L j ∧ frees L j ≤ j := by
  unfold frees
  have h1 := List.length_filter_le (fun v : Int => v == 0) (L.take j)
  have h2 := List.length_take_le j L
  omega

set_option maxHeartbeats 8000000 in
set_option maxRecDepth 100000 in
theorem free_any (b : Bt) (R g k : Nat) (f x : Int) (L : List Int) (w : World) (hk : L.length = k) (hk2 : k ≤ 40000) (hR : Blk w R (volC b g k f x) 69) (hL : ∀ j, j < k → w.cell? ⟨g, j, none⟩ = some (.int .u32 (L.getD j 0))) :
    Calls Tryd.prog 27 #[.pointer (some ⟨R, 0, none⟩)] w fun e w' => e = .returned (.int .i64 (frees L k)) ∧ w' = w := by
  have c8 : w.cell? ⟨R, 8, none⟩ = some (.slice (some ⟨g, 0, none⟩) k k) := hR.cell 8 _ rfl
  have HK := hide (And.intro hk hk2)
  have HL := hide hL
  clear hk hk2 hR hL
  go_enter Tryd.func27, Tryd.ntmps27
  go_wp2_with fail
  go_loopw [3, 11] (fun s i wr => ∃ j : Nat, j ≤ k ∧ i = .int .i64 (j : Int) ∧ s = .int .i64 (frees L j) ∧ wr = w) (fun _ i _ => k - (intOf i).toNat)
  case atStart => exact ⟨0, by omega, rfl, by simp [frees], rfl⟩
  case round =>
    obtain ⟨j, hj, rfl, rfl, rfl⟩ := hrel
    by_cases hjk : j < k
    · have cj := HL.out j hjk
      have hst := frees_step L j (by have := HK.out.1; omega)
      have hle := frees_le L j
      have hk3 := HK.out.2
      have hq3 : IntKind.i64.wrap ((j : Int) + 1) = (j : Int) + 1 := by rw [IntKind.wrap_i64]; omega
      have hq4 : IntKind.i64.wrap (frees L j + 1) = frees L j + 1 := by rw [IntKind.wrap_i64]; omega
      have hlt : (j : Int) < (k : Int) := by omega
      have HJ := hide hjk
      have HST := hide hst
      clear hjk hst hle hk3 hj
      by_cases h0 : L.getD j 0 = 0
      · have h1 := HST.out
        rw [if_pos h0] at h1
        have H1 := hide h1
        rw [h0] at cj
        clear h1 h0 HST
        go_wp2_with fail
        go_roundw
        case rel => exact ⟨j + 1, by have := HJ.out; omega, by push_cast; rfl, by rw [H1.out], trivial⟩
        case measure => have := HJ.out; simp [intOf]; omega
      · have h1 := HST.out
        rw [if_neg h0] at h1
        have H1 := hide h1
        have hq : (L.getD j 0 == 0) = false := by simpa using h0
        generalize L.getD j 0 = v at *
        clear h1 h0 HST
        go_wp2_with fail
        go_roundw
        case rel => exact ⟨j + 1, by have := HJ.out; omega, by push_cast; rfl, by rw [H1.out], trivial⟩
        case measure => have := HJ.out; simp [intOf]; omega
    · obtain rfl : j = k := by omega
      clear hjk
      have hnlt : ¬ ((j : Int) < (j : Int)) := by omega
      go_wp2_with fail
      go_ret
      exact ⟨rfl, rfl⟩
end Go.Proofs.YthhodmiobpocbaaDoor.Oct
