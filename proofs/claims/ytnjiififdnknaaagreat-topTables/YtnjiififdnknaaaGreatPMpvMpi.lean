/- What the program's List and Bytes of entries answer. -/
import Derived.Test.YtnjiififdnknaaaGreatPRdLowWrLst
import Derived.Test.YtnjiififdnknaaaGreatPMpdMpgMpc
import Derived.Laws.OwnMore
namespace Go.Proofs.YtnjiififdnknaaaGreat.Oct
open Go.RowKit

abbrev E3 := Int × Int × Bool
def z3 : E3 := (0, 0, false)
def enc3 (x : E3) : List Value := [.int .i64 x.1, .int .i64 x.2.1, .bool x.2.2]

/-- Entries lie from the address on. -/
def LiesN (w : World) (a : Option Addr) (L : List E3) : Prop :=
  L = [] ∨ ∃ b off, a = some ⟨b, off, none⟩ ∧ b < w.heap.size ∧ ∀ k, k < L.length → w.cell? ⟨b, off + k * 3, none⟩ = some (.int .i64 (L.getD k z3).1) ∧ w.cell? ⟨b, off + k * 3 + 1, none⟩ = some (.int .i64 (L.getD k z3).2.1) ∧ w.cell? ⟨b, off + k * 3 + 2, none⟩ = some (.bool (L.getD k z3).2.2)

theorem LiesN.below {w w' : World} {a : Option Addr} {L : List E3} (h : LiesN w a L) (hb : RowKit.Below w.heap.size w w') : LiesN w' a L := by
  rcases h with rfl | ⟨b, off, rfl, hlt, hc⟩
  · exact Or.inl rfl
  · exact Or.inr ⟨b, off, rfl, Nat.lt_of_lt_of_le hlt hb.size, fun k hk => ⟨(hb.cell (p := ⟨b, off + k * 3, none⟩) hlt).trans (hc k hk).1, (hb.cell (p := ⟨b, off + k * 3 + 1, none⟩) hlt).trans (hc k hk).2.1, (hb.cell (p := ⟨b, off + k * 3 + 2, none⟩) hlt).trans (hc k hk).2.2⟩⟩

/-- A row of entries of the call's own. -/
def OwnN (w : World) (B : Nat) (v : Value) (L : List E3) : Prop := w.ownsRow B 43 3 v L.length (L.flatMap enc3)

theorem flat3_get : ∀ (L : List E3) (k j : Nat), k < L.length → j < 3 → (L.flatMap enc3)[k * 3 + j]? = (enc3 (L.getD k z3))[j]?
  | [], k, j, hk, _ => by simp at hk
  | x :: L, 0, j, _, hj => by
    simp only [List.flatMap_cons, Nat.zero_mul, Nat.zero_add]
    rw [List.getElem?_append_left (by simp [enc3]; omega)]
    simp
  | x :: L, k + 1, j, hk, hj => by
    simp only [List.flatMap_cons]
    rw [List.getElem?_append_right (by simp [enc3]; omega)]
    have := flat3_get L k j (by simpa using hk) hj
    simp only [List.getD_cons_succ]
    rw [← this]
    congr 1
    simp [enc3]
    omega

theorem flat3_set : ∀ (L : List E3) (k : Nat) (x : E3), k < L.length → (L.set k x).flatMap enc3 = (((L.flatMap enc3).set (k * 3) (.int .i64 x.1)).set (k * 3 + 1) (.int .i64 x.2.1)).set (k * 3 + 2) (.bool x.2.2)
  | [], k, x, hk => by simp at hk
  | y :: L, 0, x, _ => by simp [enc3]
  | y :: L, k + 1, x, hk => by
    have ih := flat3_set L k x (by simpa using hk)
    simp only [List.set_cons_succ, List.flatMap_cons, ih]
    rw [show (k + 1) * 3 = k * 3 + 3 by omega, show k * 3 + 3 + 1 = k * 3 + 1 + 3 by omega, show k * 3 + 3 + 2 = k * 3 + 2 + 3 by omega]
    simp [enc3]

theorem OwnN.cells {w : World} {B g n cap : Nat} {L : List E3} (h : OwnN w B (.slice (some ⟨g, 0, none⟩) n cap) L) (k : Nat) (hk : k < L.length) : w.cell? ⟨g, k * 3, none⟩ = some (.int .i64 (L.getD k z3).1) ∧ w.cell? ⟨g, k * 3 + 1, none⟩ = some (.int .i64 (L.getD k z3).2.1) ∧ w.cell? ⟨g, k * 3 + 2, none⟩ = some (.bool (L.getD k z3).2.2) := by
  have hc := World.ownsRow.cells (g := g) h rfl
  have e : ∀ j, j < 3 → w.cell? ⟨g, k * 3 + j, none⟩ = (enc3 (L.getD k z3))[j]? := by
    intro j hj
    have hf := flat3_get L k j hk hj
    have h3 : j < (enc3 (L.getD k z3)).length := by simp [enc3]; omega
    rw [List.getElem?_eq_getElem h3] at hf ⊢
    have := hc _ _ hf
    rw [Go.WideShapes.add_plain, Nat.zero_add] at this
    exact this
  exact ⟨e 0 (by omega), e 1 (by omega), e 2 (by omega)⟩

theorem OwnN.frozen {w : World} {B g n cap : Nat} {L : List E3} (h : OwnN w B (.slice (some ⟨g, 0, none⟩) n cap) L) (hn : n = L.length) (j : Nat) : w.frozen? ⟨g, j, none⟩ = false := by
  subst hn
  exact World.ownsRow.frozenAt h j

theorem OwnN.set {w : World} {B g n cap : Nat} {L : List E3} (h : OwnN w B (.slice (some ⟨g, 0, none⟩) n cap) L) (hn : n = L.length) (k : Nat) (x : E3) (hk : k < n) :
    OwnN (((w.setCell ⟨g, k * 3, none⟩ (.int .i64 x.1)).setCell ⟨g, k * 3 + 1, none⟩ (.int .i64 x.2.1)).setCell ⟨g, k * 3 + 2, none⟩ (.bool x.2.2)) B (.slice (some ⟨g, 0, none⟩) n cap) (L.set k x) ∧
    w.grownBy (((w.setCell ⟨g, k * 3, none⟩ (.int .i64 x.1)).setCell ⟨g, k * 3 + 1, none⟩ (.int .i64 x.2.1)).setCell ⟨g, k * 3 + 2, none⟩ (.bool x.2.2)) (some g) := by
  subst hn
  have h1 := World.ownsRow.stored h (k * 3) (.int .i64 x.1)
  have h2 := World.ownsRow.stored h1.1 (k * 3 + 1) (.int .i64 x.2.1)
  have h3 := World.ownsRow.stored h2.1 (k * 3 + 2) (.bool x.2.2)
  refine ⟨?_, ?_⟩
  · unfold OwnN
    rw [List.length_set, flat3_set L k x hk]
    exact h3.1
  · have t : ∀ {a b c : World}, a.grownBy b (some g) → b.grownBy c (some g) → a.grownBy c (some g) := fun h k => ⟨k.os.trans h.os, k.tape.trans h.tape, k.output.trans h.output, Nat.le_trans h.size k.size, fun i hi hr => (k.block i (Nat.lt_of_lt_of_le hi h.size) hr).trans (h.block i hi hr)⟩
    exact t (t h1.2 h2.2) h3.2

theorem OwnN.form {w : World} {B : Nat} {v : Value} {L : List E3} (h : OwnN w B v L) : ∃ a c, v = .slice a L.length c ∧ LiesN w a L ∧ L.length ≤ c ∧ c ≤ maxLen ∧ (∀ x, a = some x → B ≤ x.block ∧ x.block < w.heap.size ∧ x.off = 0 ∧ x.spot = none) := by
  have h0 := h
  rcases h.2 with ⟨rfl, hn⟩ | ⟨g, cap, cur, rfl, hb, hh, h1, h2, h3, h4⟩
  · have : L = [] := List.length_eq_zero_iff.1 hn
    subst this
    exact ⟨none, 0, rfl, Or.inl rfl, by simp, by simp, fun x hx => by cases hx⟩
  · have hlt := (Array.getElem?_eq_some_iff.1 hh).1
    refine ⟨_, cap, rfl, Or.inr ⟨g, 0, rfl, hlt, fun k hk => ?_⟩, h1, h2, fun x hx => by cases hx; exact ⟨hb, hlt, rfl, rfl⟩⟩
    rw [Nat.zero_add]
    exact OwnN.cells h0 k hk

theorem OwnN.nil (w : World) (B : Nat) : OwnN w B (.slice none 0 0) [] := World.ownsRow_nil _ _ _ _

theorem OwnN.below {w w' : World} {B : Nat} {v : Value} {L : List E3} (h : OwnN w B v L) (hb : RowKit.Below w.heap.size w w') : OwnN w' B v L :=
  World.ownsRow.kept (row := none) h ⟨hb.os, hb.tape, hb.output, hb.size, fun k hk _ => hb.block k hk⟩ (by cases v.ownBlock <;> simp)

theorem info3 : (Tryz.prog.info? 43).map (fun i => (i.zero, i.size, i.bytes)) = some (some (.agg #[.int .i64 0, .int .i64 0, .bool false]), 3, 24) := by kernel_rfl

theorem made3 (n : Nat) : (madeCells #[.int .i64 0, .int .i64 0, .bool false] (n * 3)).toList = (List.replicate n z3).flatMap enc3 := by
  have hl : ∀ m, ((List.replicate m z3).flatMap enc3).length = m * 3 := fun m => by simp [enc3, List.length_flatMap]
  apply List.ext_getElem?
  intro j
  by_cases hj : j < n * 3
  · have hk : j / 3 < n := by omega
    have hf := flat3_get (List.replicate n z3) (j / 3) (j % 3) (by simpa using hk) (by omega)
    rw [show j / 3 * 3 + j % 3 = j by omega] at hf
    rw [hf]
    have e : (List.replicate n z3).getD (j / 3) z3 = z3 := by simp [hk]
    rw [e]
    have h3 : j % 3 = 0 ∨ j % 3 = 1 ∨ j % 3 = 2 := by omega
    rcases h3 with h3 | h3 | h3 <;> simp [madeCells, hj, h3, enc3, z3]
  · rw [List.getElem?_eq_none (by simp [size_madeCells]; omega), List.getElem?_eq_none (by rw [hl]; omega)]

/-- make of so many entries. -/
theorem run_make_ents (w : World) (n : Nat) (hn : n ≤ 1000000) :
    (Instr.makeSlice 54 (.int .i64 (n : Int)) (.int .i64 (n : Int))).run Tryz.prog w = .ok (.slice (some ⟨w.heap.size, 0, none⟩) n n) (w.alloc (.cells (madeCells #[.int .i64 0, .int .i64 0, .bool false] (n * 3)) 43)) := by
  obtain ⟨i0, hi, hz0, hz1, hz2⟩ := info_parts info3
  have h := run_make (P := Tryz.prog) w 54 43 i0 (.agg #[.int .i64 0, .int .i64 0, .bool false]) Tryz.underlying54 hi hz0 .i64 .i64 (n : Int) (n : Int) (by omega) (Int.le_refl _) (by rw [hz2]; omega) (by omega)
  simpa [hz1, Value.cells] using h

theorem OwnN.made (w : World) (n : Nat) (hn : n ≤ maxLen) : OwnN (w.alloc (.cells (madeCells #[.int .i64 0, .int .i64 0, .bool false] (n * 3)) 43)) w.heap.size (.slice (some ⟨w.heap.size, 0, none⟩) n n) (List.replicate n z3) := by
  have := World.ownsRow_lit (base := w.heap.size) (e := 43) (size := 3) w (madeCells #[.int .i64 0, .int .i64 0, .bool false] (n * 3)) n (Nat.le_refl _) hn (size_madeCells _ _)
  unfold OwnN
  rw [made3] at this
  simpa using this
end Go.Proofs.YtnjiififdnknaaaGreat.Oct

namespace Go.Proofs.YtnjiififdnknaaaGreat.Oct
open Go.RowKit

/-- The entry of a number, as a list has it. -/
def dec3 (v : Int) : E3 := (decK v, decC v, decOw v)

/-- What List answers: all numbers are entries, and these; or one isn't. -/
def Listed (w : World) (l : List Int) (e : Ending) (w' : World) : Prop :=
  (∃ v R, e = .returned (.tuple #[v, .int .i64 0]) ∧ OwnN w' w.heap.size v R ∧ R.length = l.length / 8 ∧ ∀ j, j < l.length / 8 → okV (num l (8 * j) 8) = true ∧ R.getD j z3 = dec3 (num l (8 * j) 8)) ∨
  ((∃ j, j < l.length / 8 ∧ okV (num l (8 * j) 8) = false) ∧ e = .returned (.tuple #[.slice none 0 0, .int .i64 11]))

theorem num8 (l : List Int) (hb : Byts l) (p : Nat) : 0 ≤ num l p 8 ∧ num l p 8 < 18446744073709551616 := by
  have := num_lt l p hb 8
  have e : (256 : Int) ^ 8 = 18446744073709551616 := by decide
  omega

theorem getD_set3 (R : List E3) (k j : Nat) (x : E3) (hk : k < R.length) : (R.set k x).getD j z3 = if k = j then x else R.getD j z3 := by
  rw [List.getD_eq_getElem?_getD, List.getElem?_set]
  split
  · simp
  · rw [List.getD_eq_getElem?_getD]

set_option maxHeartbeats 4000000 in
theorem list_any (a : Option Addr) (cap : Nat) (l : List Int) (w : World) (hlen : l.length ≤ 1000000) (hb : Byts l) (hl : Lies w a l) :
    Calls Tryz.prog 56 #[.slice a l.length cap] w fun e w' => Listed w l e w' ∧ Below w.heap.size w w' := by
  obtain ⟨n, hn⟩ : ∃ n, n = l.length / 8 := ⟨_, rfl⟩
  have HN := hide hn
  have HM := fun u => hide (run_make_ents u n (by omega))
  have hmk := (HM w).out
  have hd : (l.length : Int) / 8 = (n : Int) := by omega
  have ht : (l.length : Int).tdiv 8 = (n : Int) := by rw [← hd]; exact Int.tdiv_eq_ediv_of_nonneg (by omega)
  have HO := hide (OwnN.made w n (by unfold maxLen; omega))
  have HB0 := hide ((Below.refl w.heap.size w).alloc (Nat.le_refl _) (.cells (madeCells #[.int .i64 0, .int .i64 0, .bool false] (n * 3)) 43))
  have HL := hide hl
  have HBy := hide hb
  clear hl hb HM hn
  go_enter Tryz.func56, Tryz.ntmps56
  go_wp2_with fail
  go_loopw [16] (fun i wr => ∃ (k : Nat) (R : List E3), k ≤ n ∧ i = .int .i64 k ∧ OwnN wr w.heap.size (.slice (some ⟨w.heap.size, 0, none⟩) n n) R ∧ R.length = n ∧ (∀ j, j < k → okV (num l (8 * j) 8) = true ∧ R.getD j z3 = dec3 (num l (8 * j) 8)) ∧ Below w.heap.size w wr) (fun i _ => n - (intOf i).toNat)
  case atStart => exact ⟨0, _, by omega, rfl, HO.out, by simp, by intro j hj; omega, HB0.out⟩
  case round =>
    obtain ⟨k, R, hk, rfl, ho, hRn, hall, hbel⟩ := hrel
    have HOw := hide ho
    have HRn := hide hRn
    have HAll := hide hall
    have HBel := hide hbel
    clear ho hRn hall hbel
    by_cases hlt : k < n
    · have HU := hide (U64_any a cap l ((8 * k : Nat) : Int) wr (by unfold maxLen; omega) HBy.out (HL.out.below HBel.out) (by omega) (by omega))
      have hth : thereB l.length ((8 * k : Nat) : Int) 8 = true := thereB_yes (by omega) (by omega) (by have := HN.out; omega)
      have hnm : numAt l ((8 * k : Nat) : Int) 8 = num l (8 * k) 8 := numAt_yes (by have := HN.out; omega)
      rw [hth, hnm] at HU
      have h8 : (((8 * k : Nat)) : Int) = 8 * (k : Int) := by omega
      rw [h8] at HU
      have hnb := num8 l HBy.out (8 * k)
      have HD := fun u => hide (decode_any (num l (8 * k) 8) u hnb.1 hnb.2)
      obtain ⟨v, hv⟩ : ∃ v, v = num l (8 * k) 8 := ⟨_, rfl⟩
      rw [← hv] at HU HD
      have HV := hide hv
      clear hv hth hnm h8 hnb
      obtain ⟨x, hx⟩ : ∃ x, x = decK v := ⟨_, rfl⟩
      obtain ⟨y, hy⟩ : ∃ y, y = decC v := ⟨_, rfl⟩
      obtain ⟨z, hz⟩ : ∃ z, z = decOw v := ⟨_, rfl⟩
      rw [← hx, ← hy, ← hz] at HD
      have HX : Hid ((x, y, z) = dec3 v) := hide (by rw [hx, hy, hz]; rfl)
      clear hx hy hz
      obtain ⟨b, hbk⟩ : ∃ b, b = okV v := ⟨_, rfl⟩
      rw [← hbk] at HD
      have HK := hide hbk
      clear hbk
      go_wp2_with fail
      refine HU.out.mono ?_
      rintro e9 w2 ⟨rfl, h2⟩
      subst h2
      go_wp2_with fail
      refine ((HD _).out).mono ?_
      rintro e9 w3 ⟨rfl, hb3⟩
      have HB4 := hide ((HBel.out.trans (hb3.mono HBel.out.size)).alloc (Nat.le_trans HBel.out.size hb3.size) (.cells #[.int .i64 x, .int .i64 y, .bool z] 43))
      have HO4 := hide ((HOw.out.below hb3).below ((Below.refl _ _).alloc (Nat.le_refl _) (.cells #[.int .i64 x, .int .i64 y, .bool z] 43)))
      have HO3 := hide (HOw.out.below hb3)
      have hne : w.heap.size ≠ w3.heap.size := by
        have h1 := (World.ownsRow.lt HOw.out w.heap.size rfl).2
        have h2 := hb3.size
        omega
      clear hb3
      cases b
      · have hn11 : noE false = 11 := rfl
        rw [hn11]
        clear hn11
        go_wp2_with fail
        go_ret2
        exact ⟨Or.inr ⟨⟨k, by rw [← HN.out]; exact hlt, by rw [← HV.out, ← HK.out]⟩, rfl⟩, HB4.out⟩
      · have hn0 : noE true = 0 := rfl
        rw [hn0]
        clear hn0
        obtain ⟨c0, c1, c2⟩ := HO4.out.cells k (by rw [HRn.out]; exact hlt)
        have f0 := HO4.out.frozen HRn.out.symm (k * 3)
        have f1 := HO4.out.frozen HRn.out.symm (k * 3 + 1)
        have f2 := HO4.out.frozen HRn.out.symm (k * 3 + 2)
        generalize (R.getD k z3).1 = r0 at *
        generalize (R.getD k z3).2.1 = r1 at *
        generalize (R.getD k z3).2.2 = r2 at *
        go_wp2_with fail
        have hs := HO4.out.set HRn.out.symm k (x, y, z) hlt
        refine ⟨⟨k + 1, R.set k (x, y, z), by omega, by go_num, hs.1, by rw [List.length_set, HRn.out], fun j hj => ?_, HB4.out.grown hs.2 HB4.out.size (fun q hq => by simp at hq; omega)⟩, by simp [intOf]; omega⟩
        rw [getD_set3 R k j _ (by rw [HRn.out]; exact hlt)]
        by_cases hjk : k = j
        · subst hjk
          rw [if_pos rfl, ← HV.out, ← HK.out, HX.out]
          exact ⟨rfl, rfl⟩
        · rw [if_neg hjk]
          exact HAll.out j (by omega)
    · obtain rfl : k = n := by omega
      go_wp2_with fail
      go_ret2
      exact ⟨Or.inl ⟨_, R, rfl, HOw.out, by rw [HRn.out, HN.out], fun j hj => HAll.out j (by rw [HN.out]; exact hj)⟩, HBel.out⟩

/-- An entry's number, as a list has it. -/
def enN (x : E3) : Int := encN x.1 x.2.1 x.2.2
def okN (x : E3) : Bool := okE x.1 x.2.1 x.2.2

/-- Bytes that are the numbers of entries one behind the other, the first k. -/
def LaidE (m : List Int) (L : List E3) (k : Nat) : Prop := ∀ j, j < k → ∀ i, i < 8 → m.getD (8 * j + i) 0 = enN (L.getD j z3) / 2 ^ (8 * i) % 256

/-- What Bytes answers. -/
def Byted (w : World) (L : List E3) (e : Ending) (w' : World) : Prop :=
  (∃ v m, e = .returned (.tuple #[v, .int .i64 0]) ∧ Own w' w.heap.size v m ∧ m.length = 8 * L.length ∧ Byts m ∧ (∀ j, j < L.length → okN (L.getD j z3) = true) ∧ LaidE m L L.length) ∨
  ((∃ j, j < L.length ∧ okN (L.getD j z3) = false) ∧ e = .returned (.tuple #[.slice none 0 0, .int .i64 11]))

set_option maxHeartbeats 4000000 in
theorem bytes_any (a : Option Addr) (cap : Nat) (L : List E3) (w : World) (hlen : L.length ≤ 100000) (hl : LiesN w a L) :
    Calls Tryz.prog 35 #[.slice a L.length cap] w fun e w' => Byted w L e w' ∧ Below w.heap.size w w' := by
  obtain ⟨n, hn⟩ : ∃ n, n = L.length := ⟨_, rfl⟩
  have hmk := run_make_bytes w (8 * n) (by omega)
  have h8 : (((8 * n : Nat)) : Int) = 8 * (n : Int) := by omega
  rw [h8] at hmk
  have HO := hide (Own.made w (8 * n) (by unfold maxLen; omega))
  have HB0 := hide ((Below.refl w.heap.size w).alloc (Nat.le_refl _) (.cells (madeCells #[.int .u8 0] (8 * n)) 5))
  have HL := hide hl
  have HN := hide hn
  clear hl h8
  rw [← hn] at hlen ⊢
  clear hn
  go_enter Tryz.func35, Tryz.ntmps35
  go_wp2_with fail
  go_loopw [15] (fun i wr => ∃ (k : Nat) (m : List Int), k ≤ n ∧ i = .int .i64 k ∧ Own wr w.heap.size (.slice (some ⟨w.heap.size, 0, none⟩) (8 * n) (8 * n)) m ∧ m.length = 8 * n ∧ Byts m ∧ (∀ j, j < k → okN (L.getD j z3) = true) ∧ LaidE m L k ∧ Below w.heap.size w wr) (fun i _ => n - (intOf i).toNat)
  case atStart => exact ⟨0, _, by omega, rfl, HO.out, by simp, Byts.zeros _, by intro j hj; omega, by intro j hj; omega, HB0.out⟩
  case round =>
    obtain ⟨k, m, hk, rfl, ho, hmn, hby, hall, hlaid, hbel⟩ := hrel
    have HOw := hide ho
    have HMn := hide hmn
    have HBy := hide hby
    have HAll := hide hall
    have HLd := hide hlaid
    have HBel := hide hbel
    clear ho hmn hby hall hlaid hbel
    by_cases hlt : k < n
    · rcases HL.out.below HBel.out with h | ⟨b, off, rfl, hbl, hc⟩
      · exfalso
        have := HN.out
        rw [h] at this
        simp at this
        omega
      obtain ⟨c0, c1, c2⟩ := hc k (by rw [← HN.out]; exact hlt)
      clear hc
      obtain ⟨x, hx⟩ : ∃ x, x = L.getD k z3 := ⟨_, rfl⟩
      rw [← hx] at c0 c1 c2
      have HX := hide hx
      clear hx
      obtain ⟨q, c, o⟩ := x
      have HE := fun u => hide (encode_any q c o u)
      obtain ⟨v, hv⟩ : ∃ v, v = encN q c o := ⟨_, rfl⟩
      obtain ⟨d, hd⟩ : ∃ d, d = okE q c o := ⟨_, rfl⟩
      rw [← hv, ← hd] at HE
      have HV := hide hv
      have HD := hide hd
      clear hv hd
      simp only at c0 c1 c2
      have HP : ∀ u, Own u w.heap.size (.slice (some ⟨w.heap.size, 0, none⟩) (8 * n) (8 * n)) m → Hid (Calls Tryz.prog 60 #[.slice (some ⟨w.heap.size, 0, none⟩) (8 * n) (8 * n), .int .i64 (8 * (k : Int)), .int .u64 v] u fun e w' =>
          e = .returned (.bool true) ∧ Own w' w.heap.size (.slice (some ⟨w.heap.size, 0, none⟩) (8 * n) (8 * n)) (putN m (8 * k) v 8) ∧ u.grownBy w' (some w.heap.size)) := fun u hu => hide (by
        have h8 : (((8 * k : Nat)) : Int) = 8 * (k : Int) := by omega
        have h9 : Own u w.heap.size (.slice (some ⟨w.heap.size, 0, none⟩) m.length (8 * n)) m := by rw [HMn.out]; exact hu
        have h := Put64_yes w.heap.size w.heap.size (8 * n) m (8 * k) v u (by rw [HMn.out]; unfold maxLen; omega) (by rw [HMn.out]; omega) h9
        rw [HMn.out, h8] at h
        exact h)
      go_wp2_with fail
      refine ((HE _).out).mono ?_
      rintro e9 w3 ⟨rfl, hb3⟩
      have HB3 := hide ((HBel.out.alloc HBel.out.size (.cells #[.int .i64 q, .int .i64 c, .bool o] 43)).trans (hb3.mono (Nat.le_trans HBel.out.size (by simp))))
      have HO3 := hide ((HOw.out.alloc (.cells #[.int .i64 q, .int .i64 c, .bool o] 43)).below hb3)
      clear hb3 c0 c1 c2
      cases d
      · have hn11 : noE false = 11 := rfl
        rw [hn11]
        clear hn11
        go_wp2_with fail
        go_ret2
        exact ⟨Or.inr ⟨⟨k, by rw [← HN.out]; exact hlt, by rw [← HX.out]; exact HD.out.symm⟩, rfl⟩, HB3.out⟩
      · have hn0 : noE true = 0 := rfl
        rw [hn0]
        clear hn0
        go_wp2_with fail
        refine ((HP _ HO3.out).out).mono ?_
        rintro e9 w4 ⟨rfl, ho4, hg4⟩
        have HO4 := hide ho4
        have HB4 := hide (HB3.out.grown hg4 HB3.out.size (fun q hq => by simp at hq; omega))
        clear ho4 hg4
        go_wp2_with fail
        have hm8 : 8 * k + 8 ≤ m.length := by rw [HMn.out]; omega
        refine ⟨⟨k + 1, _, by omega, by go_num, HO4.out, by rw [putN_length, HMn.out], Byts.putN HBy.out _ _ _, fun j hj => ?_, fun j hj i hi => ?_, HB4.out⟩, by simp [intOf]; omega⟩
        · by_cases hjk : j = k
          · subst hjk
            rw [← HX.out]; exact HD.out.symm
          · exact HAll.out j (by omega)
        · rw [getD_putN m (8 * k) v (8 * j + i) 8 hm8]
          by_cases hjk : j = k
          · subst hjk
            rw [if_pos (by omega), ← HX.out, Nat.add_sub_cancel_left, HV.out]
            rfl
          · rw [if_neg (by omega)]
            exact HLd.out j (by omega) i hi
    · obtain rfl : k = n := by omega
      go_wp2_with fail
      go_ret2
      exact ⟨Or.inl ⟨_, m, rfl, HOw.out, by rw [HMn.out, HN.out], HBy.out, fun j hj => HAll.out j (by rw [HN.out]; exact hj), fun j hj => HLd.out j (by rw [HN.out]; exact hj)⟩, HBel.out⟩
end Go.Proofs.YtnjiififdnknaaaGreat.Oct
