/- Bytes in memory: where they lie; rows that a call made itself; bytes as a text. -/
import Derived.WalkKit
import Derived.Laws.BitsAllLaws
import Derived.Laws.CopyOwn
namespace Go.Proofs.YtpbnjobjjnhplaaDoor.Oct
open Go.RowKit

/-- A fact kept from the walk. -/
theorem hide {p : Prop} (h : p) : Hid p := h

/-- All are bytes. -/
def Byts (l : List Int) : Prop := ∀ k, 0 ≤ l.getD k 0 ∧ l.getD k 0 < 256

/-- The number of the first k bytes from place p on, the lowest first. -/
def num (l : List Int) (p : Nat) : Nat → Int
  | 0 => 0
  | k + 1 => num l p k + l.getD (p + k) 0 * 256 ^ k

theorem num_lt (l : List Int) (p : Nat) (hb : Byts l) : ∀ k, 0 ≤ num l p k ∧ num l p k < 256 ^ k
  | 0 => by simp [num]
  | k + 1 => by
    have ih := num_lt l p hb k
    have h := hb (p + k)
    have hp : (0 : Int) < 256 ^ k := Int.pow_pos (by omega)
    generalize hx : l.getD (p + k) 0 = x at *
    simp only [num, Int.pow_succ, hx]
    generalize (256 : Int) ^ k = y at *
    have e1 : x * y ≤ 255 * y := Int.mul_le_mul_of_nonneg_right (by omega) (by omega)
    have e2 : 0 ≤ x * y := Int.mul_nonneg h.1 (by omega)
    omega

theorem pow256 (k : Nat) : (256 : Nat) ^ k = 2 ^ (8 * k) := by rw [Nat.pow_mul]

theorem nat_or_step (a x k : Nat) (ha : a < 256 ^ k) : a ||| (x * 2 ^ (8 * k)) = a + x * 256 ^ k := by
  rw [Nat.or_comm, nat_join (8 * k) _ _ (by simp) (by rw [← pow256]; exact ha), pow256, Nat.add_comm]

theorem int_pow (k : Nat) : ((2 : Int) ^ (8 * k)) = ((2 ^ (8 * k) : Nat) : Int) := by simp
theorem int_pow256 (k : Nat) : ((256 : Int) ^ k) = ((256 ^ k : Nat) : Int) := by simp

theorem small_shift (x k n : Nat) (hx : x < 256) (hk : k < n) : x * 2 ^ (8 * k) < 256 ^ n := by
  have h1 : 256 ^ (k + 1) ≤ 256 ^ n := Nat.pow_le_pow_right (by omega) hk
  rw [Nat.pow_succ, pow256] at h1
  have h2 : x * 2 ^ (8 * k) < 256 * 2 ^ (8 * k) := Nat.mul_lt_mul_of_pos_right hx (Nat.two_pow_pos _)
  omega

theorem or_step32 (a x : Int) (k : Nat) (hk : k < 4) (ha : 0 ≤ a ∧ a < 256 ^ k) (hx : 0 ≤ x ∧ x < 256) :
    bits .or .u32 a (x % 4294967296 * 2 ^ (8 * k) % 4294967296) = a + x * 256 ^ k := by
  obtain ⟨a, rfl⟩ := Int.eq_ofNat_of_zero_le ha.1
  obtain ⟨x, rfl⟩ := Int.eq_ofNat_of_zero_le hx.1
  have h1 := small_shift x k 4 (by omega) hk
  have e1 : ((x : Int) % 4294967296 * 2 ^ (8 * k) % 4294967296) = ((x * 2 ^ (8 * k) : Nat) : Int) := by
    have h : (256 : Nat) ^ 4 = 4294967296 := by decide
    rw [h] at h1
    rw [int_pow, Int.emod_eq_of_lt (a := (x : Int)) (by omega) (by omega), ← Int.natCast_mul, Int.emod_eq_of_lt (by omega) (by omega)]
  have ha2 : a < 256 ^ k := by have := ha.2; rw [int_pow256] at this; omega
  have ha3 : a < 4294967296 := by
    have h : (256 : Nat) ^ k ≤ 256 ^ 4 := Nat.pow_le_pow_right (by omega) (by omega)
    have h' : (256 : Nat) ^ 4 = 4294967296 := by decide
    omega
  rw [e1, u32_or_nat a _ ha3 (by have h' : (256 : Nat) ^ 4 = 4294967296 := by decide
                                 omega), nat_or_step a x k ha2, int_pow256]
  simp

theorem or_step16 (a x : Int) (k : Nat) (hk : k < 2) (ha : 0 ≤ a ∧ a < 256 ^ k) (hx : 0 ≤ x ∧ x < 256) :
    bits .or .u16 a (x % 65536 * 2 ^ (8 * k) % 65536) = a + x * 256 ^ k := by
  obtain ⟨a, rfl⟩ := Int.eq_ofNat_of_zero_le ha.1
  obtain ⟨x, rfl⟩ := Int.eq_ofNat_of_zero_le hx.1
  have h1 := small_shift x k 2 (by omega) hk
  have h : (256 : Nat) ^ 2 = 65536 := by decide
  have e1 : ((x : Int) % 65536 * 2 ^ (8 * k) % 65536) = ((x * 2 ^ (8 * k) : Nat) : Int) := by
    rw [h] at h1
    rw [int_pow, Int.emod_eq_of_lt (a := (x : Int)) (by omega) (by omega), ← Int.natCast_mul, Int.emod_eq_of_lt (by omega) (by omega)]
  have ha2 : a < 256 ^ k := by have := ha.2; rw [int_pow256] at this; omega
  have ha3 : a < 65536 := by
    have h : (256 : Nat) ^ k ≤ 256 ^ 2 := Nat.pow_le_pow_right (by omega) (by omega)
    omega
  rw [e1, u16_or_nat a _ ha3 (by omega), nat_or_step a x k ha2, int_pow256]
  simp

theorem or_step64 (a x : Int) (k : Nat) (hk : k < 8) (ha : 0 ≤ a ∧ a < 256 ^ k) (hx : 0 ≤ x ∧ x < 256) :
    bits .or .u64 a (x % 18446744073709551616 * 2 ^ (8 * k) % 18446744073709551616) = a + x * 256 ^ k := by
  obtain ⟨a, rfl⟩ := Int.eq_ofNat_of_zero_le ha.1
  obtain ⟨x, rfl⟩ := Int.eq_ofNat_of_zero_le hx.1
  have h1 := small_shift x k 8 (by omega) hk
  have h : (256 : Nat) ^ 8 = 18446744073709551616 := by decide
  have e1 : ((x : Int) % 18446744073709551616 * 2 ^ (8 * k) % 18446744073709551616) = ((x * 2 ^ (8 * k) : Nat) : Int) := by
    rw [h] at h1
    rw [int_pow, Int.emod_eq_of_lt (a := (x : Int)) (by omega) (by omega), ← Int.natCast_mul, Int.emod_eq_of_lt (by omega) (by omega)]
  have ha2 : a < 256 ^ k := by have := ha.2; rw [int_pow256] at this; omega
  have ha3 : a < 18446744073709551616 := by
    have h : (256 : Nat) ^ k ≤ 256 ^ 8 := Nat.pow_le_pow_right (by omega) (by omega)
    omega
  rw [e1, u64_or_nat a _ ha3 (by omega), nat_or_step a x k ha2, int_pow256]
  simp
end Go.Proofs.YtpbnjobjjnhplaaDoor.Oct

namespace Go.Proofs.YtpbnjobjjnhplaaDoor.Oct
open Go.RowKit

/-- The bytes l lie from the address on. -/
def Lies (w : World) (a : Option Addr) (l : List Int) : Prop :=
  l = [] ∨ ∃ b off, a = some ⟨b, off, none⟩ ∧ b < w.heap.size ∧ ∀ k, k < l.length → w.cell? ⟨b, off + k, none⟩ = some (.int .u8 (l.getD k 0))

/-- A row of bytes of the call's own, in a block from B on. -/
def Own (w : World) (B : Nat) (v : Value) (l : List Int) : Prop := w.ownsRow B 5 1 v l.length (l.map (Value.int .u8))

theorem Lies.nil (w : World) (a : Option Addr) : Lies w a [] := Or.inl rfl

theorem lt_of_cell {w : World} {b o : Nat} {v : Value} (h : w.cell? ⟨b, o, none⟩ = some v) : b < w.heap.size := by
  cases Nat.lt_or_ge b w.heap.size with
  | inl h => exact h
  | inr hb => simp [World.cell?, Array.getElem?_eq_none hb] at h

theorem Lies.mk {w : World} {b off : Nat} {l : List Int} (h : ∀ k, k < l.length → w.cell? ⟨b, off + k, none⟩ = some (.int .u8 (l.getD k 0))) : Lies w (some ⟨b, off, none⟩) l := by
  by_cases hl : l = []
  · exact Or.inl hl
  · exact Or.inr ⟨b, off, rfl, lt_of_cell (h 0 (List.length_pos_iff.2 hl)), h⟩

theorem Lies.below {w w' : World} {a : Option Addr} {l : List Int} (h : Lies w a l) (hb : Below w.heap.size w w') : Lies w' a l := by
  rcases h with rfl | ⟨b, off, rfl, hlt, hc⟩
  · exact Or.inl rfl
  · exact Or.inr ⟨b, off, rfl, Nat.lt_of_lt_of_le hlt hb.size, fun k hk => (hb.cell (p := ⟨b, off + k, none⟩) hlt).trans (hc k hk)⟩

theorem Lies.alloc {w : World} {a : Option Addr} {l : List Int} (h : Lies w a l) (o : Obj) : Lies (w.alloc o) a l :=
  h.below ((Below.refl _ _).alloc (Nat.le_refl _) _)

theorem Lies.grown {w w' : World} {a : Option Addr} {l : List Int} {row : Option Nat} (h : Lies w a l) (hg : w.grownBy w' row) (hne : ∀ x, a = some x → some x.block ≠ row) : Lies w' a l := by
  rcases h with rfl | ⟨b, off, rfl, hlt, hc⟩
  · exact Or.inl rfl
  · refine Or.inr ⟨b, off, rfl, Nat.lt_of_lt_of_le hlt hg.size, fun k hk => ?_⟩
    exact hg.cell (hc k hk) (by simpa using hne _ rfl)

theorem Own.nil (w : World) (B : Nat) : Own w B (.slice none 0 0) [] := World.ownsRow_nil _ _ _ _

theorem Own.below {w w' : World} {B : Nat} {v : Value} {l : List Int} (h : Own w B v l) (hb : Below w.heap.size w w') : Own w' B v l :=
  World.ownsRow.kept (row := none) h ⟨hb.os, hb.tape, hb.output, hb.size, fun k hk _ => hb.block k hk⟩ (by cases v.ownBlock <;> simp)

theorem Own.alloc {w : World} {B : Nat} {v : Value} {l : List Int} (h : Own w B v l) (o : Obj) : Own (w.alloc o) B v l :=
  h.below ((Below.refl _ _).alloc (Nat.le_refl _) _)

theorem Own.mono {w : World} {B B' : Nat} {v : Value} {l : List Int} (h : Own w B v l) (hb : B' ≤ B) : Own w B' v l := by
  refine ⟨h.1, ?_⟩
  rcases h.2 with h1 | ⟨g, cap, cur, h1, hg, hr⟩
  · exact Or.inl h1
  · exact Or.inr ⟨g, cap, cur, h1, Nat.le_trans hb hg, hr⟩

theorem Own.lies {w : World} {B g cap : Nat} {l : List Int} (h : Own w B (.slice (some ⟨g, 0, none⟩) l.length cap) l) :
    ∀ k, k < l.length → w.cell? ⟨g, 0 + k, none⟩ = some (.int .u8 (l.getD k 0)) := by
  intro k hk
  rw [Nat.zero_add]
  have := World.ownsRow.cellAt h k (by omega)
  rw [this]
  simp [hk]

/-- What an own row is: a slice of so many bytes, which lie there; unless it is empty, at the head of a block from B on. -/
theorem Own.form {w : World} {B : Nat} {v : Value} {l : List Int} (h : Own w B v l) :
    ∃ a cap, v = .slice a l.length cap ∧ Lies w a l ∧ l.length ≤ maxLen ∧ l.length ≤ cap ∧ cap ≤ maxLen ∧ (l ≠ [] → ∃ g, a = some ⟨g, 0, none⟩ ∧ B ≤ g ∧ g < w.heap.size) := by
  have h0 := h
  rcases h.2 with ⟨rfl, hn⟩ | ⟨g, cap, cur, rfl, hg, hh, hn, hcap, _, _⟩
  · have : l = [] := List.length_eq_zero_iff.1 hn
    subst this
    exact ⟨none, 0, rfl, Or.inl rfl, by simp, by simp, by simp, fun h => absurd rfl h⟩
  · exact ⟨_, cap, rfl, Lies.mk h0.lies, by omega, hn, hcap, fun _ => ⟨g, rfl, hg, (Array.getElem?_eq_some_iff.1 hh).1⟩⟩

theorem map_set (l : List Int) (j : Nat) (x : Int) : (l.map (Value.int .u8)).set j (.int .u8 x) = (l.set j x).map (Value.int .u8) := by
  rw [List.map_set]

theorem Own.stored {w : World} {B g cap : Nat} {l : List Int} (h : Own w B (.slice (some ⟨g, 0, none⟩) l.length cap) l) (j : Nat) (x : Int) :
    Own (w.setCell ⟨g, j, none⟩ (.int .u8 x)) B (.slice (some ⟨g, 0, none⟩) (l.set j x).length cap) (l.set j x) ∧ w.grownBy (w.setCell ⟨g, j, none⟩ (.int .u8 x)) (some g) := by
  have := World.ownsRow.stored h j (.int .u8 x)
  rw [map_set] at this
  refine ⟨?_, this.2⟩
  unfold Own
  rw [List.length_set]
  exact this.1

/-- Bytes as a text. -/
def ba (l : List Int) : ByteArray := l.foldl (fun r n => r.push (UInt8.ofNat n.toNat)) ByteArray.empty

theorem ba_list : ∀ (l : List Int) (s : ByteArray), (l.foldl (fun r n => r.push (UInt8.ofNat n.toNat)) s).data.toList = s.data.toList ++ l.map (fun n => UInt8.ofNat n.toNat)
  | [], s => by simp
  | x :: r, s => by
    rw [List.foldl_cons, ba_list r]
    simp [ByteArray.push]

theorem ba_inj {l l' : List Int} (hb : Byts l) (hb' : Byts l') (h : ba l = ba l') : l = l' := by
  have e : l.map (fun n => UInt8.ofNat n.toNat) = l'.map (fun n => UInt8.ofNat n.toNat) := by
    have h1 := ba_list l ByteArray.empty
    have h2 := ba_list l' ByteArray.empty
    unfold ba at h
    rw [h] at h1
    simpa using h1.symm.trans h2
  have hl : l.length = l'.length := by simpa using congrArg List.length e
  apply List.ext_getElem hl
  intro k h1 h2
  have ek : (l.map (fun n => UInt8.ofNat n.toNat))[k]'(by simpa using h1) = (l'.map (fun n => UInt8.ofNat n.toNat))[k]'(by simpa using h2) := by simp only [e]
  simp only [List.getElem_map] at ek
  have b1 := hb k
  have b2 := hb' k
  rw [List.getD_eq_getElem?_getD, List.getElem?_eq_getElem h1] at b1
  rw [List.getD_eq_getElem?_getD, List.getElem?_eq_getElem h2] at b2
  simp only [Option.getD_some] at b1 b2
  have e3 := congrArg UInt8.toNat ek
  simp only [UInt8.toNat_ofNat'] at e3
  omega

theorem beq_text {l l' : List Int} (hb : Byts l) (hb' : Byts l') : ((ba l).toList == (ba l').toList) = decide (l = l') := by
  rw [ByteArray.toList_eq, ByteArray.toList_eq]
  by_cases h : l = l'
  · subst h; simp
  · have : ¬ (ba l).data.toList = (ba l').data.toList := fun e => h (ba_inj hb hb' (by
      cases h1 : ba l; cases h2 : ba l'
      rw [h1, h2] at e
      simp at e
      rw [e]))
    rw [decide_eq_false h]
    exact beq_eq_false_iff_ne.2 this

theorem run_text {P : Program} {src dst : TypeId} (hs : P.underlying src = some (.slice 5)) (he : P.underlying 5 = some (.int .u8)) (hd : P.underlying dst = some .string)
    (w : World) (a : Option Addr) (l : List Int) (cap : Nat) (h : Lies w a l) : (convert src dst (.slice a l.length cap)).run P w = .ok (.string (ba l)) w := by
  rw [run_convert_bytes_string w src dst 5 a l.length cap hs he hd]
  have hnil : ∀ x : Addr, (loadCells x 0).run P w = .ok #[] w := fun x => by simpa using run_loadCells_list (P := P) w x [] (by simp)
  rcases h with rfl | ⟨b, off, rfl, _, hc⟩
  · cases a with
    | none => simp [Conv.bytesToString, ba, Sem.run_pure]
    | some x => exact run_bytesToString w x 0 cap [] (by simpa using hnil x)
  · refine run_bytesToString w _ _ cap l ?_
    have := run_loadCells_list (P := P) w ⟨b, off, none⟩ (l.map (Value.int .u8)) (fun j v hj => by
      have hjl : j < l.length := by
        rcases Nat.lt_or_ge j l.length with h | h
        · exact h
        · simp [List.getElem?_eq_none h] at hj
      have e := hc j hjl
      simp [List.getElem?_eq_getElem hjl] at hj
      rw [Go.WideShapes.add_plain, e, ← hj]
      simp [hjl])
    simpa using this
theorem Byts.append {l l' : List Int} (h : Byts l) (h' : Byts l') : Byts (l ++ l') := by
  intro k
  rw [List.getD_eq_getElem?_getD, List.getElem?_append]
  split
  · have := h k; rwa [List.getD_eq_getElem?_getD] at this
  · have := h' (k - l.length); rwa [List.getD_eq_getElem?_getD] at this

theorem Byts.zeros (n : Nat) : Byts (List.replicate n 0) := by
  intro k
  rw [List.getD_eq_getElem?_getD, List.getElem?_replicate]
  split <;> simp

/-- A new row that was made. -/
theorem Own.made (w : World) (n : Nat) (hn : n ≤ maxLen) :
    Own (w.alloc (.cells (madeCells #[.int .u8 0] n) 5)) w.heap.size (.slice (some ⟨w.heap.size, 0, none⟩) n n) (List.replicate n 0) := by
  have h := World.ownsRow_lit (base := w.heap.size) (e := 5) (size := 1) w (madeCells #[.int .u8 0] n) n (Nat.le_refl _) hn (by rw [size_madeCells]; omega)
  unfold Own
  rw [toList_madeCells_one] at h
  simpa using h

/-- Bytes laid over others from a place on. -/
def over (m : List Int) (o : Nat) (l : List Int) : List Int := m.take o ++ (l ++ m.drop (o + l.length))

theorem over_length {m : List Int} {o : Nat} {l : List Int} (h : o + l.length ≤ m.length) : (over m o l).length = m.length := by simp [over]; omega

theorem Byts.take {l : List Int} (h : Byts l) (n : Nat) : Byts (l.take n) := by
  intro k
  rw [List.getD_eq_getElem?_getD, List.getElem?_take]
  split
  · have := h k; rwa [List.getD_eq_getElem?_getD] at this
  · simp

theorem Byts.drop {l : List Int} (h : Byts l) (n : Nat) : Byts (l.drop n) := by
  intro k
  rw [List.getD_eq_getElem?_getD, List.getElem?_drop]
  have := h (n + k); rwa [List.getD_eq_getElem?_getD] at this

theorem Byts.over {m l : List Int} (h : Byts m) (h' : Byts l) (o : Nat) : Byts (over m o l) := (h.take _).append (h'.append (h.drop _))

/-- A copy of bytes into an own row, from a place on, where there is room. -/
theorem run_copy_part {P : Program} {dT sT ty : TypeId} (hu : P.underlying dT = some (.slice 5)) (hs : (P.info? 5).map (·.size) = some 1)
    (w : World) (B g o n cap dLen dCap sLen cap' : Nat) (dp a : Option Addr) (l m : List Int) (hm : Own w B (.slice (some ⟨g, 0, none⟩) n cap) m) (hnm : n = m.length) (hl : Lies w a l)
    (hdp : l ≠ [] → dp = some ⟨g, o, none⟩) (hdl : l.length = Nat.min sLen dLen) (hle : o + l.length ≤ m.length) :
    ∃ w', (Builtin.copy_ #[dT, sT] ty #[.slice dp dLen dCap, .slice a sLen cap']).run P w = .ok (goInt l.length) w' ∧
      Own w' B (.slice (some ⟨g, 0, none⟩) n cap) (over m o l) ∧ w.grownBy w' (some g) := by
  subst hnm
  rcases hl with rfl | ⟨b, off, rfl, _, hc⟩
  · refine ⟨w, ?_, ?_, World.grownBy.refl _ _⟩
    · exact run_copy_none w dT sT ty 5 _ a _ dCap _ cap' hu hs hdl.symm
    · simpa [over] using hm
  · by_cases hl0 : l = []
    · subst hl0
      refine ⟨w, ?_, ?_, World.grownBy.refl _ _⟩
      · exact run_copy_none w dT sT ty 5 _ _ _ dCap _ cap' hu hs hdl.symm
      · simpa [over] using hm
    have h0 := hm
    rcases hm.2 with ⟨h', _⟩ | ⟨g', cap2, cur, h', hB, hg, hnc, hcm, hcs, htake⟩
    · simp at h'
    simp only [Value.slice.injEq, Option.some.injEq, Addr.mk.injEq, and_true, true_and] at h'
    obtain ⟨rfl, rfl⟩ := h'
    have hfit : o + (l.map (Value.int .u8)).length ≤ cur.size := by simp; omega
    have hrun := run_copy_row (P := P) w dT sT ty 5 g o dLen dCap ⟨b, off, none⟩ sLen cap' cur 5 (l.map (Value.int .u8)) hu hs hg
      (by rw [List.length_map]; exact hdl) (fun j v hj => by
        have hjl : j < l.length := by
          rcases Nat.lt_or_ge j l.length with h | h
          · exact h
          · simp [List.getElem?_eq_none h] at hj
        have e := hc j hjl
        simp [List.getElem?_eq_getElem hjl] at hj
        rw [Go.WideShapes.add_plain, e, ← hj]
        simp [hjl]) hfit (by simp; intro x _; rfl)
    rw [hdp hl0, hrun, List.length_map]
    refine ⟨_, rfl, ?_, ⟨rfl, rfl, rfl, by simp [World.setRow], fun k _ hk => setRow_other w g k _ (fun e => hk (by rw [e]))⟩⟩
    unfold Own
    rw [over_length hle]
    refine ⟨by rw [List.length_map, over_length hle]; omega, Or.inr ⟨g, cap, _, rfl, hB, setRow_heap w g cur _ 5 (0, 0) hg, hnc, hcm, by simp; omega, ?_⟩⟩
    have hm2 : m.map (Value.int .u8) = cur.toList.take m.length := by simpa using htake.symm
    have hm3 : (m.map (Value.int .u8)).take o = cur.toList.take o := by rw [hm2, List.take_take, Nat.min_eq_left (by omega)]
    have hm4 : (m.map (Value.int .u8)).drop (o + l.length) = (cur.toList.drop (o + l.length)).take (m.length - (o + l.length)) := by rw [hm2, List.drop_take]
    have e5 : (over m o l).map (Value.int .u8) = cur.toList.take o ++ l.map (Value.int .u8) ++ (cur.toList.drop (o + l.length)).take (m.length - (o + l.length)) := by
      rw [← hm3, ← hm4]
      simp [over]
    rw [e5]
    have e6 : (cur.toList.take o ++ l.map (Value.int .u8)).length = o + l.length := by simp; omega
    rw [List.take_append, e6, List.take_of_length_le (by rw [e6]; omega)]
    simp
/-- All of them. -/
theorem run_copy_lies {P : Program} {dT sT ty : TypeId} (hu : P.underlying dT = some (.slice 5)) (hs : (P.info? 5).map (·.size) = some 1)
    (w : World) (B g o n cap dLen dCap cap' : Nat) (dp a : Option Addr) (l m : List Int) (hm : Own w B (.slice (some ⟨g, 0, none⟩) n cap) m) (hnm : n = m.length) (hl : Lies w a l)
    (hdp : l ≠ [] → dp = some ⟨g, o, none⟩) (hdl : l.length ≤ dLen) (hle : o + l.length ≤ m.length) :
    ∃ w', (Builtin.copy_ #[dT, sT] ty #[.slice dp dLen dCap, .slice a l.length cap']).run P w = .ok (goInt l.length) w' ∧
      Own w' B (.slice (some ⟨g, 0, none⟩) n cap) (over m o l) ∧ w.grownBy w' (some g) :=
  run_copy_part hu hs w B g o n cap dLen dCap l.length cap' dp a l m hm hnm hl hdp (Nat.min_eq_left hdl).symm hle

/-- The same, as a law for the walk. -/
theorem wpList_copy_bytes {P : Program} {w : World} {ops : Array Oper} {rest : List Oper} {o : Oper} {a : Act} {Q : Exit → Act → World → Prop} (hgd : o.guard = none) (d s : Operand) (dT sT : TypeId)
    (ho : o.op = .call { callee := .builtin .copy, args := #[d, s], argTypes := #[dT, sT] }) (hu : P.underlying dT = some (.slice 5)) (hsz : (P.info? 5).map (·.size) = some 1)
    (dp sp : Option Addr) (dLen dCap sLen sCap : Nat) (hd : a.eval d = .slice dp dLen dCap) (hs : a.eval s = .slice sp sLen sCap)
    (B g off n cap : Nat) (l m : List Int) (hm : Own w B (.slice (some ⟨g, 0, none⟩) n cap) m) (hnm : n = m.length) (hl : Lies w sp l)
    (hdp : l ≠ [] → dp = some ⟨g, off, none⟩) (hdl : l.length = Nat.min sLen dLen) (hle : off + l.length ≤ m.length)
    (h : ∀ w', Own w' B (.slice (some ⟨g, 0, none⟩) n cap) (over m off l) → w.grownBy w' (some g) → wpList P ops Q rest (a.put o.dst (goInt l.length)) w') : wpList P ops Q (o :: rest) a w := by
  obtain ⟨w', hrun, ho', hg⟩ := run_copy_part (ty := o.type) (sT := sT) hu hsz w B g off n cap dLen dCap sLen sCap dp sp l m hm hnm hl hdp hdl hle
  refine wpList_plain hgd fun K hK => ?_
  unfold Oper.wp
  simp [execOp, ho, resolve, invoke, builtin, hd, hs, hrun, Result.andThen]
  exact hK _ _ (h w' ho' hg)

/-- A slice as Go has it: no more bytes than room; none without a place. -/
structure Sl (w : World) (a : Option Addr) (cap : Nat) (l : List Int) : Prop where
  le : l.length ≤ cap
  max : cap ≤ maxLen
  none : a = none → cap = 0
  lies : Lies w a l

theorem Sl.below {w w' : World} {a : Option Addr} {cap : Nat} {l : List Int} (h : Sl w a cap l) (hb : Below w.heap.size w w') : Sl w' a cap l := ⟨h.le, h.max, h.none, h.lies.below hb⟩

theorem Lies.of_part {w : World} {b off : Nat} {l : List Int} (h : Lies w (some ⟨b, off, none⟩) l) (n m : Nat) : Lies w (some ⟨b, off + n, none⟩) ((l.drop n).take m) := by
  rcases h with rfl | ⟨b', off', e, _, hc⟩
  · left; simp
  · cases e
    refine Lies.mk fun k hk => ?_
    simp at hk
    rw [Nat.add_assoc, hc (n + k) (by omega)]
    have h1 : k < m := by omega
    simp [List.getElem?_drop, h1]

/-- An own row as a slice. -/
theorem Own.sl {w : World} {B : Nat} {v : Value} {l : List Int} (h : Own w B v l) :
    ∃ a cap, v = .slice a l.length cap ∧ Sl w a cap l ∧ (l ≠ [] → ∃ g, a = some ⟨g, 0, .none⟩ ∧ B ≤ g ∧ g < w.heap.size) := by
  have h0 := h
  rcases h.2 with ⟨rfl, hn⟩ | ⟨g, cap, cur, rfl, hg, hh, hn, hcap, _, _⟩
  · have : l = [] := List.length_eq_zero_iff.1 hn
    subst this
    exact ⟨.none, 0, rfl, ⟨by simp, by simp, fun _ => rfl, Or.inl rfl⟩, fun h => absurd rfl h⟩
  · exact ⟨_, cap, rfl, ⟨hn, hcap, fun h => by simp at h, Lies.mk h0.lies⟩, fun _ => ⟨g, rfl, hg, (Array.getElem?_eq_some_iff.1 hh).1⟩⟩
end Go.Proofs.YtpbnjobjjnhplaaDoor.Oct
