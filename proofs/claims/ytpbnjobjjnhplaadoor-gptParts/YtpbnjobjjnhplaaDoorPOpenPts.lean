/- Lists of lists of bytes that came in: how they lie, and how they are read. -/
import Derived.Test.YtpbnjobjjnhplaaDoorPNumMem
import Derived.Test.YtpbnjobjjnhplaaDoorChecked
import Derived.ProofKit
import Derived.OpenShut
import Derived.Carry
import Derived.Deep.Matrix
namespace Go.Proofs.YtpbnjobjjnhplaaDoor.Oct
open Go.RowKit Go.ChangeShapes Go.WideShapes Go.ChangeAt

theorem own : ownKnob Tryd.prog.godebug = none := by kernel_rfl
theorem laidOut : laidOutB Tryd.prog = true := by kernel_rfl
theorem cells5 : Tryd.prog.cellsOf 5 = 1 := by kernel_rfl

theorem wf_u8 {n : Int} (h : (Lit.int .u8 n).wf = true) : 0 ≤ n ∧ n < 256 := by
  have : 0 ≤ n ∧ n ≤ 255 := by simpa [Lit.wf, IntKind.min, IntKind.max, IntKind.signed, IntKind.bits] using h
  omega

theorem wf_i64 {n : Int} (h : (Lit.int .i64 n).wf = true) : -9223372036854775808 ≤ n ∧ n ≤ 9223372036854775807 := by
  simpa [Lit.wf, IntKind.min, IntKind.max, IntKind.signed, IntKind.bits] using h

theorem wf_u64 {n : Int} (h : (Lit.int .u64 n).wf = true) : 0 ≤ n ∧ n < 18446744073709551616 := by
  have : 0 ≤ n ∧ n ≤ 18446744073709551615 := by simpa [Lit.wf, IntKind.min, IntKind.max, IntKind.signed, IntKind.bits] using h
  omega

theorem wf_u32 {n : Int} (h : (Lit.int .u32 n).wf = true) : 0 ≤ n ∧ n < 4294967296 := by
  have : 0 ≤ n ∧ n ≤ 4294967295 := by simpa [Lit.wf, IntKind.min, IntKind.max, IntKind.signed, IntKind.bits] using h
  omega

theorem byts_of {l : List Int} (h : ∀ n ∈ l, (Lit.int .u8 n).wf = true) : Byts l := by
  intro k
  rw [List.getD_eq_getElem?_getD]
  rcases Nat.lt_or_ge k l.length with hk | hk
  · rw [List.getElem?_eq_getElem hk]
    exact wf_u8 (h _ (List.getElem_mem hk))
  · rw [List.getElem?_eq_none hk]
    simp

theorem open_bytes_trod {H : Type} {enc : TypeId × Value → H} {W : World} {fuel : Nat} {v : Value} {x : DataW H × List MemPlace}
    (hf : DataW.trod enc Tryd.prog W 0 (fun _ => true) true fuel 31 [v] = some x) :
    ∃ a cap l, v = .slice a l.length cap ∧ l.length ≤ maxLen ∧ Byts l ∧ Lies W a l ∧ Sl W a cap l := by
  rcases open_ints Tryd.underlying31 Tryd.underlying5 cells5 hf with ⟨hcs, _⟩ | ⟨a, len, cap, zs, hcs, _, hl, hm, hz, _, hcell, hwz⟩
  · simp at hcs
    subst hcs
    exact ⟨none, 0, [], rfl, by simp, byts_of (by simp), Or.inl rfl, ⟨by simp, by simp, fun _ => rfl, Or.inl rfl⟩⟩
  · simp at hcs
    subst hcs
    simp only [if_true] at hz
    have el : (zs.take len).length = len := by simp; omega
    have hL : Lies W (some a) (zs.take len) := by
      by_cases h0 : len = 0
      · left; subst h0; simp
      · obtain ⟨b, off, rfl, hc⟩ := ints_at hcell (by omega)
        refine Lies.mk fun k hk => ?_
        rw [el] at hk
        rw [hc k (by omega)]
        simp [hk]
    exact ⟨some a, cap, zs.take len, by rw [el], by omega, byts_of (fun n hn => hwz n (List.mem_of_mem_take hn)), hL, ⟨by omega, hm, fun h => (by cases h), hL⟩⟩

set_option maxRecDepth 100000 in
/-- A list of bytes that came in. -/
theorem open_bytes {H : Type} {enc : TypeId × Value → H} {W : World} {base : Nat} {v : Value} {d : DataW H} {ps : List MemPlace}
    (hok : Value.okWide Tryd.prog W .any base 31 v) (h : DataW.Trod enc Tryd.prog W 0 (fun _ => true) true 31 v d ps) :
    ∃ a cap l, v = .slice a l.length cap ∧ l.length ≤ maxLen ∧ Byts l ∧ Lies W a l ∧ Sl W a cap l := by
  obtain ⟨a0, len, cap, rfl⟩ := okWide_slice Tryd.underlying31 hok
  obtain ⟨fuel, hf⟩ := h
  exact open_bytes_trod (by simpa [Value.cells] using hf)

theorem open_int_trod {H : Type} {enc : TypeId × Value → H} {W : World} {fuel : Nat} {t : TypeId} {k : IntKind} {v : Value} {x : DataW H × List MemPlace} (ht : Tryd.prog.underlying t = some (.int k))
    (hf : DataW.trod enc Tryd.prog W 0 (fun _ => true) true fuel t [v] = some x) : ∃ n, v = .int k n ∧ (Lit.int k n).wf = true := by
  obtain ⟨n, h, _, hw⟩ := DataW.trod_int ht hf
  simp at h
  exact ⟨n, h, hw⟩
end Go.Proofs.YtpbnjobjjnhplaaDoor.Oct

namespace Go.Proofs.YtpbnjobjjnhplaaDoor.Oct
open Go.RowKit Go.ChangeShapes Go.WideShapes Go.ChangeAt

/-- Lists of bytes, one behind the other, from the address on. -/
def Pts (w : World) (a : Option Addr) (Ls : List (List Int)) : Prop :=
  Ls = [] ∨ ∃ b off, a = some ⟨b, off, none⟩ ∧ b < w.heap.size ∧ ∀ r, r < Ls.length → ∃ ar cr, w.cell? ⟨b, off + r, none⟩ = some (.slice ar (Ls.getD r []).length cr) ∧ Sl w ar cr (Ls.getD r [])

theorem Pts.below {w w' : World} {a : Option Addr} {Ls : List (List Int)} (h : Pts w a Ls) (hb : Below w.heap.size w w') : Pts w' a Ls := by
  rcases h with rfl | ⟨b, off, rfl, hlt, hc⟩
  · exact Or.inl rfl
  · refine Or.inr ⟨b, off, rfl, Nat.lt_of_lt_of_le hlt hb.size, fun r hr => ?_⟩
    obtain ⟨ar, cr, h1, h2⟩ := hc r hr
    exact ⟨ar, cr, (hb.cell (p := ⟨b, off + r, none⟩) hlt).trans h1, h2.below hb⟩

/-- All are bytes. -/
def Bytss (Ls : List (List Int)) : Prop := ∀ r, Byts (Ls.getD r [])

theorem cells22 : Tryd.prog.cellsOf 31 = 1 := by kernel_rfl

theorem open_parts_trod {H : Type} {enc : TypeId × Value → H} {W : World} {fuel : Nat} {v : Value} {x : DataW H × List MemPlace}
    (hf : DataW.trod enc Tryd.prog W 0 (fun _ => true) true fuel 137 [v] = some x) :
    ∃ a cap Ls, v = .slice a Ls.length cap ∧ Ls.length ≤ maxLen ∧ Bytss Ls ∧ Pts W a Ls := by
  rcases Go.Deep.open_int_rows Tryd.underlying137 Tryd.underlying31 Tryd.underlying5 cells22 cells5 hf with ⟨hcs, _⟩ | ⟨a, len, cap, A, L, C, Z, hcs, _, hl, hm, _, hrow⟩
  · simp at hcs
    subst hcs
    exact ⟨none, 0, [], rfl, by simp, fun r => by simpa using byts_of (by simp), Or.inl rfl⟩
  · simp at hcs
    subst hcs
    obtain ⟨Ls, hLs⟩ : ∃ Ls, Ls = (List.range len).map fun r => (Z r).take (L r) := ⟨_, rfl⟩
    have hlen : Ls.length = len := by rw [hLs]; simp
    have hget : ∀ r, r < len → Ls.getD r [] = (Z r).take (L r) := fun r hr => by rw [hLs]; simp [hr]
    refine ⟨some a, cap, Ls, by rw [hlen], by omega, fun r => ?_, ?_⟩
    · rcases Nat.lt_or_ge r len with hr | hr
      · rw [hget r hr]
        exact byts_of (fun n hn => (hrow r (by omega)).2.2.2.2.1 n (List.mem_of_mem_take hn))
      · have : Ls.getD r [] = [] := by rw [List.getD_eq_getElem?_getD, List.getElem?_eq_none (by omega)]; rfl
        rw [this]
        exact byts_of (by simp)
    · by_cases h0 : len = 0
      · left; exact List.length_eq_zero_iff.1 (by omega)
      · obtain ⟨b, off, spot⟩ := a
        have hspot : spot = none := by simpa [Addr.add] using World.cell?_spot (hrow 0 (by omega)).1
        subst hspot
        refine Or.inr ⟨b, off, rfl, ?_, fun r hr => ?_⟩
        · have h1 := (hrow 0 (by omega)).1
          rw [Go.WideShapes.add_plain] at h1
          exact lt_of_cell h1
        · rw [hlen] at hr
          obtain ⟨h1, h2, h3, h4, h5, h6, h7⟩ := hrow r (by omega)
          rw [Go.WideShapes.add_plain] at h1
          have el : ((Z r).take (L r)).length = L r := by simp; omega
          refine ⟨A r, C r, by rw [hget r hr, el]; exact h1, ?_⟩
          rw [hget r hr]
          refine ⟨by omega, h3, h6, ?_⟩
          cases ha : A r with
          | none => left; have := h6 ha; exact List.length_eq_zero_iff.1 (by omega)
          | some a' =>
            by_cases hz : L r = 0
            · left; exact List.length_eq_zero_iff.1 (by omega)
            · obtain ⟨_, hc⟩ := h7 a' ha
              obtain ⟨b', off', rfl, hc'⟩ := ints_at (zs := Z r) (fun i hi => hc i (by omega)) (by omega)
              refine Lies.mk fun k hk => ?_
              rw [el] at hk
              rw [hc' k (by omega)]
              simp [hk]

set_option maxRecDepth 100000 in
theorem open_parts {H : Type} {enc : TypeId × Value → H} {W : World} {base : Nat} {v : Value} {d : DataW H} {ps : List MemPlace}
    (hok : Value.okWide Tryd.prog W .any base 137 v) (h : DataW.Trod enc Tryd.prog W 0 (fun _ => true) true 137 v d ps) :
    ∃ a cap Ls, v = .slice a Ls.length cap ∧ Ls.length ≤ maxLen ∧ Bytss Ls ∧ Pts W a Ls := by
  obtain ⟨a0, len, cap, rfl⟩ := okWide_slice Tryd.underlying137 hok
  obtain ⟨fuel, hf⟩ := h
  exact open_parts_trod (by simpa [Value.cells] using hf)

theorem flat_step (Ls : List (List Int)) (k : Nat) (hk : k < Ls.length) : (Ls.take (k + 1)).flatten = (Ls.take k).flatten ++ Ls.getD k [] := by
  rw [List.take_succ_eq_append_getElem hk, List.flatten_append]
  simp [hk]

theorem flat_le (Ls : List (List Int)) (k : Nat) : (Ls.take k).flatten.length ≤ Ls.flatten.length := by
  have h : (Ls.take k).flatten.length + (Ls.drop k).flatten.length = Ls.flatten.length := by
    rw [← List.length_append, ← List.flatten_append, List.take_append_drop]
  omega

theorem flat_all (Ls : List (List Int)) : Ls.take Ls.length = Ls := List.take_of_length_le (Nat.le_refl _)

theorem flat_bound (Ls : List (List Int)) (m : Nat) : ∀ k, k ≤ Ls.length → (∀ r, r < k → (Ls.getD r []).length ≤ m) → (Ls.take k).flatten.length ≤ m * k
  | 0, _, _ => by simp
  | k + 1, hk, h => by
    rw [flat_step Ls k (by omega), List.length_append]
    have h1 := flat_bound Ls m k (by omega) (fun r hr => h r (by omega))
    have h2 := h k (by omega)
    rw [Nat.mul_succ]
    omega

theorem Byts.flat {Ls : List (List Int)} (h : Bytss Ls) : ∀ k, k ≤ Ls.length → Byts (Ls.take k).flatten
  | 0, _ => by intro j; simp
  | k + 1, hk => by
    rw [flat_step Ls k (by omega)]
    exact (Byts.flat h k (by omega)).append (h k)

end Go.Proofs.YtpbnjobjjnhplaaDoor.Oct
