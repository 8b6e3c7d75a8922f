/- How the arguments of a statement are read: a list of bytes that came in. -/
import Derived.Test.YtjmajjfknmjifaaDoorPNumMem
import Derived.Test.YtjmajjfknmjifaaDoorChecked
import Derived.ProofKit
import Derived.OpenShut
import Derived.Carry
namespace Go.Proofs.YtjmajjfknmjifaaDoor.Oct
open Go.RowKit Go.ChangeShapes Go.WideShapes Go.ChangeAt

theorem own : ownKnob Tryd.prog.godebug = none := by kernel_rfl
theorem laidOut : laidOutB Tryd.prog = true := by kernel_rfl
theorem cells5 : Tryd.prog.cellsOf 5 = 1 := by kernel_rfl

theorem wf_u8 {n : Int} (h : (Lit.int .u8 n).wf = true) : 0 ≤ n ∧ n < 256 := by
  have : 0 ≤ n ∧ n ≤ 255 := by simpa [Lit.wf, IntKind.min, IntKind.max, IntKind.signed, IntKind.bits] using h
  omega

theorem wf_i64 {n : Int} (h : (Lit.int .i64 n).wf = true) : -9223372036854775808 ≤ n ∧ n ≤ 9223372036854775807 := by
  simpa [Lit.wf, IntKind.min, IntKind.max, IntKind.signed, IntKind.bits] using h

theorem wf_u64 {n : Int} (h : (Lit.int .u64 n).wf = true) : 0 ≤ n ∧ n < 18446744073709551616 := by
  have : 0 ≤ n ∧ n ≤ 18446744073709551615 := by simpa [Lit.wf, IntKind.min, IntKind.max, IntKind.signed, IntKind.bits] using h
  omega

theorem wf_u32 {n : Int} (h : (Lit.int .u32 n).wf = true) : 0 ≤ n ∧ n < 4294967296 := by
  have : 0 ≤ n ∧ n ≤ 4294967295 := by simpa [Lit.wf, IntKind.min, IntKind.max, IntKind.signed, IntKind.bits] using h
  omega

theorem byts_of {l : List Int} (h : ∀ n ∈ l, (Lit.int .u8 n).wf = true) : Byts l := by
  intro k
  rw [List.getD_eq_getElem?_getD]
  rcases Nat.lt_or_ge k l.length with hk | hk
  · rw [List.getElem?_eq_getElem hk]
    exact wf_u8 (h _ (List.getElem_mem hk))
  · rw [List.getElem?_eq_none hk]
    simp

theorem open_bytes_trod {H : Type} {enc : TypeId × Value → H} {W : World} {fuel : Nat} {v : Value} {x : DataW H × List MemPlace}
    (hf : DataW.trod enc Tryd.prog W 0 (fun _ => true) true fuel 24 [v] = some x) :
    ∃ a cap l, v = .slice a l.length cap ∧ l.length ≤ maxLen ∧ Byts l ∧ Lies W a l ∧ Sl W a cap l := by
  rcases open_ints Tryd.underlying24 Tryd.underlying5 cells5 hf with ⟨hcs, _⟩ | ⟨a, len, cap, zs, hcs, _, hl, hm, hz, _, hcell, hwz⟩
  · simp at hcs
    subst hcs
    exact ⟨none, 0, [], rfl, by simp, byts_of (by simp), Or.inl rfl, ⟨by simp, by simp, fun _ => rfl, Or.inl rfl⟩⟩
  · simp at hcs
    subst hcs
    simp only [if_true] at hz
    have el : (zs.take len).length = len := by simp; omega
    have hL : Lies W (some a) (zs.take len) := by
      by_cases h0 : len = 0
      · left; subst h0; simp
      · obtain ⟨b, off, rfl, hc⟩ := ints_at hcell (by omega)
        refine Lies.mk fun k hk => ?_
        rw [el] at hk
        rw [hc k (by omega)]
        simp [hk]
    exact ⟨some a, cap, zs.take len, by rw [el], by omega, byts_of (fun n hn => hwz n (List.mem_of_mem_take hn)), hL, ⟨by omega, hm, fun h => (by cases h), hL⟩⟩

set_option maxRecDepth 100000 in
/-- A list of bytes that came in. -/
theorem open_bytes {H : Type} {enc : TypeId × Value → H} {W : World} {base : Nat} {v : Value} {d : DataW H} {ps : List MemPlace}
    (hok : Value.okWide Tryd.prog W .any base 24 v) (h : DataW.Trod enc Tryd.prog W 0 (fun _ => true) true 24 v d ps) :
    ∃ a cap l, v = .slice a l.length cap ∧ l.length ≤ maxLen ∧ Byts l ∧ Lies W a l ∧ Sl W a cap l := by
  obtain ⟨a0, len, cap, rfl⟩ := okWide_slice Tryd.underlying24 hok
  obtain ⟨fuel, hf⟩ := h
  exact open_bytes_trod (by simpa [Value.cells] using hf)

theorem open_int_trod {H : Type} {enc : TypeId × Value → H} {W : World} {fuel : Nat} {t : TypeId} {k : IntKind} {v : Value} {x : DataW H × List MemPlace} (ht : Tryd.prog.underlying t = some (.int k))
    (hf : DataW.trod enc Tryd.prog W 0 (fun _ => true) true fuel t [v] = some x) : ∃ n, v = .int k n ∧ (Lit.int k n).wf = true := by
  obtain ⟨n, h, _, hw⟩ := DataW.trod_int ht hf
  simp at h
  exact ⟨n, h, hw⟩
end Go.Proofs.YtjmajjfknmjifaaDoor.Oct
