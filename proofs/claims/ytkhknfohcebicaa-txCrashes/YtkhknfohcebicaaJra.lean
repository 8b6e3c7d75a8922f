/- Records in memory; how many bytes they have. -/
import Derived.Test.YtkhknfohcebicaaJpm
import Derived.Test.YtkhknfohcebicaaOnto
namespace Go.Proofs.Ytkhknfohcebicaa.Oct
open Go.RowKit Go.Deep

/-- A record, with the place of its bytes. -/
structure JR where
  at_ : Int
  a : Option Addr
  cap : Nat
  b : List Int

def JR.z : JR := ⟨0, none, 0, []⟩
def JR.dat (r : JR) : RD := (r.at_, r.b)

/-- Records lie from the address on. -/
def LiesJ (w : World) (a : Option Addr) (R : List JR) : Prop :=
  R = [] ∨ ∃ b off, a = some ⟨b, off, none⟩ ∧ b < w.heap.size ∧ ∀ k, k < R.length → w.cell? ⟨b, off + k * 2, none⟩ = some (.int .i64 (R.getD k JR.z).at_) ∧ w.cell? ⟨b, off + k * 2 + 1, none⟩ = some (.slice (R.getD k JR.z).a (R.getD k JR.z).b.length (R.getD k JR.z).cap) ∧ Sl w (R.getD k JR.z).a (R.getD k JR.z).cap (R.getD k JR.z).b

theorem LiesJ.below {w w' : World} {a : Option Addr} {R : List JR} (h : LiesJ w a R) (hb : Below w.heap.size w w') : LiesJ w' a R := by
  rcases h with rfl | ⟨b, off, rfl, hlt, hc⟩
  · exact Or.inl rfl
  · exact Or.inr ⟨b, off, rfl, Nat.lt_of_lt_of_le hlt hb.size, fun k hk => ⟨(hb.cell (p := ⟨b, off + k * 2, none⟩) hlt).trans (hc k hk).1, (hb.cell (p := ⟨b, off + k * 2 + 1, none⟩) hlt).trans (hc k hk).2.1, (hc k hk).2.2.below hb⟩⟩

theorem JR.dats (R : List JR) (k : Nat) : (R.map JR.dat).getD k (JR.dat JR.z) = (R.getD k JR.z).dat := by
  by_cases hk : k < R.length
  · simp [hk]
  · simp [List.getElem?_eq_none (show R.length ≤ k by omega)]

theorem lenJ_step (R : List JR) (k : Nat) (hk : k < R.length) : lenD ((R.map JR.dat).take (k + 1)) = lenD ((R.map JR.dat).take k) + (12 + (R.getD k JR.z).b.length) := by
  rw [lenD_take _ k (by simpa using hk) (JR.dat JR.z), JR.dats]
  rfl

theorem encJ_step (R : List JR) (k : Nat) (hk : k < R.length) : encD ((R.map JR.dat).take (k + 1)) = encD ((R.map JR.dat).take k) ++ encR (R.getD k JR.z).dat := by
  rw [encD_take _ k (by simpa using hk) (JR.dat JR.z), JR.dats]

theorem box2 (w : World) (t : TypeId) (x y : Value) : (w.alloc (.cells #[x, y] t)).cell? ⟨w.heap.size, 0, none⟩ = some x ∧ (w.alloc (.cells #[x, y] t)).cell? ⟨w.heap.size, 1, none⟩ = some y := by
  have h : (w.alloc (.cells #[x, y] t)).heap[w.heap.size]? = some (.cells #[x, y] t) := heap_alloc_new w _
  simp only [World.cell?, h]
  exact ⟨rfl, rfl⟩

set_option maxRecDepth 100000 in
set_option maxHeartbeats 2000000 in
theorem length_any (a : Option Addr) (cap : Nat) (R : List JR) (w : World) (h : LiesJ w a R) (hn : R.length ≤ 1000000) (hlen : lenD (R.map JR.dat) ≤ 4611686018427387904) :
    Calls Try.prog 53 #[.slice a R.length cap] w fun e w' => e = .returned (.int .i64 (lenD (R.map JR.dat))) ∧ Below w.heap.size w w' := by
  have HR := hide h
  have HM := hide (fun k => lenD_mono (R.map JR.dat) k)
  clear h
  go_enter Try.func53, Try.ntmps53
  go_wp2_with fail
  go_loopw [3, 8] (fun t i wr => ∃ k : Nat, k ≤ R.length ∧ i = .int .i64 (k : Int) ∧ t = .int .i64 (lenD ((R.map JR.dat).take k)) ∧ Below w.heap.size w wr) (fun _ i _ => R.length - (intOf i).toNat)
  case atStart => exact ⟨0, by omega, rfl, rfl, Below.refl _ _⟩
  case round =>
    obtain ⟨k, hk, rfl, rfl, hbel⟩ := hrel
    have HB := hide hbel
    clear hbel
    by_cases hlt : k < R.length
    · rcases HR.out with hE | ⟨b, off, rfl, hblt, hc⟩
      · rw [hE] at hlt; simp at hlt
      obtain ⟨q0, q1, _⟩ := hc k hlt
      have r0 := (HB.out.cell (p := ⟨b, off + k * 2, none⟩) hblt).trans q0
      have r1 := (HB.out.cell (p := ⟨b, off + k * 2 + 1, none⟩) hblt).trans q1
      have HS := hide (lenJ_step R k hlt)
      have h1 := HM.out (k + 1)
      rw [HS.out] at h1
      clear hc q0 q1
      generalize R.getD k JR.z = r at *
      generalize lenD ((R.map JR.dat).take k) = t at *
      generalize lenD ((R.map JR.dat)) = tt at *
      have HB2 := hide (HB.out.alloc HB.out.size (.cells #[.int .i64 r.at_, .slice r.a r.b.length r.cap] 75))
      go_wp2_with fail
      exact ⟨⟨k + 1, by omega, by congr 1 <;> omega, by rw [HS.out]; congr 1 <;> omega, HB2.out⟩, by simp [intOf]; omega⟩
    · obtain rfl : k = R.length := by omega
      have e : (R.map JR.dat).take R.length = R.map JR.dat := by rw [List.take_of_length_le (by simp)]
      rw [e]
      go_wp2_with fail
      go_ret
      exact ⟨rfl, HB.out⟩
end Go.Proofs.Ytkhknfohcebicaa.Oct
