/- behind: a set in the one form, without the parts that end ahead of a place or at it. -/
import Derived.Test.YtjpdfchdgphdoaaGreatDoorPNor
namespace Go.Proofs.YtjpdfchdgphdoaaGreatDoor.Oct
open Go.RowKit

theorem InE.of_at {L : List (Int × Int)} {k : Nat} {x : Int} (hk : k < L.length) (h1 : (L.getD k (0, 0)).1 ≤ x) (h2 : x < (L.getD k (0, 0)).2) : InE L x := by
  refine ⟨L.getD k (0, 0), ?_, h1, h2⟩
  have e : L.getD k (0, 0) = L[k] := by simp [hk]
  rw [e]
  exact List.getElem_mem hk

end Go.Proofs.YtjpdfchdgphdoaaGreatDoor.Oct

namespace Go.Proofs.YtjpdfchdgphdoaaGreatDoor.Oct
open Go.RowKit

theorem LiesE.drop {w : World} {b off : Nat} {L : List (Int × Int)} (h : LiesE w (some ⟨b, off, none⟩) L) (k : Nat) (hb : b < w.heap.size) : LiesE w (some ⟨b, off + k * 2, none⟩) (L.drop k) := by
  rcases h with rfl | ⟨b', off', e, _, hc⟩
  · exact Or.inl (by simp)
  · cases e
    refine Or.inr ⟨b, off + k * 2, rfl, hb, fun j hj => ?_⟩
    simp only [List.length_drop] at hj
    have h1 := hc (k + j) (by omega)
    have e : (L.drop k).getD j (0, 0) = L.getD (k + j) (0, 0) := by simp [List.getD_eq_getElem?_getD]
    rw [e, show off + k * 2 + j * 2 = off + (k + j) * 2 by omega]
    exact h1

/-- So many parts end at the place or ahead of it; the next doesn't. -/
def Behd (L : List (Int × Int)) (x : Int) (k : Nat) : Prop := k ≤ L.length ∧ (∀ j, j < k → (L.getD j (0, 0)).2 ≤ x) ∧ (k < L.length → x < (L.getD k (0, 0)).2)

/-- Where the rest lies, if there is one. -/
def Rest (p : Option Addr) (b off : Nat) (L : List (Int × Int)) (k : Nat) : Prop := k < L.length → p = some ⟨b, off + k * 2, none⟩

set_option maxHeartbeats 2000000 in
set_option maxRecDepth 100000 in
theorem behind_any (w : World) (b off c : Nat) (L : List (Int × Int)) (x : Int) (h : LiesE w (some ⟨b, off, none⟩) L) (hb : b < w.heap.size) (hl : L.length ≤ 1000000) (hcap : L.length ≤ c) :
    Calls Tryz.prog 66 #[.slice (some ⟨b, off, none⟩) L.length c, .int .i64 x] w fun e w' => ∃ k p, e = .returned (.slice p (L.length - k) (c - k)) ∧ Rest p b off L k ∧ Behd L x k ∧ w' = w := by
  have HL := hide h
  clear h
  go_enter Tryz.func66, Tryz.ntmps66
  go_wp2_with fail
  go_loopw [0] (fun s wr => ∃ (k : Nat) (p : Option Addr), k ≤ L.length ∧ s = .slice p (L.length - k) (c - k) ∧ Rest p b off L k ∧ (∀ j, j < k → (L.getD j (0, 0)).2 ≤ x) ∧ wr = w) (fun s _ => match s with | .slice _ n _ => n | _ => 0)
  case atStart => exact ⟨0, some ⟨b, off, none⟩, by omega, by simp, fun _ => by simp, fun j hj => by omega, rfl⟩
  case round =>
    obtain ⟨k, p, hk, rfl, hp, hall, rfl⟩ := hrel
    have HAll := hide hall
    have HP := hide hp
    clear hall hp
    by_cases hlt : k < L.length
    · rcases HL.out with hnil | ⟨b', off', e, _, hc⟩
      · rw [hnil] at hlt; simp at hlt
      cases e
      have hpe := HP.out hlt
      subst hpe
      obtain ⟨_, q1⟩ := hc k hlt
      obtain ⟨y, hy⟩ : ∃ y, y = (L.getD k (0, 0)).2 := ⟨_, rfl⟩
      rw [← hy] at q1
      have HY := hide hy
      obtain ⟨n, hn⟩ : ∃ n, L.length - k = n + 1 := ⟨L.length - k - 1, by omega⟩
      obtain ⟨d, hd⟩ : ∃ d, c - k = d := ⟨_, rfl⟩
      have hdn : n + 1 ≤ d := by omega
      rw [hn, hd]
      have HHn := hide hn
      have HHd := hide hd
      clear hc hy hn hd
      have hn1 : (1 : Int) ≤ ((n + 1 : Nat) : Int) := by omega
      have hn2 : ((n + 1 : Nat) : Int) ≤ (d : Int) := by omega
      have HBd : Hid (x < y → Behd L x k) := hide (fun h => ⟨hk, HAll.out, fun _ => by rw [← HY.out]; exact h⟩)
      have HAl2 : Hid (y ≤ x → ∀ j, j < k + 1 → (L.getD j (0, 0)).2 ≤ x) := hide (fun h j hj => by
        rcases Nat.lt_or_ge j k with h1 | h1
        · exact HAll.out j h1
        · obtain rfl : j = k := by omega
          rw [← HY.out]
          exact h)
      by_cases hyx : y ≤ x
      · go_wp2_with fail
        have h1 := HHn.out
        have h2 := HHd.out
        refine ⟨⟨k + 1, _, by omega, by rw [show L.length - (k + 1) = n by omega, show c - (k + 1) = d - 1 by omega], fun h => ?_, HAl2.out hyx, by trivial⟩, ?_⟩
        · rw [if_neg (by omega), show off + (k + 1) * 2 = off + k * 2 + 2 by omega]
        · show n < n + 1
          omega
      · go_wp2_with fail
        go_ret
        refine ⟨k, some ⟨b, off + k * 2, none⟩, ?_, fun _ => rfl, HBd.out hyx, rfl⟩
        rw [HHn.out, HHd.out]
        rfl
    · obtain rfl : k = L.length := by omega
      have hz : L.length - L.length = 0 := by omega
      have HBd : Hid (Behd L x L.length) := hide ⟨Nat.le_refl _, HAll.out, fun h => absurd h (by omega)⟩
      rw [hz]
      go_wp2_with fail
      go_ret
      refine ⟨L.length, p, ?_, fun h => absurd h (by omega), HBd.out, rfl⟩
      rw [hz]
      rfl

end Go.Proofs.YtjpdfchdgphdoaaGreatDoor.Oct
