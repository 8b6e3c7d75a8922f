/- A volume is opened: sectors of a disk. -/
import Derived.Test.YthhodmiobpocbaaDoorPFmr
import Derived.Test.YthhodmiobpocbaaDoorPJbk
namespace Go.Proofs.YthhodmiobpocbaaDoor.Oct
open Go.RowKit

theorem Equal_any (a a' : Option Addr) (cap cap' : Nat) (l l' : List Int) (w : World) (hl : Lies w a l) (hl' : Lies w a' l') (hb : Byts l) (hb' : Byts l') :
    Calls Tryd.prog 48 #[.slice a l.length cap, .slice a' l'.length cap'] w fun e w' => e = .returned (.bool (decide (l = l'))) ∧ w' = w := by
  have h1 := run_text (P := Tryd.prog) (dst := 9) Tryd.underlying26 Tryd.underlying5 Tryd.underlying9 w a l cap hl
  have h2 := run_text (P := Tryd.prog) (dst := 9) Tryd.underlying26 Tryd.underlying5 Tryd.underlying9 w a' l' cap' hl'
  go_enter Tryd.func48, Tryd.ntmps48
  go_wp2
  go_ret
  refine ⟨?_, rfl⟩
  rw [← beq_text hb hb']
  rfl

/-- Sectors of a disk. -/
def secs (d : List Int) (s n : Int) : List Int := (d.drop (s * 512).toNat).take (n * 512).toNat

theorem secs_len {d : List Int} {s n : Int} (hs : 0 ≤ s) (hn : 0 ≤ n) (hf : (s + n) * 512 ≤ d.length) : (secs d s n).length = (n * 512).toNat := by
  unfold secs
  simp
  omega

set_option maxHeartbeats 4000000 in
set_option maxRecDepth 100000 in
theorem rd_ok (a : Option Addr) (cap : Nat) (d : List Int) (s n : Int) (w : World) (hd : d.length ≤ 1000000000) (hcap : d.length ≤ cap) (hno : a = none → cap = 0) (hl : Lies w a d) (hs : 0 ≤ s) (hn : 0 ≤ n) (hf : (s + n) * 512 ≤ d.length) :
    Calls Tryd.prog 46 #[.iface 34 (.slice a d.length cap), .int .i64 s, .int .i64 n] w fun e w' => (∃ a' c', e = .returned (.tuple #[.slice a' (n * 512).toNat c', .int .i64 0]) ∧ Lies w' a' (secs d s n) ∧ (n * 512).toNat ≤ c') ∧ Below w.heap.size w w' := by
  have HR := hide (readN_any a cap d (s * 512) (n * 512) w hd hcap hno hl (by omega))
  have hmR : ∀ (u : World) (a : Option Addr) (n c : Nat), (method 271 34 (.slice a n c) "Read").run Tryd.prog u = .ok (107, .slice a n c) u := fun u a n c => by kernel_rfl
  have hln := secs_len hs hn hf
  have hw1 : IntKind.i64.wrap (s * 512) = s * 512 := by rw [IntKind.wrap_i64]; omega
  have hw2 : IntKind.i64.wrap (n * 512) = n * 512 := by rw [IntKind.wrap_i64]; omega
  have hlk : lackN (s * 512) (n * 512) d.length = false := by unfold lackN; simp; omega
  have HZ := hide (show 0 ≤ n * 512 by omega)
  obtain ⟨m, hm⟩ : ∃ m, m = d.length := ⟨_, rfl⟩
  have HK := hide hlk
  have HN := hide hln
  rw [← hm] at HR ⊢
  clear hd hcap hno hl hs hn hf hm hlk hln
  go_enter Tryd.func46, Tryd.ntmps46
  go_wp2_with fail
  refine HR.out.mono ?_
  rintro e9 w1 ⟨h1 | h1, hb1⟩
  · obtain ⟨_, v, rfl, a1, c1, rfl, hl1, hc1⟩ := h1
    have hs2 : (d.drop (s * 512).toNat).take (n * 512).toNat = secs d s n := rfl
    rw [hs2] at hl1 hc1 ⊢
    rw [HN.out] at hc1 ⊢
    have HL := hide hl1
    have HC := hide hc1
    have HB := hide hb1
    clear hl1 hc1 hb1 hs2 HR HN
    have hkk : ((n * 512).toNat : Int) = n * 512 := by have := HZ.out; omega
    obtain ⟨z, hz⟩ : ∃ z, z = (n * 512).toNat := ⟨_, rfl⟩
    rw [← hz] at hkk ⊢
    have HZZ := hide hz
    clear hz
    have hq2 : ((z : Int) != n * 512) = false := by rw [hkk]; simp
    clear hkk
    go_wp2_with fail
    go_ret2
    exact ⟨⟨a1, c1, by rw [← HZZ.out]; rfl, HL.out, HC.out⟩, HB.out⟩
  · rw [HK.out] at h1
    exact absurd h1.1 (by simp)
end Go.Proofs.YthhodmiobpocbaaDoor.Oct
