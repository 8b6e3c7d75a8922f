/- A block of a volume is read; a map. -/
import Derived.Test.YtjmajjfknmjifaaDoorPEzh
namespace Go.Proofs.YtjmajjfknmjifaaDoor.Oct
open Go.RowKit

/-- A disk that lies in memory. -/
structure DiskE (w : World) (a : Option Addr) (cap : Nat) (d : List Int) : Prop where
  len : d.length ≤ 1000000000
  le : d.length ≤ cap
  none : a = none → cap = 0
  lies : Lies w a d

theorem DiskE.below {w w' : World} {a : Option Addr} {cap : Nat} {d : List Int} (h : DiskE w a cap d) (hb : Below w.heap.size w w') : DiskE w' a cap d := ⟨h.len, h.le, h.none, h.lies.below hb⟩

set_option maxHeartbeats 4000000 in
set_option maxRecDepth 100000 in
theorem vread_ok (R : Nat) (r b nn : Value) (a : Option Addr) (cap : Nat) (d : List Int) (n : Int) (w : World) (hD : DiskE w a cap d) (hlen : 131072 ≤ d.length) (h1 : 1 ≤ n) (h2 : n < 128) (hR : Blk w R (volX s1 r b nn (.iface 76 (.slice a d.length cap))) 82) :
    Calls Tryd.prog 86 #[.pointer (some ⟨R, 0, none⟩), .int .i64 n] w fun e w' => (∃ g c', e = .returned (.tuple #[.slice (some ⟨g, 0, none⟩) 1024 c', .int .i64 0]) ∧ Own w' w.heap.size (.slice (some ⟨g, 0, none⟩) 1024 c') (cutE d (n * 1024).toNat 1024)) ∧ Below w.heap.size w w' := by
  have HRd := hide (eread_ok a cap d n w hD.len hD.le hD.none hD.lies (by omega) (by omega))
  obtain ⟨⟨c0, c1, c2, c3, c4, c5, c6, c7⟩, c8, c9, c10, c11⟩ := cells_v1 hR
  have d1 : decide (n < 1) = false := by simpa using h1
  have d2 : decide (128 ≤ n) = false := by simpa using h2
  obtain ⟨m, hm⟩ : ∃ m, m = d.length := ⟨_, rfl⟩
  rw [← hm] at HRd c11
  obtain ⟨X, hX⟩ : ∃ X, X = cutE d (n * 1024).toNat 1024 := ⟨_, rfl⟩
  rw [← hX] at HRd ⊢
  clear hD hlen h1 h2 hR hm hX
  go_enter Tryd.func86, Tryd.ntmps86
  go_wp2_with fail
  refine HRd.out.mono ?_
  rintro e9 w2 ⟨⟨g, c', rfl, ho⟩, hb⟩
  have HO := hide ho
  have HB := hide hb
  clear ho hb
  go_wp2_with fail
  go_ret2
  exact ⟨⟨g, c', rfl, HO.out⟩, HB.out⟩

set_option maxHeartbeats 4000000 in
set_option maxRecDepth 100000 in
theorem omap_ok (R : Nat) (r b nn : Value) (a : Option Addr) (cap : Nat) (d : List Int) (n : Int) (w : World) (hD : DiskE w a cap d) (hlen : 131072 ≤ d.length) (h1 : 1 ≤ n) (h2 : n < 128) (hR : Blk w R (volX s1 r b nn (.iface 76 (.slice a d.length cap))) 82) :
    Calls Tryd.prog 77 #[.pointer (some ⟨R, 0, none⟩), .int .i64 n] w fun e w' => (∃ g c', e = .returned (.tuple #[.slice (some ⟨g, 0, none⟩) 1024 c', .int .i64 0]) ∧ Own w' w.heap.size (.slice (some ⟨g, 0, none⟩) 1024 c') (cutE d (n * 1024).toNat 1024)) ∧ Below w.heap.size w w' := by
  have HRd := hide (vread_ok R r b nn a cap d n w hD hlen h1 h2 hR)
  obtain ⟨X, hX⟩ : ∃ X, X = cutE d (n * 1024).toNat 1024 := ⟨_, rfl⟩
  rw [← hX] at HRd ⊢
  clear hD hlen h1 h2 hR hX
  go_enter Tryd.func77, Tryd.ntmps77
  go_wp2_with fail
  refine HRd.out.mono ?_
  rintro e9 w2 ⟨⟨g, c', rfl, ho⟩, hb⟩
  have HO := hide ho
  have HB := hide hb
  clear ho hb
  go_wp2_with fail
  go_ret2
  exact ⟨⟨g, c', rfl, HO.out⟩, HB.out⟩
end Go.Proofs.YtjmajjfknmjifaaDoor.Oct
