/- A block of a disk is read; what its super says. -/
import Derived.Test.YtjmajjfknmjifaaDoorPEza
import Derived.Test.YtjmajjfknmjifaaDoorPFmr
import Derived.Test.YtjmajjfknmjifaaDoorPTak
namespace Go.Proofs.YtjmajjfknmjifaaDoor.Oct
open Go.RowKit

set_option maxHeartbeats 1000000 in
set_option maxRecDepth 100000 in
theorem cloneO_any (w : World) (a : Option Addr) (cap : Nat) (l : List Int) (hl : Lies w a l) (hlen : l.length ≤ 140737488355328) :
    Calls Tryd.prog 72 #[.slice a l.length cap] w fun e w' => ∃ v, e = .returned v ∧ Own w' w.heap.size v l ∧ Below w.heap.size w w' := by
  cases a with
  | none =>
    have h0 : l = [] := by
      rcases hl with h | ⟨b, off, h, _⟩
      · exact h
      · cases h
    subst h0
    clear hlen hl
    have hq := fun u : World => Lib.run_eql_slice_nil u 24 5 none 0 cap 0 0 Tryd.underlying24
    go_enter Tryd.func72, Tryd.ntmps72
    go_wp2_with fail
    go_ret
    exact ⟨_, rfl, Own.nil _ _, Below.refl _ _⟩
  | some x =>
    have HL := hide hl
    have HN := hide hlen
    clear hl hlen
    have hq := fun u : World => Lib.run_eql_slice_nil u 24 5 (some x) l.length cap 0 0 Tryd.underlying24
    go_enter Tryd.func72, Tryd.ntmps72
    go_wp2_with (refine wpList_append_bytes (by rfl) _ _ 24 (by rfl) Tryd.underlying24 info5m w.heap.size _ [] (by rfl) (Own.emptyM w) _ _ _ l (by rfl) rfl (HL.out.alloc _) (by have := HN.out; simp; omega) (by simp) ?_; intro v9 w9 ho9 hg9)
    go_ret
    refine ⟨_, rfl, by simpa using ho9, ?_⟩
    have := ((Below.refl w.heap.size w).alloc (Nat.le_refl _) (.cells #[] 5)).grown hg9 (by simp) (fun k hk => by simp [Value.ownBlock] at hk; omega)
    exact this

set_option maxHeartbeats 4000000 in
set_option maxRecDepth 100000 in
/-- A block that is there. -/
theorem eread_ok (a : Option Addr) (cap : Nat) (d : List Int) (n : Int) (w : World) (hd : d.length ≤ 1000000000) (hcap : d.length ≤ cap) (hno : a = none → cap = 0) (hl : Lies w a d) (hn : 0 ≤ n) (hf : (n + 1) * 1024 ≤ d.length) :
    Calls Tryd.prog 54 #[.iface 76 (.slice a d.length cap), .int .i64 n] w fun e w' => (∃ g c', e = .returned (.tuple #[.slice (some ⟨g, 0, none⟩) 1024 c', .int .i64 0]) ∧ Own w' w.heap.size (.slice (some ⟨g, 0, none⟩) 1024 c') (cutE d (n * 1024).toNat 1024)) ∧ Below w.heap.size w w' := by
  have HR := hide (readN_any a cap d (n * 1024) 1024 w hd hcap hno hl (by omega))
  have hmR : ∀ (u : World) (a : Option Addr) (n c : Nat), (method 274 76 (.slice a n c) "Read").run Tryd.prog u = .ok (124, .slice a n c) u := fun u a n c => by kernel_rfl
  have hln : (cutE d (n * 1024).toNat 1024).length = 1024 := cutE_len (by omega)
  have hw1 : IntKind.i64.wrap (n * 1024) = n * 1024 := by rw [IntKind.wrap_i64]; omega
  have hlk : lackN (n * 1024) 1024 d.length = false := by unfold lackN; simp; omega
  obtain ⟨m, hm⟩ : ∃ m, m = d.length := ⟨_, rfl⟩
  have HK := hide hlk
  have HN := hide hln
  rw [← hm] at HR ⊢
  obtain ⟨X, hX⟩ : ∃ X, X = cutE d (n * 1024).toNat 1024 := ⟨_, rfl⟩
  have HX := hide hX
  rw [← hX] at HN ⊢
  clear hd hcap hno hl hn hf hm hlk hln hX
  go_enter Tryd.func54, Tryd.ntmps54
  go_wp2_with fail
  refine HR.out.mono ?_
  rintro e9 w1 ⟨h1 | h1, hb1⟩
  · obtain ⟨_, v, rfl, a1, c1, rfl, hl1, hc1⟩ := h1
    have hs2 : (d.drop (n * 1024).toNat).take (1024 : Int).toNat = X := by rw [HX.out]; rfl
    rw [hs2] at hl1 hc1 ⊢
    have HCl := hide (cloneO_any w1 a1 c1 X hl1 (by rw [HN.out]; omega))
    rw [HN.out] at hc1 HCl ⊢
    have HB := hide hb1
    clear hl1 hc1 hb1 hs2 HR
    go_wp2_with fail
    refine HCl.out.mono ?_
    rintro e9 w2 ⟨v, rfl, ho2, hb2⟩
    obtain ⟨a3, c3, rfl, hsl, hg3⟩ := ho2.sl
    have hne : X ≠ [] := fun e => by have := HN.out; rw [e] at this; simp at this
    obtain ⟨g3, rfl, _⟩ := hg3 hne
    rw [HN.out] at ho2 ⊢
    have HO := hide (ho2.mono HB.out.size)
    have HB2 := hide (HB.out.trans (hb2.mono HB.out.size))
    clear ho2 hb2 hsl hg3 hne
    go_wp2_with fail
    go_ret2
    exact ⟨⟨g3, c3, rfl, HO.out⟩, HB2.out⟩
  · rw [HK.out] at h1
    exact absurd h1.1 (by simp)
end Go.Proofs.YtjmajjfknmjifaaDoor.Oct
