/- An operation on both, whatever it is. -/
import Derived.Test.YtnhbncbiflnapaaDone
namespace Go.Proofs.Ytnhbncbiflnapaa.Oct
open Go.RowKit Go.Deep

theorem PDid.new {w w' : World} {X Y Z : Nat → Prop} {F : Nat} {f : Fs} {A : Ab} {M n : Nat} {o : Obj} (h : PDid (w.alloc o) w' X Y Z F f A M n) : PDid w w' X Y Z F f A M n := by
  obtain ⟨X', Y', Z', f', m, s, R, h1, h2, h3, h4, h5, h6, h7, h8, h9, h10, h11⟩ := h
  have hs : (w.alloc o).heap.size = w.heap.size + 1 := by simp
  refine ⟨X', Y', Z', f', m, s, R, h1, h2, h3, h4, h5, h6, h7, fun q hq => (h8 q hq).elim Or.inl (fun h => Or.inr (by omega)), fun q hq => (h9 q hq).elim Or.inl (fun h => Or.inr (by omega)), h10, ?_⟩
  exact ((Chg.refl (fun q => X q ∨ Y q) w).alloc o).trans h11

theorem box4 (w : World) (t : TypeId) (x y z u : Value) : (w.alloc (.cells #[x, y, z, u] t)).cell? ⟨w.heap.size, 0, none⟩ = some x ∧ (w.alloc (.cells #[x, y, z, u] t)).cell? ⟨w.heap.size, 1, none⟩ = some y ∧ (w.alloc (.cells #[x, y, z, u] t)).cell? ⟨w.heap.size, 2, none⟩ = some z ∧ (w.alloc (.cells #[x, y, z, u] t)).cell? ⟨w.heap.size, 3, none⟩ = some u := by
  have h : (w.alloc (.cells #[x, y, z, u] t)).heap[w.heap.size]? = some (.cells #[x, y, z, u] t) := heap_alloc_new w _
  simp only [World.cell?, h]
  exact ⟨rfl, rfl, rfl, rfl⟩

theorem did_chg {w w1 : World} {X : Nat → Prop} {F : Nat} {f : Fs} {A : Ab} (h : Did w w1 X F f A) : Chg X w w1 := by
  obtain ⟨_, _, _, _, _, h⟩ := h
  exact h

theorem rdid_chg {w w1 : World} {Y Z : Nat → Prop} {M n : Nat} (h : RDid w w1 Y Z M n) : Chg Y w w1 := by
  obtain ⟨_, _, _, _, h⟩ := h
  exact h

set_option maxHeartbeats 4000000 in
set_option maxRecDepth 100000 in
theorem done_read (w : World) (X Y Z : Nat → Prop) (F : Nat) (f : Fs) (A : Ab) (M : Nat) (m : Rf) (s : List Int) (R : List RW) (n : Nat) (h : Pair w X Y Z F f A M m s R n) (hn : n ≤ 1000000) (at_ k : Int) (a : Option Addr) (cap bl : Nat)
    (hat : -9223372036854775808 ≤ at_ ∧ at_ ≤ 9223372036854775807) (hk : -9223372036854775808 ≤ k ∧ k ≤ 9223372036854775807) :
    Calls Try.prog 11 #[.pointer (some ⟨F, 0, none⟩), .pointer (some ⟨M, 0, none⟩), .agg #[.int .i64 1, .int .i64 at_, .int .i64 k, .slice a bl cap]] w fun e w' => ToldB e ∧ PDid w w' X Y Z F f A M (n + 1) := by
  obtain ⟨b0, b1, b2, b3⟩ := box4 w 37 (.int .i64 1) (.int .i64 at_) (.int .i64 k) (.slice a bl cap)
  have hP := h.alloc (.cells #[.int .i64 1, .int .i64 at_, .int .i64 k, .slice a bl cap] 37)
  have hNew : ∀ w', PDid (w.alloc (.cells #[.int .i64 1, .int .i64 at_, .int .i64 k, .slice a bl cap] 37)) w' X Y Z F f A M (n + 1) → PDid w w' X Y Z F f A M (n + 1) := fun w' h => h.new
  have hbx : ¬ X w.heap.size ∧ ¬ Y w.heap.size := ⟨fun hx => by have := h.fit.x _ hx; omega, fun hy => by have := h.by_ _ hy; omega⟩
  have hR := fun u (hu : Pair u X Y Z F f A M m s R n) => read_any u X F f A hu.has hu.fit.x hu.fit.ops hu.fit.s at_ k hat hk
  have HR := hide hR
  have HP := hide hP
  have HN := hide hNew
  have HBx := hide hbx
  clear h hP hNew hR hbx
  go_enter Try.func11, Try.ntmps11
  go_wp2_with fail
  generalize w.alloc (.cells #[.int .i64 1, .int .i64 at_, .int .i64 k, .slice a bl cap] 37) = w1 at *
  refine (HR.out w1 HP.out).mono ?_
  rintro e w2 ⟨a2, c2, l2, z2, rfl, hl2, _, hp2, _, hd2⟩
  have HD2 := hide hd2
  have HL2 := hide (And.intro hl2 hp2)
  have d1 := (did_chg hd2).cell b1 HBx.out.1
  have d2 := (did_chg hd2).cell b2 HBx.out.1
  clear hd2 hl2 hp2
  go_wp2_with fail
  refine (rread w2 Y Z M m s R n (HP.out.ref1 HD2.out) hn at_ k hat hk).mono ?_
  rintro e w3 ⟨⟨a3, c3, l3, z3, rfl, hl3⟩, hr3⟩
  have HF := hide (HN.out w3 (HP.out.after HD2.out hr3))
  have hl23 : Lies w3 a2 l2 := HL2.out.1.chg0 (rdid_chg hr3) (fun _ x hx hy => by have h1 := HP.out.by_ _ hy; have h2 := HL2.out.2 x hx; omega)
  have HS := hide (same_told a2 a3 c2 c3 l2 l3 w3 hl23 hl3)
  clear hr3 hl23 hl3
  by_cases hz : z2 = z3
  · go_wp2_with fail
    refine HS.out.mono ?_
    rintro e w4 ⟨⟨b4, rfl⟩, rfl⟩
    go_wp2_with fail
    go_ret
    exact ⟨⟨_, rfl⟩, HF.out⟩
  · have hzb : (z2 == z3) = false := by simpa using hz
    go_wp2_with fail
    go_ret
    exact ⟨⟨_, rfl⟩, HF.out⟩

set_option maxHeartbeats 4000000 in
set_option maxRecDepth 100000 in
theorem done_flush (w : World) (X Y Z : Nat → Prop) (F : Nat) (f : Fs) (A : Ab) (M : Nat) (m : Rf) (s : List Int) (R : List RW) (n : Nat) (h : Pair w X Y Z F f A M m s R n) (hn : n ≤ 1000000) (at_ k : Int) (a : Option Addr) (cap : Nat) (p : List Int) :
    Calls Try.prog 11 #[.pointer (some ⟨F, 0, none⟩), .pointer (some ⟨M, 0, none⟩), .agg #[.int .i64 4, .int .i64 at_, .int .i64 k, .slice a p.length cap]] w fun e w' => ToldB e ∧ PDid w w' X Y Z F f (if f.said = 5 then A else A.op ⟨4, at_, k, a, cap, p⟩) M (n + 1) := by
  obtain ⟨A', hA'⟩ : ∃ A', A' = if f.said = 5 then A else A.op ⟨4, at_, k, a, cap, p⟩ := ⟨_, rfl⟩
  rw [← hA']
  obtain ⟨b0, b1, b2, b3⟩ := box4 w 37 (.int .i64 4) (.int .i64 at_) (.int .i64 k) (.slice a p.length cap)
  have hP := h.alloc (.cells #[.int .i64 4, .int .i64 at_, .int .i64 k, .slice a p.length cap] 37)
  have hNew : ∀ w', PDid (w.alloc (.cells #[.int .i64 4, .int .i64 at_, .int .i64 k, .slice a p.length cap] 37)) w' X Y Z F f A' M (n + 1) → PDid w w' X Y Z F f A' M (n + 1) := fun w' h => h.new
  have hR := fun u (hu : Pair u X Y Z F f A M m s R n) => flush_any u X F f A hu.has hu.fit k at_ a cap p
  rw [← hA'] at hR
  have HR := hide hR
  have HP := hide hP
  have HN := hide hNew
  clear h hP hNew hR hA'
  go_enter Try.func11, Try.ntmps11
  go_wp2_with fail
  generalize w.alloc (.cells #[.int .i64 4, .int .i64 at_, .int .i64 k, .slice a p.length cap] 37) = w1 at *
  refine (HR.out w1 HP.out).mono ?_
  rintro e w2 ⟨z2, rfl, _, _, hd2⟩
  have HD2 := hide hd2
  clear hd2
  go_wp2_with fail
  refine (rflush w2 Y Z M m s R n (HP.out.ref1 HD2.out) hn).mono ?_
  rintro e w3 ⟨⟨z3, rfl⟩, hr3⟩
  have HF := hide (HN.out w3 (HP.out.after HD2.out hr3))
  clear hr3
  go_wp2_with fail
  go_ret
  exact ⟨⟨_, rfl⟩, HF.out⟩

end Go.Proofs.Ytnhbncbiflnapaa.Oct
