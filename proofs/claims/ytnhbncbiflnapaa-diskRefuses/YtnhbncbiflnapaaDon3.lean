/- A write, and another length, on both. -/
import Derived.Test.YtnhbncbiflnapaaDon2
import Derived.Deep.RegionHeld3
namespace Go.Proofs.Ytnhbncbiflnapaa.Oct
open Go.RowKit Go.Deep

theorem Pair.drew {w : World} {X Y Z : Nat → Prop} {F : Nat} {f : Fs} {A : Ab} {M : Nat} {m : Rf} {s : List Int} {R : List RW} {n : Nat} (h : Pair w X Y Z F f A M m s R n) : Pair w.drew X Y Z F f A M m s R n := by
  obtain ⟨R0, q1, q2⟩ := h.has
  exact ⟨⟨R0, q1.chg (Y := fun _ => False) (Chg.refl _ _).drew (fun _ _ _ h => h), q2⟩, h.ref.chg (X := fun _ => False) (Chg.refl _ _).drew (fun _ h => h.elim), ⟨h.fit.x, h.fit.ops, h.fit.wr, h.fit.s, h.fit.t, h.fit.d, h.fit.small⟩, h.by_, h.bz, h.xy⟩

theorem PDid.ofDrew {w w' : World} {X Y Z : Nat → Prop} {F : Nat} {f : Fs} {A : Ab} {M n : Nat} (h : PDid w.drew w' X Y Z F f A M n) : PDid w w' X Y Z F f A M n := by
  obtain ⟨X', Y', Z', f', m, s, R, h1, h2, h3, h4, h5, h6, h7, h8, h9, h10, h11⟩ := h
  exact ⟨X', Y', Z', f', m, s, R, h1, h2, h3, h4, h5, h6, h7, h8, h9, h10, (Chg.refl (fun q => X q ∨ Y q) w).drew.trans h11⟩

set_option maxHeartbeats 4000000 in
set_option maxRecDepth 100000 in
theorem done_write (w : World) (X Y Z : Nat → Prop) (F : Nat) (f : Fs) (A : Ab) (M : Nat) (m : Rf) (s : List Int) (R : List RW) (n : Nat) (h : Pair w X Y Z F f A M m s R n) (hn : n ≤ 1000000) (at_ k : Int) (a : Option Addr) (cap : Nat) (p : List Int)
    (hat : -9223372036854775808 ≤ at_ ∧ at_ ≤ 9223372036854775807) (hp : Sl w a cap p) (hpl : p.length ≤ 1500) (hpa : Apart Z M m.vr a p) :
    Calls Try.prog 11 #[.pointer (some ⟨F, 0, none⟩), .pointer (some ⟨M, 0, none⟩), .agg #[.int .i64 2, .int .i64 at_, .int .i64 k, .slice a p.length cap]] w fun e w' => ToldB e ∧ PDid w w' X Y Z F f (if f.said = 5 then A else A.op ⟨2, at_, k, a, cap, p⟩) M (n + 1) := by
  obtain ⟨A', hA'⟩ : ∃ A', A' = if f.said = 5 then A else A.op ⟨2, at_, k, a, cap, p⟩ := ⟨_, rfl⟩
  rw [← hA']
  obtain ⟨b0, b1, b2, b3⟩ := box4 w 37 (.int .i64 2) (.int .i64 at_) (.int .i64 k) (.slice a p.length cap)
  have hP := h.alloc (.cells #[.int .i64 2, .int .i64 at_, .int .i64 k, .slice a p.length cap] 37)
  have hNew : ∀ w', PDid (w.alloc (.cells #[.int .i64 2, .int .i64 at_, .int .i64 k, .slice a p.length cap] 37)) w' X Y Z F f A' M (n + 1) → PDid w w' X Y Z F f A' M (n + 1) := fun w' h => h.new
  have hbx : ¬ X w.heap.size ∧ ¬ Y w.heap.size := ⟨fun hx => by have := h.fit.x _ hx; omega, fun hy => by have := h.by_ _ hy; omega⟩
  have hp1 : Sl (w.alloc (.cells #[.int .i64 2, .int .i64 at_, .int .i64 k, .slice a p.length cap] 37)) a cap p := ⟨hp.le, hp.max, hp.none, hp.lies.alloc _⟩
  have hnx : p ≠ [] → ∀ x, a = some x → ¬ X x.block := fun hne x hx hxx => (h.xy _ hxx).2 (hpa hne x hx).1
  have hR := fun u (hu : Pair u X Y Z F f A M m s R n) (hl : Lies u a p) => write_any u X F f A hu.has hu.fit at_ k a cap p hl hpl hnx hat
  have HP1 := hide hp1
  have HPA := hide (And.intro hpa hnx)
  rw [← hA'] at hR
  have HR := hide hR
  have HP := hide hP
  have HN := hide hNew
  have HBx := hide hbx
  clear h hP hNew hR hA' hbx hp hp1 hpa hnx
  go_enter Try.func11, Try.ntmps11
  go_wp2_with fail
  generalize w.alloc (.cells #[.int .i64 2, .int .i64 at_, .int .i64 k, .slice a p.length cap] 37) = w1 at *
  have hK2 : ∀ w2, Did w1.drew w2 X F f A' → (w2.cell? ⟨w.heap.size, 1, none⟩ = some (.int .i64 at_) ∧ w2.cell? ⟨w.heap.size, 3, none⟩ = some (.slice a p.length cap)) := fun w2 hd => ⟨(did_chg hd).cell b1 HBx.out.1, (did_chg hd).cell b3 HBx.out.1⟩
  have hK3 : ∀ w2 w3, (w2.cell? ⟨w.heap.size, 1, none⟩ = some (.int .i64 at_) ∧ w2.cell? ⟨w.heap.size, 3, none⟩ = some (.slice a p.length cap)) → RDid w2 w3 Y Z M (n + 1) → (w3.cell? ⟨w.heap.size, 1, none⟩ = some (.int .i64 at_) ∧ w3.cell? ⟨w.heap.size, 3, none⟩ = some (.slice a p.length cap)) := fun w2 w3 hk hr => ⟨(rdid_chg hr).cell hk.1 HBx.out.2, (rdid_chg hr).cell hk.2 HBx.out.2⟩
  have HPD : Hid (Sl w1.drew a cap p) := hide ⟨HP1.out.le, HP1.out.max, HP1.out.none, HP1.out.lies.drew⟩
  have HK2 := hide hK2
  have HK3 := hide hK3
  clear hK2 hK3
  go_region_held3 (fun w' => w'.cell? ⟨w.heap.size, 1, none⟩ = some (.int .i64 at_) ∧ w'.cell? ⟨w.heap.size, 3, none⟩ = some (.slice a p.length cap))
    (first | go_keep | exact HC2.out | exact HC3.out)
    (first
      | (go_at_call 23; refine (HR.out w1.drew HP.out.drew HP1.out.lies).mono ?_; rintro e w2 ⟨z2, rfl, _, hd2⟩; have HD2 := hide hd2; have HC2 := hide (HK2.out w2 hd2); clear hd2)
      | (go_at_call 31; refine (rput w2 Y Z M m s R n (HP.out.drew.ref1 HD2.out) hn at_ hat a cap p (HPD.out.chg0 (did_chg HD2.out) HPA.out.2) hpl HPA.out.1).mono ?_; rintro e w3 ⟨⟨z3, rfl⟩, hr3⟩; have HF := hide (HN.out w3 (PDid.ofDrew (HP.out.drew.after HD2.out hr3))); have HC3 := hide (HK3.out w2 w3 HC2.out hr3); clear hr3))
  all_goals
    go_wp2_with fail
    go_ret
    exact ⟨⟨_, rfl⟩, HF.out⟩

set_option maxHeartbeats 4000000 in
set_option maxRecDepth 100000 in
theorem done_cut (w : World) (X Y Z : Nat → Prop) (F : Nat) (f : Fs) (A : Ab) (M : Nat) (m : Rf) (s : List Int) (R : List RW) (n : Nat) (h : Pair w X Y Z F f A M m s R n) (hn : n ≤ 1000000) (at_ k : Int) (a : Option Addr) (cap : Nat) (p : List Int) :
    Calls Try.prog 11 #[.pointer (some ⟨F, 0, none⟩), .pointer (some ⟨M, 0, none⟩), .agg #[.int .i64 3, .int .i64 at_, .int .i64 k, .slice a p.length cap]] w fun e w' => ToldB e ∧ PDid w w' X Y Z F f (if f.said = 5 then A else A.op ⟨3, at_, k, a, cap, p⟩) M (n + 1) := by
  obtain ⟨A', hA'⟩ : ∃ A', A' = if f.said = 5 then A else A.op ⟨3, at_, k, a, cap, p⟩ := ⟨_, rfl⟩
  rw [← hA']
  obtain ⟨b0, b1, b2, b3⟩ := box4 w 37 (.int .i64 3) (.int .i64 at_) (.int .i64 k) (.slice a p.length cap)
  have hP := h.alloc (.cells #[.int .i64 3, .int .i64 at_, .int .i64 k, .slice a p.length cap] 37)
  have hNew : ∀ w', PDid (w.alloc (.cells #[.int .i64 3, .int .i64 at_, .int .i64 k, .slice a p.length cap] 37)) w' X Y Z F f A' M (n + 1) → PDid w w' X Y Z F f A' M (n + 1) := fun w' h => h.new
  have hbx : ¬ X w.heap.size ∧ ¬ Y w.heap.size := ⟨fun hx => by have := h.fit.x _ hx; omega, fun hy => by have := h.by_ _ hy; omega⟩
  have hR := fun u (hu : Pair u X Y Z F f A M m s R n) => trunc_any u X F f A hu.has hu.fit k at_ a cap p
  rw [← hA'] at hR
  have HR := hide hR
  have HP := hide hP
  have HN := hide hNew
  have HBx := hide hbx
  clear h hP hNew hR hA' hbx
  go_enter Try.func11, Try.ntmps11
  go_wp2_with fail
  generalize w.alloc (.cells #[.int .i64 3, .int .i64 at_, .int .i64 k, .slice a p.length cap] 37) = w1 at *
  have hK2 : ∀ w2, Did w1.drew w2 X F f A' → (w2.cell? ⟨w.heap.size, 2, none⟩ = some (.int .i64 k)) := fun w2 hd => ((did_chg hd).cell b2 HBx.out.1)
  have hK3 : ∀ w2 w3, (w2.cell? ⟨w.heap.size, 2, none⟩ = some (.int .i64 k)) → RDid w2 w3 Y Z M (n + 1) → (w3.cell? ⟨w.heap.size, 2, none⟩ = some (.int .i64 k)) := fun w2 w3 hk hr => (rdid_chg hr).cell hk HBx.out.2
  have HK2 := hide hK2
  have HK3 := hide hK3
  clear hK2 hK3
  go_region_held3 (fun w' => w'.cell? ⟨w.heap.size, 2, none⟩ = some (.int .i64 k))
    (first | go_keep | exact HC2.out | exact HC3.out)
    (first
      | (go_at_call 27; refine (HR.out w1.drew HP.out.drew).mono ?_; rintro e w2 ⟨z2, rfl, _, hd2⟩; have HD2 := hide hd2; have HC2 := hide (HK2.out w2 hd2); clear hd2)
      | (go_at_call 32; refine (rcut w2 Y Z M m s R n (HP.out.drew.ref1 HD2.out) hn k).mono ?_; rintro e w3 ⟨⟨z3, rfl⟩, hr3⟩; have HF := hide (HN.out w3 (PDid.ofDrew (HP.out.drew.after HD2.out hr3))); have HC3 := hide (HK3.out w2 w3 HC2.out hr3); clear hr3))
  all_goals
    go_wp2_with fail
    go_ret
    exact ⟨⟨_, rfl⟩, HF.out⟩

end Go.Proofs.Ytnhbncbiflnapaa.Oct
