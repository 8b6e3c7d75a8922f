/- The journal is cleared; records are done. -/
import Derived.Test.YtgmifbknmjdemaaGreatPJri
namespace Go.Proofs.YtgmifbknmjdemaaGreat.Oct
open Go.RowKit Go.Deep

def Z512 : List Int := List.replicate 512 0
theorem Z512_len : Z512.length = 512 := List.length_replicate

/-- The operations that take the sign away. -/
def clrO (p : Nat) : List AO := [.wr p Z512, .fl]

set_option maxHeartbeats 4000000 in
set_option maxRecDepth 100000 in
theorem clear_j (w : World) (J F p q : Nat) (nu : Int) (hJ : Jrn w J F p q nu) (hp : p + 1024 ≤ q) (hq : q ≤ 4194304) (X : Nat → Prop) (f : Fs) (A : A3) (k n : Nat) (h : Fl w X F f A k n) (hXJ : ¬ X J) (hnn : n ≤ 800000) :
    Calls Tryz.prog 53 #[.pointer (some ⟨J, 0, none⟩)] w fun e w' => e = .returned (.int .i64 (cod 2 k)) ∧ RanJ w w' J p q nu X F A k n (clrO p) := by
  have HNo := hide (none_j w J F p q nu hJ (by omega))
  have HJ := hide hJ
  have HX := hide hXJ
  have HFl := hide h
  have HSet : ∀ u g, Below w.heap.size w u → Own u w.heap.size (.slice (some ⟨g, 0, none⟩) 512 512) Z512 → Hid (Calls Tryz.prog 50 #[.pointer (some ⟨J, 0, none⟩), .int .i64 p, .slice (some ⟨g, 0, none⟩) 512 512] u fun e w' => e = .returned (.int .i64 (cod 2 k)) ∧ RanJ w w' J p q nu X F A k n (clrO p)) := fun u g hu ho => hide (by
    obtain ⟨a9, c9, e9, hL9, _, _, _, hg9⟩ := ho.form
    simp only [Value.slice.injEq] at e9
    obtain ⟨rfl, -, -⟩ := e9
    obtain ⟨g', hg', hgB, _⟩ := hg9 (fun e => by have := Z512_len; rw [e] at this; simp at this)
    cases hg'
    have hst := settle_j u J F p q nu (hJ.below hu) X f _ _ _ (h.below hu) hXJ p (some ⟨g, 0, none⟩) 512 _ hL9 (fun _ x hx e => by
      cases hx
      have := h.x _ e
      simp only at this
      omega) (by rw [Z512_len]; omega) (by rw [Z512_len]; omega)
    rw [Z512_len] at hst
    refine hst.mono ?_
    rintro e9 w10 ⟨rfl, hr⟩
    exact ⟨rfl, RanJ.first hu (hr.jrn (hJ.below hu) hXJ)⟩)
  obtain ⟨w1, hmk, ho1, hb1⟩ : ∃ w1, (Instr.makeSlice 24 (.int .i64 512) (.int .i64 512)).run Tryz.prog w.drew = .ok (.slice (some ⟨w.heap.size, 0, none⟩) 512 512) w1 ∧ Own w1 w.heap.size (.slice (some ⟨w.heap.size, 0, none⟩) 512 512) Z512 ∧ Below w.heap.size w w1 :=
    ⟨_, run_make_bytes w.drew 512 (by omega), Own.made w.drew 512 (by unfold maxLen; omega), (Below.refl w.heap.size w).drew.alloc (Nat.le_refl _) _⟩
  have HO1 := hide ho1
  have HB1 := hide hb1
  have d0 : w.drew.cell? ⟨J, 1, none⟩ = some (.int .i64 (p : Int)) := hJ.cells.2.1
  have d1 : w1.cell? ⟨J, 1, none⟩ = some (.int .i64 (p : Int)) := (hJ.below hb1).cells.2.1
  clear h hJ hXJ ho1 hb1
  go_enter Tryz.func53, Tryz.ntmps53
  go_wp2_with fail
  refine HNo.out.mono ?_
  rintro e9 w9 ⟨rfl, h9⟩
  rw [h9]
  clear h9 w9
  go_wp2_with fail
  go_region_held3 (fun u => u.cell? ⟨J, 1, none⟩ = some (.int .i64 (p : Int))) (first | go_keep | exact HK.out) (first
    | (go_at_call 50; refine ((HSet _ _ HB1.out HO1.out).out).mono ?_; rintro e9 w10 ⟨rfl, hr10⟩; have HK := hide hr10.jr.cells.2.1; have HR10 := hide hr10; clear hr10))
  all_goals
    go_wp2_with fail
    go_ret
    exact ⟨rfl, HR10.out⟩

/-- Where records and their bytes lie, apart from a file. -/
structure ApJ (X : Nat → Prop) (a : Option Addr) (R : List JR) : Prop where
  row : R ≠ [] → ∀ x, a = some x → ¬ X x.block
  bytes : ∀ r ∈ R, r.b ≠ [] → ∀ x, r.a = some x → ¬ X x.block

theorem LiesJ.chg {X : Nat → Prop} {w w' : World} {a : Option Addr} {R : List JR} (h : LiesJ w a R) (hc : Chg X w w') (hx : ApJ X a R) : LiesJ w' a R := by
  rcases h with rfl | ⟨b, off, rfl, hlt, hcc⟩
  · exact Or.inl rfl
  · by_cases hR : R = []
    · exact Or.inl hR
    have hb := hx.row hR _ rfl
    refine Or.inr ⟨b, off, rfl, Nat.lt_of_lt_of_le hlt hc.size, fun k hk => ⟨hc.cell (hcc k hk).1 hb, hc.cell (hcc k hk).2.1 hb, ?_⟩⟩
    have hs := (hcc k hk).2.2
    refine ⟨hs.le, hs.max, hs.none, ?_⟩
    by_cases hbn : (R.getD k JR.z).b = []
    · rw [hbn]; exact Lies.nil _ _
    · refine hs.lies.chg hc (fun x hx9 => hx.bytes _ ?_ hbn x hx9)
      have : R.getD k JR.z = R[k] := by simp [hk]
      rw [this]
      exact List.getElem_mem _

theorem ApJ.more {X X' : Nat → Prop} {w : World} {a : Option Addr} {R : List JR} (h : ApJ X a R) (hl : LiesJ w a R) (hx : ∀ q, X' q → X q ∨ w.heap.size ≤ q) : ApJ X' a R := by
  have hlt : ∀ b, b < w.heap.size → ¬ X b → ¬ X' b := fun b h1 h2 h3 => by
    rcases hx b h3 with h | h
    · exact h2 h
    · omega
  rcases hl with rfl | ⟨b, off, rfl, hb, hcc⟩
  · exact ⟨fun h => absurd rfl h, fun r hr => by cases hr⟩
  · refine ⟨fun hR x hx9 => ?_, fun r hr hne x hx9 => ?_⟩
    · cases hx9
      exact hlt b hb (h.row hR _ rfl)
    · obtain ⟨k, hk, rfl⟩ := List.mem_iff_getElem.1 hr
      have hs := (hcc k hk).2.2
      have e : R.getD k JR.z = R[k] := by simp [hk]
      rw [e] at hs
      refine hlt _ ?_ (h.bytes _ hr hne x hx9)
      rcases hs.lies with h0 | ⟨b', o', e', hb', _⟩
      · exact absurd h0 hne
      · rw [hx9] at e'
        cases e'
        exact hb'

/-- The writes that records are. -/
def recO (D : List RD) : List AO := D.map (fun r => .wr r.1.toNat r.2)
/-- The operations of an apply. -/
def appO (p : Nat) (D : List RD) : List AO := recO D ++ ([.fl] ++ clrO p)

theorem recO_take (D : List RD) (k : Nat) (hk : k < D.length) (z : RD) : recO (D.take (k + 1)) = recO (D.take k) ++ [.wr (D.getD k z).1.toNat (D.getD k z).2] := by
  rw [take_get D k hk z]
  simp [recO]

theorem recO_cost (D : List RD) : costs (recO D) ≤ lenD D := by
  induction D with
  | nil => simp [recO, costs]
  | cons r D ih =>
    simp only [recO, costs, lenD, List.map_cons, List.sum_cons, AO.cost] at *
    omega
end Go.Proofs.YtgmifbknmjdemaaGreat.Oct
