/- An entry is a partition: it is added to the object. -/
import Derived.Test.YtjpdfchdgphdoaaGreatDoorPMbh
namespace Go.Proofs.YtjpdfchdgphdoaaGreatDoor.Oct
open Go.RowKit

/-- How a step of the object ends. -/
def Ends (K : Nat → Prop) (R : Nat) (dv : Value) (r : Except Int MS) (e : Ending) (w' : World) : Prop :=
  (∃ st' vP' vH', r = .ok st' ∧ e = .returned (.int .i64 0) ∧ Rdg w' K R dv vP' vH' st') ∨ (∃ c, r = .error c ∧ ¬ c = 0 ∧ e = .returned (.int .i64 c))

/-- The same, by the number that is answered. -/
def EndC (K : Nat → Prop) (R : Nat) (dv : Value) (r : Except Int MS) (c : Int) (w' : World) : Prop :=
  (∃ st' vP' vH', r = .ok st' ∧ c = 0 ∧ Rdg w' K R dv vP' vH' st') ∨ (r = .error c ∧ ¬ c = 0)

theorem Ends.form {K : Nat → Prop} {R : Nat} {dv : Value} {r : Except Int MS} {e : Ending} {w' : World} (h : Ends K R dv r e w') : ∃ c, e = .returned (.int .i64 c) ∧ EndC K R dv r c w' := by
  rcases h with ⟨st', vP', vH', h1, h2, h3⟩ | ⟨c, h1, h2, h3⟩
  · exact ⟨0, h2, Or.inl ⟨st', vP', vH', h1, rfl, h3⟩⟩
  · exact ⟨c, h3, Or.inr ⟨h1, h2⟩⟩

theorem EndC.ends {K : Nat → Prop} {R : Nat} {dv : Value} {r : Except Int MS} {c : Int} {w' : World} (h : EndC K R dv r c w') : Ends K R dv r (.returned (.int .i64 c)) w' := by
  rcases h with ⟨st', vP', vH', h1, rfl, h3⟩ | ⟨h1, h2⟩
  · exact Or.inl ⟨st', vP', vH', h1, rfl, h3⟩
  · exact Or.inr ⟨c, h1, h2, rfl⟩

theorem new4 (w : World) (t : TypeId) (x y z u : Value) : ∀ (j : Nat) (v : Value), [x, y, z, u][j]? = some v → (w.alloc (.cells #[x, y, z, u] t)).cell? ((⟨w.heap.size, 0, none⟩ : Addr).add j) = some v := by
  intro j v hj
  have h := Blk.new w #[x, y, z, u] t
  rw [Go.WideShapes.add_plain, Nat.zero_add]
  exact h.cell j v (by simpa using hj)

set_option maxHeartbeats 8000000 in
set_option maxRecDepth 100000 in
theorem add_any (w : World) (K : Nat → Prop) (R : Nat) (dv vP vH : Value) (st : MS) (h : Rdg w K R dv vP vH st) (hP : st.P.length ≤ 1000000) (slot x1 x2 x3 o p q : Int) (hf : Fit3 (x1, x2, x3)) (ho : -500000000000 ≤ o ∧ o ≤ 500000000000) :
    Calls Tryz.prog 78 #[.pointer (some ⟨R, 0, none⟩), .int .i64 slot, .agg #[.int .i64 x1, .int .i64 x2, .int .i64 x3], .int .i64 o, .agg #[.int .i64 p, .int .i64 q]] w fun e w' => Ends K R dv (addM st slot (x1, x2, x3) o p q) e w' ∧ Kept K w w' := by
  obtain ⟨_, hf2, hf3⟩ := hf
  dsimp only at hf2 hf3
  have hw1 : IntKind.i64.wrap (o + x2) = o + x2 := by rw [IntKind.wrap_i64]; omega
  have HS := fun u => hide (span_any (o + x2) x3 u (by omega) (by omega))
  have HAd : Hid (addM st slot (x1, x2, x3) o p q = if p ≤ (o + x2) * 512 ∧ (o + x2 + x3) * 512 ≤ q then (if st.P.length = 32 then .error 3 else .ok { st with P := st.P ++ [((o + x2) * 512, (o + x2 + x3) * 512, x1, slot)] }) else .error 4) := hide rfl
  obtain ⟨A, hA⟩ : ∃ A, A = (o + x2) * 512 := ⟨_, rfl⟩
  obtain ⟨B, hB⟩ : ∃ B, B = (o + x2 + x3) * 512 := ⟨_, rfl⟩
  rw [← hA, ← hB] at HAd
  rw [← hA, ← hB] at HS
  have HI := fun u => hide (inside_any A B p q u)
  obtain ⟨w0, hw0⟩ : ∃ w0, w0 = (w.alloc (.cells #[.int .i64 x1, .int .i64 x2, .int .i64 x3] 128)).alloc (.cells #[.int .i64 p, .int .i64 q] 24) := ⟨_, rfl⟩
  have hb0 : Below w.heap.size w w0 := by rw [hw0]; exact ((Below.refl _ _).alloc (Nat.le_refl _) _).alloc (by simp) _
  have hx0 : Blk w0 w.heap.size #[.int .i64 x1, .int .i64 x2, .int .i64 x3] 128 := by rw [hw0]; exact (Blk.new _ _ _).below ((Below.refl _ _).alloc (Nat.le_refl _) _)
  have hp0 : Blk w0 (w.heap.size + 1) #[.int .i64 p, .int .i64 q] 24 := by
    rw [hw0]
    have := Blk.new (w.alloc (.cells #[.int .i64 x1, .int .i64 x2, .int .i64 x3] 128)) #[.int .i64 p, .int .i64 q] 24
    simpa using this
  have HR0 := hide (h.below hb0)
  have HK0 : Hid (Kept K w w0) := hide (Kept.of_below hb0)
  have HX0 := hide hx0
  have HP0 := hide hp0
  have HW0 := hide hw0
  clear hA hB h hw0 hb0 hx0 hp0
  go_enter Tryz.func78, Tryz.ntmps78
  go_wp2_with fail
  rw [← HW0.out]
  refine ((HS _).out).mono ?_
  rintro e9 w1 ⟨rfl, hb1⟩
  obtain ⟨w2, hw2⟩ : ∃ w2, w2 = w1.alloc (.cells #[.int .i64 A, .int .i64 B] 24) := ⟨_, rfl⟩
  have hb2 : Below w0.heap.size w0 w2 := by rw [hw2]; exact hb1.alloc hb1.size _
  have ha2 : Blk w2 w1.heap.size #[.int .i64 A, .int .i64 B] 24 := by rw [hw2]; exact Blk.new _ _ _
  have hx2 := HX0.out.below hb2
  have hp2 := HP0.out.below hb2
  have hr2 := HR0.out.below hb2
  have HK2 := hide (HK0.out.trans (Kept.of_below hb2))
  have hp1 := HP0.out.below hb1
  have hp1' := hp1.below ((Below.refl _ _).alloc (Nat.le_refl _) (.cells #[.int .i64 A, .int .i64 B] 24))
  have p0 : (w1.alloc (.cells #[.int .i64 A, .int .i64 B] 24)).cell? ⟨w.heap.size + 1, 0, none⟩ = some (.int .i64 p) := hp1'.cell 0 _ rfl
  have p1 : (w1.alloc (.cells #[.int .i64 A, .int .i64 B] 24)).cell? ⟨w.heap.size + 1, 1, none⟩ = some (.int .i64 q) := hp1'.cell 1 _ rfl
  have HP1 : Hid (w.heap.size + 1 ≠ w1.heap.size ∧ w.heap.size ≠ w1.heap.size) := hide (by have := hp1.lt; omega)
  have hne1 := HP1.out.1
  have HA2 := hide ha2
  have HX2 := hide hx2
  have HR2 := hide hr2
  have HW2 := hide hw2
  clear hb1 hb2 ha2 hx2 hp2 hr2 hw2 hp1 hp1'
  go_wp2_with fail
  rw [← HW2.out]
  refine ((HI _).out).mono ?_
  rintro e9 w3 ⟨rfl, hb3⟩
  have HK3 := hide (HK2.out.trans (Kept.of_below hb3))
  have hr3 := HR2.out.below hb3
  have hx3 := HX2.out.below hb3
  have ha3 := HA2.out.below hb3
  obtain ⟨vp, cp, rfl, _, _, _, _⟩ := hr3.p.form
  have c0 := hr3.cell.1
  by_cases hin : p ≤ A ∧ B ≤ q
  · have hbn : (decide (p ≤ A) && decide (B ≤ q)) = true := by simp [hin]
    rw [hbn]
    by_cases h32 : st.P.length = 32
    · have HO : Hid (addM st slot (x1, x2, x3) o p q = .error 3) := hide (by rw [HAd.out, if_pos hin, if_pos h32])
      have h32' : ((st.P.length : Int) == 32) = true := by simp; omega
      clear hr3 hx3 ha3 hb3
      go_wp2_with fail
      go_ret
      exact ⟨Or.inr ⟨3, HO.out, by decide, rfl⟩, HK3.out⟩
    · have HO : Hid (addM st slot (x1, x2, x3) o p q = .ok { st with P := st.P ++ [(A, B, x1, slot)] }) := hide (by rw [HAd.out, if_pos hin, if_neg h32])
      have h32' : ((st.P.length : Int) == 32) = false := by simp; omega
      obtain ⟨i1, hi, hz0, hz1, hz2⟩ := info_parts infoP
      have HCA : Hid (Chg (fun _ => False) w3 (w3.drew.alloc (.cells #[.int .i64 A, .int .i64 B, .int .i64 x1, .int .i64 slot] 74))) := hide ((Chg.refl _ _).drew.alloc _)
      have HR5 := hide (hr3.chg HCA.out (fun h => h) (fun _ _ h => h) (fun _ _ h => h))
      have c1 : w3.drew.cell? ⟨R, 0, none⟩ = some (.slice vp st.P.length cp) := c0
      have y0 : w3.drew.cell? ⟨w1.heap.size, 0, none⟩ = some (.int .i64 A) := ha3.cell 0 _ rfl
      have y1 : w3.drew.cell? ⟨w1.heap.size, 1, none⟩ = some (.int .i64 B) := ha3.cell 1 _ rfl
      have y2 : w3.drew.cell? ⟨w.heap.size, 0, none⟩ = some (.int .i64 x1) := hx3.cell 0 _ rfl
      have e2 : (w3.alloc (.cells #[.int .i64 A, .int .i64 B, .int .i64 x1, .int .i64 slot] 74)).drew.cell? ⟨R, 0, none⟩ = some (.slice vp st.P.length cp) := HR5.out.cell.1
      have e3 : (w3.alloc (.cells #[.int .i64 A, .int .i64 B, .int .i64 x1, .int .i64 slot] 74)).cell? ⟨R, 0, none⟩ = some (.slice vp st.P.length cp) := HR5.out.cell.1
      have HKH : Hid (some R ≠ (Value.slice vp st.P.length cp).ownBlock) := hide (fun e => (hr3.kP _ e.symm).2.1 rfl)
      clear hr3 hx3 ha3 hb3
      go_wp2_with fail
      go_region_law (refine step_append_rowM (by rfl) (.tmp 35) (.tmp 41) 54 (by rfl) 0 74 i1 (.agg #[.int .i64 0, .int .i64 0, .int .i64 0, .int .i64 0]) 4 32 Tryz.underlying54 hi hz0 hz1 hz2 (by rfl) (by decide) (.slice vp st.P.length cp) st.P.length (st.P.flatMap encPm) (by rfl) HR5.out.p ⟨w3.heap.size, 0, none⟩ 1 1 [.int .i64 A, .int .i64 B, .int .i64 x1, .int .i64 slot] (by rfl) (by rfl) (by exact new4 w3.drew _ _ _ _ _) (by simp [Value.oneCell']) (by unfold maxLen; omega) (by omega) (Nat.zero_le _) ?_; intro v5 w5 ho5 hg5 hw5; obtain ⟨g5, cap5, rfl⟩ := row_succM ho5; have HO5 := hide ho5; have HG5 := hide hg5; have HW5 := hide hw5; have d5 := HG5.out.cell (a := ⟨R, 0, none⟩) HR5.out.cell.1 HKH.out; have y5 : w5.frozen? ⟨R, 0, none⟩ = false := (World.frozen?_of_block (a := ⟨R, 0, none⟩) (HG5.out.block R HR5.out.blk.lt HKH.out)).trans (HR5.out.blk.frozen 0); clear ho5 hg5 hw5)
      all_goals
        obtain ⟨hr6, hk6⟩ := HR5.out.putP _ (A, B, x1, slot) HO5.out HG5.out HW5.out
        go_wp2_with fail
        go_ret
        exact ⟨Or.inl ⟨_, _, _, HO.out, rfl, hr6⟩, HK3.out.trans (((Chg.mono HCA.out (fun _ _ h => h.elim)) : Kept K _ _).trans hk6)⟩
  · have HO : Hid (addM st slot (x1, x2, x3) o p q = .error 4) := hide (by rw [HAd.out, if_neg hin])
    have hbn : (decide (p ≤ A) && decide (B ≤ q)) = false := by simpa using hin
    rw [hbn]
    clear hr3 hx3 ha3 hb3
    go_wp2_with fail
    go_ret
    exact ⟨Or.inr ⟨4, HO.out, by decide, rfl⟩, HK3.out⟩
end Go.Proofs.YtjpdfchdgphdoaaGreatDoor.Oct
