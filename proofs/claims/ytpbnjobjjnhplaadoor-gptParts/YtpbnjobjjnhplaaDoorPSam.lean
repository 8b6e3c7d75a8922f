/- Same: are two lists the same? -/
import Derived.Test.YtpbnjobjjnhplaaDoorPRndNrrInw
import Derived.Laws.StructEq
namespace Go.Proofs.YtpbnjobjjnhplaaDoor.Oct
open Go.RowKit

theorem eqf_E (w : World) (x1 x2 y1 y2 : Int) : (Op.equalIn 10000 59 (.agg #[.int .i64 x1, .int .i64 x2]) (.agg #[.int .i64 y1, .int .i64 y2])).run Tryd.prog w = .ok (decide ((x1, x2) = (y1, y2))) w := by
  rw [run_equalIn_agg w 9999 59 _ _ (by kernel_rfl) (by kernel_rfl)]
  have hf : (Tryd.prog.fieldsOf 59).toList.map (fun f => (f.name, f.type, f.offset)) = [("From", 2, 0), ("To", 2, 1)] := by kernel_rfl
  obtain ⟨fs, hfs⟩ : ∃ fs, fs = (Tryd.prog.fieldsOf 59).toList := ⟨_, rfl⟩
  rw [← hfs] at hf ⊢
  clear hfs
  have hl : fs.length = 2 := by simpa using congrArg List.length hf
  obtain ⟨f, g, rfl⟩ : ∃ f g, fs = [f, g] := by match fs, hl with | [f, g], _ => exact ⟨f, g, rfl⟩
  simp only [List.map_cons, List.map_nil, List.cons.injEq, Prod.mk.injEq, and_true] at hf
  obtain ⟨⟨f1, f2, f3⟩, g1, g2, g3⟩ := hf
  have hpx : ∀ (i : Nat) (x y : Int), i = 0 ∨ i = 1 → (part 2 #[.int .i64 x, .int .i64 y] i).run Tryd.prog w = .ok (.int .i64 (if i = 0 then x else y)) w := by
    rintro i x y (rfl | rfl)
    · go_simp
    · go_simp
  simp only [Op.eqFields, f1, f2, f3, g1, g2, g3, Sem.run_bind, Sem.run_ite]
  simp [hpx, run_equalIn_int, Tryd.underlying2, Result.andThen]
  by_cases h1 : x1 = y1 <;> by_cases h2 : x2 = y2 <;> simp [h1, h2]

theorem neq_E (w : World) (x y : Int × Int) (b : Bool) (hb : decide (x = y) = b) : (binOp .neq 59 (.agg #[.int .i64 x.1, .int .i64 x.2]) (.agg #[.int .i64 y.1, .int .i64 y.2])).run Tryd.prog w = .ok (.bool (!b)) w := by
  rw [run_neq_struct, eqf_E, ← hb]
  rfl

theorem guard_E (w : World) (op : BinOp) (p q : Operand) (xs ys : Array Value) : (eqGuard op 59 p q (.agg xs) (.agg ys)).run Tryd.prog w = .ok () w := run_eqGuard_agg w op _ _ _ _ _ (by kernel_rfl)

set_option maxHeartbeats 2000000 in
set_option maxRecDepth 100000 in
theorem same_any (w : World) (a b : Option Addr) (ca cb : Nat) (A B : List (Int × Int)) (hA : LiesE w a A) (hB : LiesE w b B) (hl : A.length ≤ 8796093022208) :
    Calls Tryd.prog 19 #[.slice a A.length ca, .slice b B.length cb] w fun e w' => e = .returned (.bool (decide (A = B))) ∧ Below w.heap.size w w' := by
  by_cases hlen : A.length = B.length
  case neg =>
    have hne : ¬ (A = B) := fun e => hlen (by rw [e])
    have hd : decide (A = B) = false := by simpa using hne
    rw [hd]
    have hi : ¬ ((A.length : Int) = (B.length : Int)) := by omega
    clear hne hd hA hB
    go_enter Tryd.func19, Tryd.ntmps19
    go_wp2_with fail
    go_ret
    exact ⟨rfl, Below.refl _ _⟩
  case pos =>
    obtain ⟨n, hn⟩ : ∃ n, A.length = n := ⟨_, rfl⟩
    have HnB : Hid (B.length = n) := hide (by omega)
    have HnA := hide hn
    rw [HnB.out, hn]
    have hnl : n ≤ 8796093022208 := by omega
    clear hlen hl hn
    go_enter Tryd.func19, Tryd.ntmps19
    go_wp2_with fail
    go_loopw [5] (fun i wr => ∃ k : Nat, k ≤ n ∧ i = .int .i64 k ∧ (∀ j, j < k → A.getD j (0, 0) = B.getD j (0, 0)) ∧ Below w.heap.size w wr) (fun i _ => n - (intOf i).toNat)
    case atStart => exact ⟨0, by omega, by simp, fun j hj => absurd hj (by omega), Below.refl _ _⟩
    case round =>
      obtain ⟨k, hk, rfl, heq, hbel⟩ := hrel
      have HE := hide heq
      have HB := hide hbel
      by_cases hlt : k < n
      · rcases hA.below hbel with hnil | ⟨ba, oa, rfl, hba, hca⟩
        · have := HnA.out
          rw [hnil] at this
          simp at this
          omega
        rcases hB.below hbel with hnil | ⟨bb, ob, rfl, hbb, hcb⟩
        · have := HnB.out
          rw [hnil] at this
          simp at this
          omega
        obtain ⟨p0, p1⟩ := hca k (by rw [HnA.out]; exact hlt)
        obtain ⟨q0, q1⟩ := hcb k (by rw [HnB.out]; exact hlt)
        have hk0 : (0 : Int) ≤ (k : Int) := by omega
        have hk1 : (k : Int) < (n : Int) := by omega
        obtain ⟨x, hx⟩ : ∃ x, x = A.getD k (0, 0) := ⟨_, rfl⟩
        obtain ⟨y, hy⟩ : ∃ y, y = B.getD k (0, 0) := ⟨_, rfl⟩
        rw [← hx] at p0 p1
        rw [← hy] at q0 q1
        obtain ⟨x1, x2⟩ := x
        obtain ⟨y1, y2⟩ := y
        dsimp only at p0 p1 q0 q1
        have HX := hide hx
        have HY := hide hy
        have hgd := fun (u : World) (p q : Operand) => guard_E u .neq p q #[.int .i64 x1, .int .i64 x2] #[.int .i64 y1, .int .i64 y2]
        clear hx hy hca hcb heq hbel hA hB
        by_cases hxy : (x1, x2) = (y1, y2)
        · have hq := fun u : World => neq_E u (x1, x2) (y1, y2) true (by simpa using hxy)
          dsimp only [Bool.not_true] at hq
          go_wp2_with fail
          go_quiet (fail)
          go_wp2_with fail
          go_roundw
          case rel =>
            refine ⟨k + 1, by omega, by go_num, fun j hj => ?_, below_ahead HB.out _⟩
            by_cases e : j = k
            · rw [e, ← HX.out, ← HY.out]; exact hxy
            · exact HE.out j (by omega)
          case measure => simp [intOf]; omega
        · have hq := fun u : World => neq_E u (x1, x2) (y1, y2) false (by simpa using hxy)
          dsimp only [Bool.not_false] at hq
          have HN : Hid (decide (A = B) = false) := hide (by
            simp only [decide_eq_false_iff_not]
            intro e
            subst e
            exact hxy (HX.out.trans HY.out.symm))
          go_wp2_with fail
          go_quiet (fail)
          go_wp2_with fail
          go_ret
          rw [HN.out]
          exact ⟨rfl, below_ahead HB.out _⟩
      · obtain rfl : k = n := by omega
        have HY : Hid (decide (A = B) = true) := hide (by
          simp only [decide_eq_true_eq]
          apply List.ext_getElem (by rw [HnA.out, HnB.out])
          intro j h1 h2
          have := heq j (by rw [← HnA.out]; exact h1)
          simpa [h1, h2] using this)
        clear heq hA hB
        go_wp2_with fail
        go_ret
        rw [HY.out]
        exact ⟨rfl, HB.out⟩

end Go.Proofs.YtpbnjobjjnhplaaDoor.Oct
