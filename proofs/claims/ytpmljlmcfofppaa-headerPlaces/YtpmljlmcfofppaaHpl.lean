/- For every header the statement HeaderPlaces answers true and changes nothing that was there: where the parts stand, and how large they are, is what the document says. No condition. -/
import Derived.Test.YtpmljlmcfofppaaRows
import Derived.Test.YtpmljlmcfofppaaHdl
import Derived.Test.YtpmljlmcfofppaaHdw
import Derived.Test.YtpmljlmcfofppaaHdo
import Derived.Test.YtpmljlmcfofppaaBag
import Derived.Laws.StructEq
namespace Go.Proofs.Ytpmljlmcfofppaa.Oct
open Go.RowKit Go.ChangeShapes Go.WideShapes Go.ChangeAt

theorem Stay.box5 {u : World} {R : Nat} {b s o j : Int} {k : Bool} {t : TypeId} (h : Stay u R #[.int .i64 b, .int .i64 s, .int .i64 o, .int .i64 j, .bool k] t) : HBox u R b s o j k :=
  ⟨h.cell 0 _ rfl, h.cell 1 _ rfl, h.cell 2 _ rfl, h.cell 3 _ rfl, h.cell 4 _ rfl⟩

theorem eqf_X (w : World) (x y : Int) : (Op.equalIn 10000 28 (.agg #[.int .i64 x, .int .i64 y]) (.agg #[.int .i64 x, .int .i64 y])).run Try.prog w = .ok true w := by
  rw [run_equalIn_agg w 9999 28 _ _ (by kernel_rfl) (by kernel_rfl)]
  have hf : (Try.prog.fieldsOf 28).toList.map (fun f => (f.name, f.type, f.offset)) = [("From", 2, 0), ("To", 2, 1)] := by kernel_rfl
  obtain ⟨fs, hfs⟩ : ∃ fs, fs = (Try.prog.fieldsOf 28).toList := ⟨_, rfl⟩
  rw [← hfs] at hf ⊢
  clear hfs
  have hl : fs.length = 2 := by simpa using congrArg List.length hf
  obtain ⟨f, g, rfl⟩ : ∃ f g, fs = [f, g] := by match fs, hl with | [f, g], _ => exact ⟨f, g, rfl⟩
  simp only [List.map_cons, List.map_nil, List.cons.injEq, Prod.mk.injEq, and_true] at hf
  obtain ⟨⟨f1, f2, f3⟩, g1, g2, g3⟩ := hf
  have p0 : (part 2 #[.int .i64 x, .int .i64 y] 0).run Try.prog w = .ok (.int .i64 x) w := by go_simp
  have p1 : (part 2 #[.int .i64 x, .int .i64 y] 1).run Try.prog w = .ok (.int .i64 y) w := by go_simp
  simp only [Op.eqFields, f1, f2, f3, g1, g2, g3, Sem.run_bind, Sem.run_ite]
  simp [p0, p1, run_equalIn_int, Try.underlying2, Result.andThen]

theorem eql_X (w : World) (x y : Int) : (binOp .eql 28 (.agg #[.int .i64 x, .int .i64 y]) (.agg #[.int .i64 x, .int .i64 y])).run Try.prog w = .ok (.bool true) w := by
  rw [run_eql_struct, eqf_X]
  rfl

theorem guard_X (w : World) (op : BinOp) (p q : Operand) (xs ys : Array Value) : (eqGuard op 28 p q (.agg xs) (.agg ys)).run Try.prog w = .ok () w := run_eqGuard_agg w op _ _ _ _ _ (by kernel_rfl)

theorem Stay.other2 {u : World} {R B i : Nat} {v : Value} {cs : Array Value} {t : TypeId} (h : Stay u R cs t) (hne : R ≠ B) : Stay (u.setCell ⟨B, i, none⟩ v) R cs t :=
  (heap_setCell_other u ⟨B, i, none⟩ R v hne).trans h

/-- A place that was made, if it was. -/
def Pz (W : World) (base : Nat) (l : Bool) (q : Value) : Prop := l = true → ∃ B, q = .pointer (some ⟨B, 0, none⟩) ∧ base ≤ B ∧ Stay W B #[.int .i64 0, .int .i64 0] 28

theorem Pz.below {W W' : World} {base : Nat} {l : Bool} {q : Value} (h : Pz W base l q) (hb : Below W.heap.size W W') : Pz W' base l q := fun hl => by
  obtain ⟨B, h1, h2, h3⟩ := h hl
  exact ⟨B, h1, h2, h3.below hb⟩

theorem Pz.new (W : World) (base : Nat) (hb : base ≤ W.heap.size) : Pz (W.alloc (.cells #[.int .i64 0, .int .i64 0] 28)) base true (.pointer (some ⟨W.heap.size, 0, none⟩)) :=
  fun _ => ⟨_, rfl, hb, heap_alloc_new W _⟩

/-- Two of them are two. -/
def Apt (l m : Bool) (q r : Value) : Prop := l = true → m = true → q ≠ r

theorem Pz.apt {W : World} {base : Nat} {l m : Bool} {q : Value} (h : Pz W base l q) : Apt l m q (.pointer (some ⟨W.heap.size, 0, none⟩)) := fun hl _ e => by
  obtain ⟨B, h1, _, h3⟩ := h hl
  have := (Array.getElem?_eq_some_iff.1 h3).1
  rw [h1, Value.pointer.injEq, Option.some.injEq, Addr.mk.injEq] at e
  omega

theorem Apt.symm {l m : Bool} {q r : Value} (h : Apt l m q r) : Apt m l r q := fun h1 h2 e => h h2 h1 e.symm

structure Four (W : World) (base : Nat) (l5 l6 l7 l8 : Bool) (q5 q6 q7 q8 : Value) : Prop where
  z5 : Pz W base l5 q5
  z6 : Pz W base l6 q6
  z7 : Pz W base l7 q7
  z8 : Pz W base l8 q8
  a56 : Apt l5 l6 q5 q6
  a57 : Apt l5 l7 q5 q7
  a58 : Apt l5 l8 q5 q8
  a67 : Apt l6 l7 q6 q7
  a68 : Apt l6 l8 q6 q8
  a78 : Apt l7 l8 q7 q8

theorem Four.below {W W' : World} {base : Nat} {l5 l6 l7 l8 : Bool} {q5 q6 q7 q8 : Value} (h : Four W base l5 l6 l7 l8 q5 q6 q7 q8) (hb : Below W.heap.size W W') : Four W' base l5 l6 l7 l8 q5 q6 q7 q8 :=
  ⟨h.z5.below hb, h.z6.below hb, h.z7.below hb, h.z8.below hb, h.a56, h.a57, h.a58, h.a67, h.a68, h.a78⟩

/-- What stays while places are made. -/
structure Plc (w w2 : World) (b s o j : Int) (k : Bool) (W : World) : Prop where
  below : Below w.heap.size w W
  h : Stay W w.heap.size #[.int .i64 b, .int .i64 s, .int .i64 o, .int .i64 j, .bool k] 23
  r : Stay W w2.heap.size #[.int .i64 b, .int .i64 s, .int .i64 o, .int .i64 j, .bool k] 24

theorem Plc.step {w w2 W W' : World} {b s o j : Int} {k : Bool} (h : Plc w w2 b s o j k W) (hb : Below W.heap.size W W') : Plc w w2 b s o j k W' :=
  ⟨h.below.trans (hb.mono h.below.size), h.h.below hb, h.r.below hb⟩

set_option maxHeartbeats 4000000 in
theorem hplaces_walk (b s o j : Int) (k : Bool) (w : World) : Calls Try.prog 3 #[.agg #[.int .i64 b, .int .i64 s, .int .i64 o, .int .i64 j, .bool k]] w fun e w' => e = .returned (.bool true) ∧ Below w.heap.size w w' := by
  have HSh : Hid (Stay (w.alloc (.cells #[.int .i64 b, .int .i64 s, .int .i64 o, .int .i64 j, .bool k] 23)) w.heap.size #[.int .i64 b, .int .i64 s, .int .i64 o, .int .i64 j, .bool k] 23) := hide (heap_alloc_new w (.cells #[.int .i64 b, .int .i64 s, .int .i64 o, .int .i64 j, .bool k] 23))
  have HB := hide ((Below.refl w.heap.size w).alloc (Nat.le_refl _) (.cells #[.int .i64 b, .int .i64 s, .int .i64 o, .int .i64 j, .bool k] 23))
  obtain ⟨c0, c1, c2, c3, c4⟩ := HSh.out.box5
  have HL := fun u => hide (laid_any u)
  have HO := fun u => hide (of_any b s o j k u)
  have HCl := fun u => hide (cluster_any b s o j k u)
  have HRc := fun u => hide (refcluster_any b s o j k u)
  have HP1 := fun u => hide (JournalAt_any b s o j k u)
  have HP2 := fun u => hide (RefsAt_any b s o j k u)
  have HP3 := fun u => hide (SnapsAt_any b s o j k u)
  have HP4 := fun u => hide (TopAt_any b s o j k u)
  have HEn := fun u => hide (entries_any b s o j k u)
  have HGu := fun u => hide (guest_any b s o j k u)
  have HRg := fun u => hide (refguest_any b s o j k u)
  have HFi := fun u => hide (first_any b s o j k u)
  have HLe := fun u => hide (least_any b s o j k u)
  have HRl := fun u => hide (refleast_any b s o j k u)
  have HA1 : ∀ u, Hid (Calls Try.prog 21 #[.agg #[.int .i64 b, .int .i64 s, .int .i64 o, .int .i64 j, .bool k], .int .i64 1] u fun e w' => e = .returned (.int .i64 (Hd.at_ ⟨b, s, o, j, k⟩ 1)) ∧ Below u.heap.size u w') := fun u => hide (refat_any b s o j k 1 (by omega) u)
  have HA2 : ∀ u, Hid (Calls Try.prog 21 #[.agg #[.int .i64 b, .int .i64 s, .int .i64 o, .int .i64 j, .bool k], .int .i64 2] u fun e w' => e = .returned (.int .i64 (Hd.at_ ⟨b, s, o, j, k⟩ 2)) ∧ Below u.heap.size u w') := fun u => hide (refat_any b s o j k 2 (by omega) u)
  have HA3 : ∀ u, Hid (Calls Try.prog 21 #[.agg #[.int .i64 b, .int .i64 s, .int .i64 o, .int .i64 j, .bool k], .int .i64 3] u fun e w' => e = .returned (.int .i64 (Hd.at_ ⟨b, s, o, j, k⟩ 3)) ∧ Below u.heap.size u w') := fun u => hide (refat_any b s o j k 3 (by omega) u)
  have HA4 : ∀ u, Hid (Calls Try.prog 21 #[.agg #[.int .i64 b, .int .i64 s, .int .i64 o, .int .i64 j, .bool k], .int .i64 4] u fun e w' => e = .returned (.int .i64 (Hd.at_ ⟨b, s, o, j, k⟩ 4)) ∧ Below u.heap.size u w') := fun u => hide (refat_any b s o j k 4 (by omega) u)
  have HA5 : ∀ u, Hid (Calls Try.prog 21 #[.agg #[.int .i64 b, .int .i64 s, .int .i64 o, .int .i64 j, .bool k], .int .i64 5] u fun e w' => e = .returned (.int .i64 (Hd.at_ ⟨b, s, o, j, k⟩ 5)) ∧ Below u.heap.size u w') := fun u => hide (refat_any b s o j k 5 (by omega) u)
  have hcc := clN_cases b
  have hA1 := at_bd ⟨b, s, o, j, k⟩ 1
  have hq1 : IntKind.i64.wrap (clN b * Hd.at_ ⟨b, s, o, j, k⟩ 1) = Hd.at_ ⟨b, s, o, j, k⟩ 1 * clN b := by
    rw [Int.mul_comm]
    have h1 : 0 ≤ Hd.at_ ⟨b, s, o, j, k⟩ 1 * clN b := Int.mul_nonneg hA1.1 (by omega)
    have h2 : Hd.at_ ⟨b, s, o, j, k⟩ 1 * clN b ≤ 24579 * 4096 := Int.mul_le_mul hA1.2 (by omega) (by omega) (by omega)
    exact wrI (by omega) (by omega)
  have hA2 := at_bd ⟨b, s, o, j, k⟩ 2
  have hq2 : IntKind.i64.wrap (clN b * Hd.at_ ⟨b, s, o, j, k⟩ 2) = Hd.at_ ⟨b, s, o, j, k⟩ 2 * clN b := by
    rw [Int.mul_comm]
    have h1 : 0 ≤ Hd.at_ ⟨b, s, o, j, k⟩ 2 * clN b := Int.mul_nonneg hA2.1 (by omega)
    have h2 : Hd.at_ ⟨b, s, o, j, k⟩ 2 * clN b ≤ 24579 * 4096 := Int.mul_le_mul hA2.2 (by omega) (by omega) (by omega)
    exact wrI (by omega) (by omega)
  have hA3 := at_bd ⟨b, s, o, j, k⟩ 3
  have hq3 : IntKind.i64.wrap (clN b * Hd.at_ ⟨b, s, o, j, k⟩ 3) = Hd.at_ ⟨b, s, o, j, k⟩ 3 * clN b := by
    rw [Int.mul_comm]
    have h1 : 0 ≤ Hd.at_ ⟨b, s, o, j, k⟩ 3 * clN b := Int.mul_nonneg hA3.1 (by omega)
    have h2 : Hd.at_ ⟨b, s, o, j, k⟩ 3 * clN b ≤ 24579 * 4096 := Int.mul_le_mul hA3.2 (by omega) (by omega) (by omega)
    exact wrI (by omega) (by omega)
  have hA4 := at_bd ⟨b, s, o, j, k⟩ 4
  have hq4 : IntKind.i64.wrap (clN b * Hd.at_ ⟨b, s, o, j, k⟩ 4) = Hd.at_ ⟨b, s, o, j, k⟩ 4 * clN b := by
    rw [Int.mul_comm]
    have h1 : 0 ≤ Hd.at_ ⟨b, s, o, j, k⟩ 4 * clN b := Int.mul_nonneg hA4.1 (by omega)
    have h2 : Hd.at_ ⟨b, s, o, j, k⟩ 4 * clN b ≤ 24579 * 4096 := Int.mul_le_mul hA4.2 (by omega) (by omega) (by omega)
    exact wrI (by omega) (by omega)
  have hA5 := at_bd ⟨b, s, o, j, k⟩ 5
  have hq5 : IntKind.i64.wrap (clN b * Hd.at_ ⟨b, s, o, j, k⟩ 5) = Hd.at_ ⟨b, s, o, j, k⟩ 5 * clN b := by
    rw [Int.mul_comm]
    have h1 : 0 ≤ Hd.at_ ⟨b, s, o, j, k⟩ 5 * clN b := Int.mul_nonneg hA5.1 (by omega)
    have h2 : Hd.at_ ⟨b, s, o, j, k⟩ 5 * clN b ≤ 24579 * 4096 := Int.mul_le_mul hA5.2 (by omega) (by omega) (by omega)
    exact wrI (by omega) (by omega)
  have h8 : IntKind.i64.wrap (Int.tdiv (clN b) 8) = clN b / 8 := by
    rcases hcc with h | h | h | h <;> (rw [h]; rfl)
  generalize hp1 : Hd.at_ ⟨b, s, o, j, k⟩ 1 * clN b = p1 at *
  generalize Hd.at_ ⟨b, s, o, j, k⟩ 1 = a1 at *
  clear hp1 hA1
  generalize hp2 : Hd.at_ ⟨b, s, o, j, k⟩ 2 * clN b = p2 at *
  generalize Hd.at_ ⟨b, s, o, j, k⟩ 2 = a2 at *
  clear hp2 hA2
  generalize hp3 : Hd.at_ ⟨b, s, o, j, k⟩ 3 * clN b = p3 at *
  generalize Hd.at_ ⟨b, s, o, j, k⟩ 3 = a3 at *
  clear hp3 hA3
  generalize hp4 : Hd.at_ ⟨b, s, o, j, k⟩ 4 * clN b = p4 at *
  generalize Hd.at_ ⟨b, s, o, j, k⟩ 4 = a4 at *
  clear hp4 hA4
  generalize hp5 : Hd.at_ ⟨b, s, o, j, k⟩ 5 * clN b = p5 at *
  generalize Hd.at_ ⟨b, s, o, j, k⟩ 5 = a5 at *
  clear hp5 hA5
  generalize Hd.guest ⟨b, s, o, j, k⟩ = g at *
  generalize Hd.least ⟨b, s, o, j, k⟩ = l at *
  generalize he8 : clN b / 8 = e8 at *
  generalize clN b = c at *
  clear hcc he8
  go_enter Try.func3, Try.ntmps3
  go_wp2_with fail
  refine ((HO _).out).mono ?_
  rintro e9 w2 ⟨rfl, hb2⟩
  have HB := hide (HB.out.trans (hb2.mono HB.out.size))
  have HSh := hide (HSh.out.below hb2)
  have hsz2 : w.heap.size < w2.heap.size := (Array.getElem?_eq_some_iff.1 HSh.out).1
  clear hb2 c0 c1 c2 c3 c4
  have HSr : Hid (Stay (w2.alloc (.cells #[.int .i64 b, .int .i64 s, .int .i64 o, .int .i64 j, .bool k] 24)) w2.heap.size #[.int .i64 b, .int .i64 s, .int .i64 o, .int .i64 j, .bool k] 24) := hide (heap_alloc_new w2 (.cells #[.int .i64 b, .int .i64 s, .int .i64 o, .int .i64 j, .bool k] 24))
  have HSh := hide (HSh.out.below ((Below.refl _ _).alloc (Nat.le_refl _) (.cells #[.int .i64 b, .int .i64 s, .int .i64 o, .int .i64 j, .bool k] 24)))
  have HB := hide (HB.out.alloc HB.out.size (.cells #[.int .i64 b, .int .i64 s, .int .i64 o, .int .i64 j, .bool k] 24))
  go_wp2_with fail
  generalize w2.alloc (.cells #[.int .i64 b, .int .i64 s, .int .i64 o, .int .i64 j, .bool k] 24) = w3 at *
  refine ((HRc _).out).mono ?_
  rintro e9 w4 ⟨rfl, hb4⟩
  have HB := hide (HB.out.trans (hb4.mono HB.out.size))
  have HSh := hide (HSh.out.below hb4)
  have HSr := hide (HSr.out.below hb4)
  clear hb4
  obtain ⟨c0, c1, c2, c3, c4⟩ := HSh.out.box5
  obtain ⟨r0, r1, r2, r3, r4⟩ := HSr.out.box5
  go_wp2_with fail
  have HB := hide HB.out.drew
  have HSh := hide HSh.out.drew
  have HSr := hide HSr.out.drew
  have HPl : Hid (Plc w w2 b s o j k w4.drew) := hide ⟨HB.out, HSh.out, HSr.out⟩
  clear c0 c1 c2 c3 c4 r0 r1 r2 r3 r4
  refine wp_region_held_drew (S := (fun u => (u.cell? ⟨w.heap.size, 0, none⟩ = some (.int .i64 b) ∧ u.cell? ⟨w.heap.size, 1, none⟩ = some (.int .i64 s) ∧ u.cell? ⟨w.heap.size, 2, none⟩ = some (.int .i64 o) ∧ u.cell? ⟨w.heap.size, 3, none⟩ = some (.int .i64 j) ∧ u.cell? ⟨w.heap.size, 4, none⟩ = some (.bool k)))) (by kernel_rfl) HSh.out.box5 (fun _ => ?_)
  refine any_take 0 (some 13) (.agg #[.int .i64 b, .int .i64 s, .int .i64 o, .int .i64 j, .bool k]) rfl rfl (by kernel_rfl) (by kernel_rfl) (by kernel_rfl) (fun _ _ _ h => h) (by rfl) HSh.out.box5 ?_ ?_
  · intro w hSw
    obtain ⟨s0, s1, s2, s3, s4⟩ := hSw
    go_simp
  simp only [Act.put, List.setIfInBounds_toArray, List.set_cons_zero, List.set_cons_succ]
  refine any_take 2 (some 15) (.agg #[.int .i64 b, .int .i64 s, .int .i64 o, .int .i64 j, .bool k]) rfl rfl (by kernel_rfl) (by kernel_rfl) (by kernel_rfl) (fun _ _ _ h => h) (by rfl) HSh.out.box5 ?_ ?_
  · intro w hSw
    obtain ⟨s0, s1, s2, s3, s4⟩ := hSw
    go_simp
  simp only [Act.put, List.setIfInBounds_toArray, List.set_cons_zero, List.set_cons_succ]
  refine any_take 4 (some 17) (.agg #[.int .i64 b, .int .i64 s, .int .i64 o, .int .i64 j, .bool k]) rfl rfl (by kernel_rfl) (by kernel_rfl) (by kernel_rfl) (fun _ _ _ h => h) (by rfl) HSh.out.box5 ?_ ?_
  · intro w hSw
    obtain ⟨s0, s1, s2, s3, s4⟩ := hSw
    go_simp
  simp only [Act.put, List.setIfInBounds_toArray, List.set_cons_zero, List.set_cons_succ]
  refine any_take 6 (some 19) (.agg #[.int .i64 b, .int .i64 s, .int .i64 o, .int .i64 j, .bool k]) rfl rfl (by kernel_rfl) (by kernel_rfl) (by kernel_rfl) (fun _ _ _ h => h) (by rfl) HSh.out.box5 ?_ ?_
  · intro w hSw
    obtain ⟨s0, s1, s2, s3, s4⟩ := hSw
    go_simp
  simp only [Act.put, List.setIfInBounds_toArray, List.set_cons_zero, List.set_cons_succ]
  refine any_until (fun u => (u.cell? ⟨w.heap.size, 0, none⟩ = some (.int .i64 b) ∧ u.cell? ⟨w.heap.size, 1, none⟩ = some (.int .i64 s) ∧ u.cell? ⟨w.heap.size, 2, none⟩ = some (.int .i64 o) ∧ u.cell? ⟨w.heap.size, 3, none⟩ = some (.int .i64 j) ∧ u.cell? ⟨w.heap.size, 4, none⟩ = some (.bool k))) (fun (L : Array Bool) (a : Act) (W : World) => ∃ (l1 l3 l5 l7 l8 l9 l10 l11 : Bool) (v14 v16 v18 v20 q5 q6 q7 q8 : Value), L = #[true, l1, true, l3, true, l5, true, l7, l8, l9, l10, l11, false, false, false, false] ∧ a = { tmps := #[.agg #[.int .i64 b, .int .i64 s, .int .i64 o, .int .i64 j, .bool k], .pointer (some ⟨w.heap.size, 0, none⟩), .bool false, .pointer (some ⟨w2.heap.size, 0, none⟩), .int .i64 c, q5, q6, q7, q8, .agg #[.int .i64 b, .int .i64 s, .int .i64 o, .int .i64 j, .bool k], .agg #[.int .i64 b, .int .i64 s, .int .i64 o, .int .i64 j, .bool k], .agg #[.int .i64 b, .int .i64 s, .int .i64 o, .int .i64 j, .bool k], .int .i64 c, .agg #[.int .i64 b, .int .i64 s, .int .i64 o, .int .i64 j, .bool k], v14, .agg #[.int .i64 b, .int .i64 s, .int .i64 o, .int .i64 j, .bool k], v16, .agg #[.int .i64 b, .int .i64 s, .int .i64 o, .int .i64 j, .bool k], v18, .agg #[.int .i64 b, .int .i64 s, .int .i64 o, .int .i64 j, .bool k], v20, undef, undef, undef, undef, undef, undef, undef, undef, undef, undef, undef, undef, undef, undef, undef, undef, undef, undef, undef, undef, undef, undef, undef, undef, undef, undef, undef, undef, undef, undef, undef, undef, undef, undef, undef, undef, undef, undef, undef, undef, undef, undef, undef, undef, undef, undef, undef, undef, undef, undef, undef, undef, undef, undef, undef, undef, undef, undef, undef, undef, undef, undef, undef, undef, undef, undef, undef, undef, undef, undef, undef, undef, undef, undef, undef, undef, undef, undef, undef, undef, undef, undef, undef, undef, undef, undef], defers := [] } ∧
      ((l3 = true → l1 = true) ∧ (l5 = true → l3 = true) ∧ (l7 = true → l5 = true)) ∧ ((l1 = true → v14 = .agg #[.int .i64 p1, .int .i64 p2]) ∧ (l3 = true → v16 = .agg #[.int .i64 p2, .int .i64 p3]) ∧ (l5 = true → v18 = .agg #[.int .i64 p3, .int .i64 p4]) ∧ (l7 = true → v20 = .agg #[.int .i64 p4, .int .i64 p5])) ∧
      Four W w4.heap.size l8 l9 l10 l11 q5 q6 q7 q8 ∧ Plc w w2 b s o j k W ∧ w4.heap.size ≤ W.heap.size) #[true, true, true, true, true, true, true, true, true, true, true, true, false, false, false, false] ?done ?step ?live _ _ _ _ ?start (by kernel_rfl)
  case start =>
    refine ⟨false, false, false, false, false, false, false, false, undef, undef, undef, undef, undef, undef, undef, undef, by kernel_rfl, rfl, ⟨fun h => h, fun h => h, fun h => h⟩, ⟨fun h => (by cases h), fun h => (by cases h), fun h => (by cases h), fun h => (by cases h)⟩, ?_, HPl.out, Nat.le_refl _⟩
    exact ⟨fun h => (by cases h), fun h => (by cases h), fun h => (by cases h), fun h => (by cases h), fun h => (by cases h), fun h => (by cases h), fun h => (by cases h), fun h => (by cases h), fun h => (by cases h), fun h => (by cases h)⟩
  case live =>
    rintro L a W ⟨l1, l3, l5, l7, l8, l9, l10, l11, v14, v16, v18, v20, q5, q6, q7, q8, rfl, rfl, _, _, _, _, _⟩ hL hr
    have hno : ∀ i, i ∉ Region.ready .any _ _ := fun i hi => by rw [hr] at hi; cases hi
    cases l1
    · exact hno 1 (mem_ready.2 ⟨rfl, _, rfl, by simp⟩)
    cases l3
    · exact hno 3 (mem_ready.2 ⟨rfl, _, rfl, by simp⟩)
    cases l5
    · exact hno 5 (mem_ready.2 ⟨rfl, _, rfl, by simp⟩)
    cases l7
    · exact hno 7 (mem_ready.2 ⟨rfl, _, rfl, by simp⟩)
    cases l8
    · exact hno 8 (mem_ready.2 ⟨rfl, _, rfl, by simp⟩)
    cases l9
    · exact hno 9 (mem_ready.2 ⟨rfl, _, rfl, by simp⟩)
    cases l10
    · exact hno 10 (mem_ready.2 ⟨rfl, _, rfl, by simp⟩)
    cases l11
    · exact hno 11 (mem_ready.2 ⟨rfl, _, rfl, by simp⟩)
    exact hL rfl
  case step =>
    rintro L a W i ⟨l1, l3, l5, l7, l8, l9, l10, l11, v14, v16, v18, v20, q5, q6, q7, q8, rfl, rfl, ⟨h31, h53, h75⟩, ⟨e1, e3, e5, e7⟩, hF, hP, hsz⟩ hL hi
    obtain ⟨hf, oo, ho, hdep⟩ := mem_ready.1 hi
    have hi16 : i < 16 := (Array.getElem?_eq_some_iff.1 ho).1
    have hcs : i = 0 ∨ i = 1 ∨ i = 2 ∨ i = 3 ∨ i = 4 ∨ i = 5 ∨ i = 6 ∨ i = 7 ∨ i = 8 ∨ i = 9 ∨ i = 10 ∨ i = 11 ∨ i = 12 ∨ i = 13 ∨ i = 14 ∨ i = 15 := by omega
    clear hi hi16
    rcases hcs with rfl | rfl | rfl | rfl | rfl | rfl | rfl | rfl | rfl | rfl | rfl | rfl | rfl | rfl | rfl | rfl
    · cases hf
    · clear hf
      clear hdep ho
      refine wpOp_of rfl (fun K hK => ?_)
      go_simp
      refine ((HP1 _).out).mono ?_
      rintro e9 W' ⟨rfl, hb9⟩
      go_simp
      refine hK _ _ ⟨(hP.step hb9).h.box5, ?_⟩
      exact ⟨true, l3, l5, l7, l8, l9, l10, l11, .agg #[.int .i64 p1, .int .i64 p2], v16, v18, v20, q5, q6, q7, q8, rfl, rfl, ⟨fun _ => rfl, h53, h75⟩, ⟨fun _ => rfl, e3, e5, e7⟩, hF.below hb9, hP.step hb9, Nat.le_trans hsz hb9.size⟩
    · cases hf
    · clear hf
      have Hl : Hid (l1 = true) := hide (by
        have ho2 := Option.some.inj ho
        subst ho2
        exact hdep ⟨1, .chain⟩ (by simp) rfl)
      clear hdep ho
      refine wpOp_of rfl (fun K hK => ?_)
      go_simp
      refine ((HP2 _).out).mono ?_
      rintro e9 W' ⟨rfl, hb9⟩
      go_simp
      refine hK _ _ ⟨(hP.step hb9).h.box5, ?_⟩
      exact ⟨l1, true, l5, l7, l8, l9, l10, l11, v14, .agg #[.int .i64 p2, .int .i64 p3], v18, v20, q5, q6, q7, q8, rfl, rfl, ⟨fun _ => Hl.out, fun _ => rfl, h75⟩, ⟨e1, fun _ => rfl, e5, e7⟩, hF.below hb9, hP.step hb9, Nat.le_trans hsz hb9.size⟩
    · cases hf
    · clear hf
      have Hl : Hid (l3 = true) := hide (by
        have ho2 := Option.some.inj ho
        subst ho2
        exact hdep ⟨3, .chain⟩ (by simp) rfl)
      clear hdep ho
      refine wpOp_of rfl (fun K hK => ?_)
      go_simp
      refine ((HP3 _).out).mono ?_
      rintro e9 W' ⟨rfl, hb9⟩
      go_simp
      refine hK _ _ ⟨(hP.step hb9).h.box5, ?_⟩
      exact ⟨l1, l3, true, l7, l8, l9, l10, l11, v14, v16, .agg #[.int .i64 p3, .int .i64 p4], v20, q5, q6, q7, q8, rfl, rfl, ⟨h31, fun _ => Hl.out, fun _ => rfl⟩, ⟨e1, e3, fun _ => rfl, e7⟩, hF.below hb9, hP.step hb9, Nat.le_trans hsz hb9.size⟩
    · cases hf
    · clear hf
      have Hl : Hid (l5 = true) := hide (by
        have ho2 := Option.some.inj ho
        subst ho2
        exact hdep ⟨5, .chain⟩ (by simp) rfl)
      clear hdep ho
      refine wpOp_of rfl (fun K hK => ?_)
      go_simp
      refine ((HP4 _).out).mono ?_
      rintro e9 W' ⟨rfl, hb9⟩
      go_simp
      refine hK _ _ ⟨(hP.step hb9).h.box5, ?_⟩
      exact ⟨l1, l3, l5, true, l8, l9, l10, l11, v14, v16, v18, .agg #[.int .i64 p4, .int .i64 p5], q5, q6, q7, q8, rfl, rfl, ⟨h31, h53, fun _ => Hl.out⟩, ⟨e1, e3, e5, fun _ => rfl⟩, hF.below hb9, hP.step hb9, Nat.le_trans hsz hb9.size⟩
    · clear hf hdep ho
      have hbz := (Below.refl W.heap.size W).alloc (Nat.le_refl _) (.cells #[.int .i64 0, .int .i64 0] 28)
      refine wpOp_of rfl (fun K hK => ?_)
      go_simp
      refine hK _ _ ⟨(hP.step hbz).h.box5, ?_⟩
      exact ⟨l1, l3, l5, l7, true, l9, l10, l11, v14, v16, v18, v20, .pointer (some ⟨W.heap.size, 0, none⟩), q6, q7, q8, rfl, rfl, ⟨h31, h53, h75⟩, ⟨e1, e3, e5, e7⟩, ⟨Pz.new W w4.heap.size hsz, (hF.z6.below hbz), (hF.z7.below hbz), (hF.z8.below hbz), (Pz.apt hF.z6).symm, (Pz.apt hF.z7).symm, (Pz.apt hF.z8).symm, hF.a67, hF.a68, hF.a78⟩, hP.step hbz, Nat.le_trans hsz hbz.size⟩
    · clear hf hdep ho
      have hbz := (Below.refl W.heap.size W).alloc (Nat.le_refl _) (.cells #[.int .i64 0, .int .i64 0] 28)
      refine wpOp_of rfl (fun K hK => ?_)
      go_simp
      refine hK _ _ ⟨(hP.step hbz).h.box5, ?_⟩
      exact ⟨l1, l3, l5, l7, l8, true, l10, l11, v14, v16, v18, v20, q5, .pointer (some ⟨W.heap.size, 0, none⟩), q7, q8, rfl, rfl, ⟨h31, h53, h75⟩, ⟨e1, e3, e5, e7⟩, ⟨(hF.z5.below hbz), Pz.new W w4.heap.size hsz, (hF.z7.below hbz), (hF.z8.below hbz), Pz.apt hF.z5, hF.a57, hF.a58, (Pz.apt hF.z7).symm, (Pz.apt hF.z8).symm, hF.a78⟩, hP.step hbz, Nat.le_trans hsz hbz.size⟩
    · clear hf hdep ho
      have hbz := (Below.refl W.heap.size W).alloc (Nat.le_refl _) (.cells #[.int .i64 0, .int .i64 0] 28)
      refine wpOp_of rfl (fun K hK => ?_)
      go_simp
      refine hK _ _ ⟨(hP.step hbz).h.box5, ?_⟩
      exact ⟨l1, l3, l5, l7, l8, l9, true, l11, v14, v16, v18, v20, q5, q6, .pointer (some ⟨W.heap.size, 0, none⟩), q8, rfl, rfl, ⟨h31, h53, h75⟩, ⟨e1, e3, e5, e7⟩, ⟨(hF.z5.below hbz), (hF.z6.below hbz), Pz.new W w4.heap.size hsz, (hF.z8.below hbz), hF.a56, Pz.apt hF.z5, hF.a58, Pz.apt hF.z6, hF.a68, (Pz.apt hF.z8).symm⟩, hP.step hbz, Nat.le_trans hsz hbz.size⟩
    · clear hf hdep ho
      have hbz := (Below.refl W.heap.size W).alloc (Nat.le_refl _) (.cells #[.int .i64 0, .int .i64 0] 28)
      refine wpOp_of rfl (fun K hK => ?_)
      go_simp
      refine hK _ _ ⟨(hP.step hbz).h.box5, ?_⟩
      exact ⟨l1, l3, l5, l7, l8, l9, l10, true, v14, v16, v18, v20, q5, q6, q7, .pointer (some ⟨W.heap.size, 0, none⟩), rfl, rfl, ⟨h31, h53, h75⟩, ⟨e1, e3, e5, e7⟩, ⟨(hF.z5.below hbz), (hF.z6.below hbz), (hF.z7.below hbz), Pz.new W w4.heap.size hsz, hF.a56, hF.a57, Pz.apt hF.z5, hF.a67, Pz.apt hF.z6, Pz.apt hF.z7⟩, hP.step hbz, Nat.le_trans hsz hbz.size⟩
    · exfalso
      have ho2 := Option.some.inj ho
      subst ho2
      have k7 : l7 = true := hdep ⟨7, .chain⟩ (by simp) rfl
      have k8 : l8 = true := hdep ⟨8, .phase⟩ (by simp) rfl
      have k9 : l9 = true := hdep ⟨9, .phase⟩ (by simp) rfl
      have k10 : l10 = true := hdep ⟨10, .phase⟩ (by simp) rfl
      have k11 : l11 = true := hdep ⟨11, .phase⟩ (by simp) rfl
      have k5 := h75 k7
      have k3 := h53 k5
      have k1 := h31 k3
      subst k1 k3 k5 k7 k8 k9 k10 k11
      exact hL rfl
    · exfalso
      have ho2 := Option.some.inj ho
      subst ho2
      have k := hdep ⟨12, .chain⟩ (by simp) rfl
      cases k
    · exfalso
      have ho2 := Option.some.inj ho
      subst ho2
      have k := hdep ⟨13, .chain⟩ (by simp) rfl
      cases k
    · exfalso
      have ho2 := Option.some.inj ho
      subst ho2
      have k := hdep ⟨14, .chain⟩ (by simp) rfl
      cases k
  case done =>
    rintro a W ⟨l1, l3, l5, l7, l8, l9, l10, l11, v14, v16, v18, v20, q5, q6, q7, q8, hLe, rfl, _, ⟨e1, e3, e5, e7⟩, hF, hP, hsz⟩
    simp only [Array.mk.injEq, List.cons.injEq, true_and, and_true] at hLe
    obtain ⟨rfl, rfl, rfl, rfl, rfl, rfl, rfl, rfl⟩ := hLe
    obtain rfl := e1 rfl
    obtain rfl := e3 rfl
    obtain rfl := e5 rfl
    obtain rfl := e7 rfl
    obtain ⟨B5, rfl, g5, s5⟩ := hF.z5 rfl
    obtain ⟨B6, rfl, g6, s6⟩ := hF.z6 rfl
    obtain ⟨B7, rfl, g7, s7⟩ := hF.z7 rfl
    obtain ⟨B8, rfl, g8, s8⟩ := hF.z8 rfl
    have n56 : B5 ≠ B6 := fun e => hF.a56 rfl rfl (by rw [e])
    have n57 : B5 ≠ B7 := fun e => hF.a57 rfl rfl (by rw [e])
    have n58 : B5 ≠ B8 := fun e => hF.a58 rfl rfl (by rw [e])
    have n67 : B6 ≠ B7 := fun e => hF.a67 rfl rfl (by rw [e])
    have n68 : B6 ≠ B8 := fun e => hF.a68 rfl rfl (by rw [e])
    have n78 : B7 ≠ B8 := fun e => hF.a78 rfl rfl (by rw [e])
    have hw4 : w.heap.size < w4.heap.size := (Array.getElem?_eq_some_iff.1 HSh.out).1
    have hw24 : w2.heap.size < w4.heap.size := (Array.getElem?_eq_some_iff.1 HSr.out).1
    have HS5 := hide s5
    have HS6 := hide s6
    have HS7 := hide s7
    have HS8 := hide s8
    have HSh := hide hP.h
    have HSr := hide hP.r
    have HB := hide hP.below
    clear s5 s6 s7 s8 hP hF hsz e1 e3 e5 e7 HPl
    have hcnt : (#[true, true, true, true, true, true, true, true, true, true, true, true, false, false, false, false] : Array Bool).toList.count false = 4 := by kernel_rfl
    rw [hcnt]
    have d0 : W.cell? ⟨B5, 0, none⟩ = some (.int .i64 0) := HS5.out.cell 0 _ rfl
    have d1 : W.cell? ⟨B5, 1, none⟩ = some (.int .i64 0) := HS5.out.cell 1 _ rfl
    have f0 := HS5.out.frozen 0
    have f1 := HS5.out.frozen 1
    obtain ⟨W1, hW1⟩ : ∃ u, u = (W.setCell ⟨B5, 0, none⟩ (.int .i64 p1)).setCell ⟨B5, 1, none⟩ (.int .i64 p2) := ⟨_, rfl⟩
    have HS5' : Hid (Stay W1 B5 #[.int .i64 p1, .int .i64 p2] 28) := hide (by rw [hW1]; exact ((HS5.out.set 0 (.int .i64 p1)).set 1 (.int .i64 p2)))
    have HS6' : Hid (Stay W1 B6 _ 28) := hide (by rw [hW1]; exact (HS6.out.other2 (i := 0) (v := .int .i64 p1) n56.symm).other2 (i := 1) (v := .int .i64 p2) n56.symm)
    have HS7' : Hid (Stay W1 B7 _ 28) := hide (by rw [hW1]; exact (HS7.out.other2 (i := 0) (v := .int .i64 p1) n57.symm).other2 (i := 1) (v := .int .i64 p2) n57.symm)
    have HS8' : Hid (Stay W1 B8 _ 28) := hide (by rw [hW1]; exact (HS8.out.other2 (i := 0) (v := .int .i64 p1) n58.symm).other2 (i := 1) (v := .int .i64 p2) n58.symm)
    have HSh' : Hid (Stay W1 w.heap.size _ 23) := hide (by rw [hW1]; exact (HSh.out.other2 (i := 0) (v := .int .i64 p1) (by omega)).other2 (i := 1) (v := .int .i64 p2) (by omega))
    have HSr' : Hid (Stay W1 w2.heap.size _ 24) := hide (by rw [hW1]; exact (HSr.out.other2 (i := 0) (v := .int .i64 p1) (by omega)).other2 (i := 1) (v := .int .i64 p2) (by omega))
    have HB' : Hid (Below w.heap.size w W1) := hide (by rw [hW1]; exact (HB.out.setCell (p := ⟨B5, 0, none⟩) (by show w.heap.size ≤ B5; omega) _).setCell (p := ⟨B5, 1, none⟩) (by show w.heap.size ≤ B5; omega) _)
    refine wpAnyH_ready (rs := [12]) (by kernel_rfl) (by simp) ?_
    refine AllReadyH.cons (i := 12) rfl (fun K hK => ?_) AllReadyH.nil
    go_simp
    rw [← hW1]
    refine hK.out _ _ HSh'.out.box5 (fun _ => ?_)
    clear hK K d0 d1 f0 f1 hW1
    have HS5 := HS5'
    have HS6 := HS6'
    have HS7 := HS7'
    have HS8 := HS8'
    have HSh := HSh'
    have HSr := HSr'
    have HB := HB'
    clear HS5' HS6' HS7' HS8' HSh' HSr' HB'
    have d0 : W1.cell? ⟨B6, 0, none⟩ = some (.int .i64 0) := HS6.out.cell 0 _ rfl
    have d1 : W1.cell? ⟨B6, 1, none⟩ = some (.int .i64 0) := HS6.out.cell 1 _ rfl
    have f0 := HS6.out.frozen 0
    have f1 := HS6.out.frozen 1
    obtain ⟨W2, hW2⟩ : ∃ u, u = (W1.setCell ⟨B6, 0, none⟩ (.int .i64 p2)).setCell ⟨B6, 1, none⟩ (.int .i64 p3) := ⟨_, rfl⟩
    have HS6' : Hid (Stay W2 B6 #[.int .i64 p2, .int .i64 p3] 28) := hide (by rw [hW2]; exact ((HS6.out.set 0 (.int .i64 p2)).set 1 (.int .i64 p3)))
    have HS5' : Hid (Stay W2 B5 _ 28) := hide (by rw [hW2]; exact (HS5.out.other2 (i := 0) (v := .int .i64 p2) n56).other2 (i := 1) (v := .int .i64 p3) n56)
    have HS7' : Hid (Stay W2 B7 _ 28) := hide (by rw [hW2]; exact (HS7.out.other2 (i := 0) (v := .int .i64 p2) n67.symm).other2 (i := 1) (v := .int .i64 p3) n67.symm)
    have HS8' : Hid (Stay W2 B8 _ 28) := hide (by rw [hW2]; exact (HS8.out.other2 (i := 0) (v := .int .i64 p2) n68.symm).other2 (i := 1) (v := .int .i64 p3) n68.symm)
    have HSh' : Hid (Stay W2 w.heap.size _ 23) := hide (by rw [hW2]; exact (HSh.out.other2 (i := 0) (v := .int .i64 p2) (by omega)).other2 (i := 1) (v := .int .i64 p3) (by omega))
    have HSr' : Hid (Stay W2 w2.heap.size _ 24) := hide (by rw [hW2]; exact (HSr.out.other2 (i := 0) (v := .int .i64 p2) (by omega)).other2 (i := 1) (v := .int .i64 p3) (by omega))
    have HB' : Hid (Below w.heap.size w W2) := hide (by rw [hW2]; exact (HB.out.setCell (p := ⟨B6, 0, none⟩) (by show w.heap.size ≤ B6; omega) _).setCell (p := ⟨B6, 1, none⟩) (by show w.heap.size ≤ B6; omega) _)
    refine wpAnyH_ready (rs := [13]) (by kernel_rfl) (by simp) ?_
    refine AllReadyH.cons (i := 13) rfl (fun K hK => ?_) AllReadyH.nil
    go_simp
    rw [← hW2]
    refine hK.out _ _ HSh'.out.box5 (fun _ => ?_)
    clear hK K d0 d1 f0 f1 hW2
    have HS5 := HS5'
    have HS6 := HS6'
    have HS7 := HS7'
    have HS8 := HS8'
    have HSh := HSh'
    have HSr := HSr'
    have HB := HB'
    clear HS5' HS6' HS7' HS8' HSh' HSr' HB'
    have d0 : W2.cell? ⟨B7, 0, none⟩ = some (.int .i64 0) := HS7.out.cell 0 _ rfl
    have d1 : W2.cell? ⟨B7, 1, none⟩ = some (.int .i64 0) := HS7.out.cell 1 _ rfl
    have f0 := HS7.out.frozen 0
    have f1 := HS7.out.frozen 1
    obtain ⟨W3, hW3⟩ : ∃ u, u = (W2.setCell ⟨B7, 0, none⟩ (.int .i64 p3)).setCell ⟨B7, 1, none⟩ (.int .i64 p4) := ⟨_, rfl⟩
    have HS7' : Hid (Stay W3 B7 #[.int .i64 p3, .int .i64 p4] 28) := hide (by rw [hW3]; exact ((HS7.out.set 0 (.int .i64 p3)).set 1 (.int .i64 p4)))
    have HS5' : Hid (Stay W3 B5 _ 28) := hide (by rw [hW3]; exact (HS5.out.other2 (i := 0) (v := .int .i64 p3) n57).other2 (i := 1) (v := .int .i64 p4) n57)
    have HS6' : Hid (Stay W3 B6 _ 28) := hide (by rw [hW3]; exact (HS6.out.other2 (i := 0) (v := .int .i64 p3) n67).other2 (i := 1) (v := .int .i64 p4) n67)
    have HS8' : Hid (Stay W3 B8 _ 28) := hide (by rw [hW3]; exact (HS8.out.other2 (i := 0) (v := .int .i64 p3) n78.symm).other2 (i := 1) (v := .int .i64 p4) n78.symm)
    have HSh' : Hid (Stay W3 w.heap.size _ 23) := hide (by rw [hW3]; exact (HSh.out.other2 (i := 0) (v := .int .i64 p3) (by omega)).other2 (i := 1) (v := .int .i64 p4) (by omega))
    have HSr' : Hid (Stay W3 w2.heap.size _ 24) := hide (by rw [hW3]; exact (HSr.out.other2 (i := 0) (v := .int .i64 p3) (by omega)).other2 (i := 1) (v := .int .i64 p4) (by omega))
    have HB' : Hid (Below w.heap.size w W3) := hide (by rw [hW3]; exact (HB.out.setCell (p := ⟨B7, 0, none⟩) (by show w.heap.size ≤ B7; omega) _).setCell (p := ⟨B7, 1, none⟩) (by show w.heap.size ≤ B7; omega) _)
    refine wpAnyH_ready (rs := [14]) (by kernel_rfl) (by simp) ?_
    refine AllReadyH.cons (i := 14) rfl (fun K hK => ?_) AllReadyH.nil
    go_simp
    rw [← hW3]
    refine hK.out _ _ HSh'.out.box5 (fun _ => ?_)
    clear hK K d0 d1 f0 f1 hW3
    have HS5 := HS5'
    have HS6 := HS6'
    have HS7 := HS7'
    have HS8 := HS8'
    have HSh := HSh'
    have HSr := HSr'
    have HB := HB'
    clear HS5' HS6' HS7' HS8' HSh' HSr' HB'
    have d0 : W3.cell? ⟨B8, 0, none⟩ = some (.int .i64 0) := HS8.out.cell 0 _ rfl
    have d1 : W3.cell? ⟨B8, 1, none⟩ = some (.int .i64 0) := HS8.out.cell 1 _ rfl
    have f0 := HS8.out.frozen 0
    have f1 := HS8.out.frozen 1
    obtain ⟨W4, hW4⟩ : ∃ u, u = (W3.setCell ⟨B8, 0, none⟩ (.int .i64 p4)).setCell ⟨B8, 1, none⟩ (.int .i64 p5) := ⟨_, rfl⟩
    have HS8' : Hid (Stay W4 B8 #[.int .i64 p4, .int .i64 p5] 28) := hide (by rw [hW4]; exact ((HS8.out.set 0 (.int .i64 p4)).set 1 (.int .i64 p5)))
    have HS5' : Hid (Stay W4 B5 _ 28) := hide (by rw [hW4]; exact (HS5.out.other2 (i := 0) (v := .int .i64 p4) n58).other2 (i := 1) (v := .int .i64 p5) n58)
    have HS6' : Hid (Stay W4 B6 _ 28) := hide (by rw [hW4]; exact (HS6.out.other2 (i := 0) (v := .int .i64 p4) n68).other2 (i := 1) (v := .int .i64 p5) n68)
    have HS7' : Hid (Stay W4 B7 _ 28) := hide (by rw [hW4]; exact (HS7.out.other2 (i := 0) (v := .int .i64 p4) n78).other2 (i := 1) (v := .int .i64 p5) n78)
    have HSh' : Hid (Stay W4 w.heap.size _ 23) := hide (by rw [hW4]; exact (HSh.out.other2 (i := 0) (v := .int .i64 p4) (by omega)).other2 (i := 1) (v := .int .i64 p5) (by omega))
    have HSr' : Hid (Stay W4 w2.heap.size _ 24) := hide (by rw [hW4]; exact (HSr.out.other2 (i := 0) (v := .int .i64 p4) (by omega)).other2 (i := 1) (v := .int .i64 p5) (by omega))
    have HB' : Hid (Below w.heap.size w W4) := hide (by rw [hW4]; exact (HB.out.setCell (p := ⟨B8, 0, none⟩) (by show w.heap.size ≤ B8; omega) _).setCell (p := ⟨B8, 1, none⟩) (by show w.heap.size ≤ B8; omega) _)
    refine wpAnyH_ready (rs := [15]) (by kernel_rfl) (by simp) ?_
    refine AllReadyH.cons (i := 15) rfl (fun K hK => ?_) AllReadyH.nil
    go_simp
    rw [← hW4]
    refine hK.out _ _ HSh'.out.box5 (fun _ => ?_)
    clear hK K d0 d1 f0 f1 hW4
    have HS5 := HS5'
    have HS6 := HS6'
    have HS7 := HS7'
    have HS8 := HS8'
    have HSh := HSh'
    have HSr := HSr'
    have HB := HB'
    clear HS5' HS6' HS7' HS8' HSh' HSr' HB'
    refine wpAnyH_done (by kernel_rfl) ?_ _
    go_wp2_with fail
    have HB := hide HB.out.drew
    have HSh := hide HSh.out.drew
    have HSr := hide HSr.out.drew
    have HS5 := hide HS5.out.drew
    have HS6 := hide HS6.out.drew
    have HS7 := hide HS7.out.drew
    have HS8 := hide HS8.out.drew
    obtain ⟨c0, c1, c2, c3, c4⟩ := HSh.out.box5
    obtain ⟨r0, r1, r2, r3, r4⟩ := HSr.out.box5
    have x1 : (c != c) = false := by simp
    have x2 : (e8 != e8) = false := by simp
    have x3 : (g != g) = false := by simp
    have x4 : (a5 != a5) = false := by simp
    have x5 : (l != l) = false := by simp
    go_region_held3 (fun u => (u.cell? ⟨w.heap.size, 0, none⟩ = some (.int .i64 b) ∧ u.cell? ⟨w.heap.size, 1, none⟩ = some (.int .i64 s) ∧ u.cell? ⟨w.heap.size, 2, none⟩ = some (.int .i64 o) ∧ u.cell? ⟨w.heap.size, 3, none⟩ = some (.int .i64 j) ∧ u.cell? ⟨w.heap.size, 4, none⟩ = some (.bool k)) ∧ (u.cell? ⟨w2.heap.size, 0, none⟩ = some (.int .i64 b) ∧ u.cell? ⟨w2.heap.size, 1, none⟩ = some (.int .i64 s) ∧ u.cell? ⟨w2.heap.size, 2, none⟩ = some (.int .i64 o) ∧ u.cell? ⟨w2.heap.size, 3, none⟩ = some (.int .i64 j) ∧ u.cell? ⟨w2.heap.size, 4, none⟩ = some (.bool k))) (first | go_keep | exact ⟨HSh.out.box5, HSr.out.box5⟩) (first
      | (go_at_call 15; refine ((HL _).out).mono ?_; rintro e9 w5 ⟨rfl, hb5⟩; have HB := hide (HB.out.trans (hb5.mono HB.out.size)); have HSh := hide (HSh.out.below hb5); have HSr := hide (HSr.out.below hb5); have HS5 := hide (HS5.out.below hb5); have HS6 := hide (HS6.out.below hb5); have HS7 := hide (HS7.out.below hb5); have HS8 := hide (HS8.out.below hb5); clear hb5)
      | (go_at_call 16; refine ((HCl _).out).mono ?_; rintro e9 w5 ⟨rfl, hb5⟩; have HB := hide (HB.out.trans (hb5.mono HB.out.size)); have HSh := hide (HSh.out.below hb5); have HSr := hide (HSr.out.below hb5); have HS5 := hide (HS5.out.below hb5); have HS6 := hide (HS6.out.below hb5); have HS7 := hide (HS7.out.below hb5); have HS8 := hide (HS8.out.below hb5); clear hb5)
      | (go_at_call 17; refine ((HEn _).out).mono ?_; rintro e9 w5 ⟨rfl, hb5⟩; have HB := hide (HB.out.trans (hb5.mono HB.out.size)); have HSh := hide (HSh.out.below hb5); have HSr := hide (HSr.out.below hb5); have HS5 := hide (HS5.out.below hb5); have HS6 := hide (HS6.out.below hb5); have HS7 := hide (HS7.out.below hb5); have HS8 := hide (HS8.out.below hb5); clear hb5)
      | (go_at_call 18; refine ((HGu _).out).mono ?_; rintro e9 w5 ⟨rfl, hb5⟩; have HB := hide (HB.out.trans (hb5.mono HB.out.size)); have HSh := hide (HSh.out.below hb5); have HSr := hide (HSr.out.below hb5); have HS5 := hide (HS5.out.below hb5); have HS6 := hide (HS6.out.below hb5); have HS7 := hide (HS7.out.below hb5); have HS8 := hide (HS8.out.below hb5); clear hb5)
      | (go_at_call 19; refine ((HRg _).out).mono ?_; rintro e9 w5 ⟨rfl, hb5⟩; have HB := hide (HB.out.trans (hb5.mono HB.out.size)); have HSh := hide (HSh.out.below hb5); have HSr := hide (HSr.out.below hb5); have HS5 := hide (HS5.out.below hb5); have HS6 := hide (HS6.out.below hb5); have HS7 := hide (HS7.out.below hb5); have HS8 := hide (HS8.out.below hb5); clear hb5)
      | (go_at_call 20; refine ((HFi _).out).mono ?_; rintro e9 w5 ⟨rfl, hb5⟩; have HB := hide (HB.out.trans (hb5.mono HB.out.size)); have HSh := hide (HSh.out.below hb5); have HSr := hide (HSr.out.below hb5); have HS5 := hide (HS5.out.below hb5); have HS6 := hide (HS6.out.below hb5); have HS7 := hide (HS7.out.below hb5); have HS8 := hide (HS8.out.below hb5); clear hb5)
      | (go_at_call 21; refine ((HA5 _).out).mono ?_; rintro e9 w5 ⟨rfl, hb5⟩; have HB := hide (HB.out.trans (hb5.mono HB.out.size)); have HSh := hide (HSh.out.below hb5); have HSr := hide (HSr.out.below hb5); have HS5 := hide (HS5.out.below hb5); have HS6 := hide (HS6.out.below hb5); have HS7 := hide (HS7.out.below hb5); have HS8 := hide (HS8.out.below hb5); clear hb5)
      | (go_at_call 22; refine ((HLe _).out).mono ?_; rintro e9 w5 ⟨rfl, hb5⟩; have HB := hide (HB.out.trans (hb5.mono HB.out.size)); have HSh := hide (HSh.out.below hb5); have HSr := hide (HSr.out.below hb5); have HS5 := hide (HS5.out.below hb5); have HS6 := hide (HS6.out.below hb5); have HS7 := hide (HS7.out.below hb5); have HS8 := hide (HS8.out.below hb5); clear hb5)
      | (go_at_call 23; refine ((HRl _).out).mono ?_; rintro e9 w5 ⟨rfl, hb5⟩; have HB := hide (HB.out.trans (hb5.mono HB.out.size)); have HSh := hide (HSh.out.below hb5); have HSr := hide (HSr.out.below hb5); have HS5 := hide (HS5.out.below hb5); have HS6 := hide (HS6.out.below hb5); have HS7 := hide (HS7.out.below hb5); have HS8 := hide (HS8.out.below hb5); clear hb5))
    go_wp2_with fail
    clear c0 c1 c2 c3 c4 r0 r1 r2 r3 r4
    have HB := hide HB.out.drew
    have HSh := hide HSh.out.drew
    have HSr := hide HSr.out.drew
    have HS5 := hide HS5.out.drew
    have HS6 := hide HS6.out.drew
    have HS7 := hide HS7.out.drew
    have HS8 := hide HS8.out.drew
    obtain ⟨r0, r1, r2, r3, r4⟩ := HSr.out.box5
    have y50 : _ = some (Value.int .i64 p1) := HS5.out.cell 0 _ rfl
    have y51 : _ = some (Value.int .i64 p2) := HS5.out.cell 1 _ rfl
    have y60 : _ = some (Value.int .i64 p2) := HS6.out.cell 0 _ rfl
    have y61 : _ = some (Value.int .i64 p3) := HS6.out.cell 1 _ rfl
    have y70 : _ = some (Value.int .i64 p3) := HS7.out.cell 0 _ rfl
    have y71 : _ = some (Value.int .i64 p4) := HS7.out.cell 1 _ rfl
    have y80 : _ = some (Value.int .i64 p4) := HS8.out.cell 0 _ rfl
    have y81 : _ = some (Value.int .i64 p5) := HS8.out.cell 1 _ rfl
    have he := eql_X
    have hgd := guard_X
    go_region_held3 (fun u => (u.cell? ⟨w2.heap.size, 0, none⟩ = some (.int .i64 b) ∧ u.cell? ⟨w2.heap.size, 1, none⟩ = some (.int .i64 s) ∧ u.cell? ⟨w2.heap.size, 2, none⟩ = some (.int .i64 o) ∧ u.cell? ⟨w2.heap.size, 3, none⟩ = some (.int .i64 j) ∧ u.cell? ⟨w2.heap.size, 4, none⟩ = some (.bool k)) ∧ (u.cell? ⟨B5, 0, none⟩ = some (.int .i64 p1) ∧ u.cell? ⟨B5, 1, none⟩ = some (.int .i64 p2)) ∧ (u.cell? ⟨B6, 0, none⟩ = some (.int .i64 p2) ∧ u.cell? ⟨B6, 1, none⟩ = some (.int .i64 p3)) ∧ (u.cell? ⟨B7, 0, none⟩ = some (.int .i64 p3) ∧ u.cell? ⟨B7, 1, none⟩ = some (.int .i64 p4)) ∧ (u.cell? ⟨B8, 0, none⟩ = some (.int .i64 p4) ∧ u.cell? ⟨B8, 1, none⟩ = some (.int .i64 p5))) (first | go_keep | exact ⟨HSr.out.box5, ⟨HS5.out.cell 0 _ rfl, HS5.out.cell 1 _ rfl⟩, ⟨HS6.out.cell 0 _ rfl, HS6.out.cell 1 _ rfl⟩, ⟨HS7.out.cell 0 _ rfl, HS7.out.cell 1 _ rfl⟩, HS8.out.cell 0 _ rfl, HS8.out.cell 1 _ rfl⟩) (first
      | (go_at_call_of 21 (Value.int IntKind.i64 1); refine ((HA1 _).out).mono ?_; rintro e9 w5 ⟨rfl, hb5⟩; have HB := hide (HB.out.trans (hb5.mono HB.out.size)); have HSh := hide (HSh.out.below hb5); have HSr := hide (HSr.out.below hb5); have HS5 := hide (HS5.out.below hb5); have HS6 := hide (HS6.out.below hb5); have HS7 := hide (HS7.out.below hb5); have HS8 := hide (HS8.out.below hb5); clear hb5)
      | (go_at_call_of 21 (Value.int IntKind.i64 2); refine ((HA2 _).out).mono ?_; rintro e9 w5 ⟨rfl, hb5⟩; have HB := hide (HB.out.trans (hb5.mono HB.out.size)); have HSh := hide (HSh.out.below hb5); have HSr := hide (HSr.out.below hb5); have HS5 := hide (HS5.out.below hb5); have HS6 := hide (HS6.out.below hb5); have HS7 := hide (HS7.out.below hb5); have HS8 := hide (HS8.out.below hb5); clear hb5)
      | (go_at_call_of 21 (Value.int IntKind.i64 3); refine ((HA3 _).out).mono ?_; rintro e9 w5 ⟨rfl, hb5⟩; have HB := hide (HB.out.trans (hb5.mono HB.out.size)); have HSh := hide (HSh.out.below hb5); have HSr := hide (HSr.out.below hb5); have HS5 := hide (HS5.out.below hb5); have HS6 := hide (HS6.out.below hb5); have HS7 := hide (HS7.out.below hb5); have HS8 := hide (HS8.out.below hb5); clear hb5)
      | (go_at_call_of 21 (Value.int IntKind.i64 4); refine ((HA4 _).out).mono ?_; rintro e9 w5 ⟨rfl, hb5⟩; have HB := hide (HB.out.trans (hb5.mono HB.out.size)); have HSh := hide (HSh.out.below hb5); have HSr := hide (HSr.out.below hb5); have HS5 := hide (HS5.out.below hb5); have HS6 := hide (HS6.out.below hb5); have HS7 := hide (HS7.out.below hb5); have HS8 := hide (HS8.out.below hb5); clear hb5)
      | (go_at_call_of 21 (Value.int IntKind.i64 5); refine ((HA5 _).out).mono ?_; rintro e9 w5 ⟨rfl, hb5⟩; have HB := hide (HB.out.trans (hb5.mono HB.out.size)); have HSh := hide (HSh.out.below hb5); have HSr := hide (HSr.out.below hb5); have HS5 := hide (HS5.out.below hb5); have HS6 := hide (HS6.out.below hb5); have HS7 := hide (HS7.out.below hb5); have HS8 := hide (HS8.out.below hb5); clear hb5))
    go_wp2_with fail
    go_ret
    exact ⟨rfl, HB.out⟩

set_option maxRecDepth 100000 in
theorem headerPlaces_lifted (os : Os) (started : os.Started) (H : Type) (enc : TypeId × Value → H) :
    ReturnsInHanded {} Try.checked os 3 .any (Rows.headerPlacesSpec.pre6 enc Try.prog Try.f3 Rows.headerPlacesRow.domain false) (Rows.headerPlacesSpec.post enc Try.prog Try.f3 false true false false) := by
  refine returnsInHanded_of_change (C := Try.checked) own started (by kernel_rfl) Try.func3
    (ChangeSpec.witness6 (enc := enc) (C := Try.checked) false ⟨#[], #[.agg #[.int .i64 0, .int .i64 0, .int .i64 0, .int .i64 0, .bool false]], []⟩ 8 (by kernel_rfl) (by kernel_rfl) (by kernel_rfl) (by kernel_rfl)) ?_
  intro W base args ds gs before hval0 hW _ _
  have hval : ∀ (j : Nat) t v, Try.f3.params[j]? = some t → args[j]? = some v → Value.okWide Try.prog W .any base t v := hval0
  have hW' := hW
  obtain ⟨p, q, hA0, hV, rfl, hfz, hnd⟩ := hW
  have hA : DataW.TrodAll enc Try.prog W 0 (fun _ => true) true Try.f3.params.toList args.toList ds p := hA0
  rw [Try.params3] at hA hval
  obtain ⟨v0, vs0, d0, ds0, p0, q0, hargs0, rfl, rfl, h0, r0⟩ := trodAll_cons hA
  obtain ⟨rfl, rfl, rfl⟩ := trodAll_nil r0
  obtain rfl : args = #[v0] := by cases args; simp_all
  obtain ⟨rfl, rfl⟩ := trodVars_none hV
  simp only [List.append_nil] at hW'
  have hlt0 : ∀ x ∈ p0, x.block < W.heap.size := fun x hx => by simpa using hW'.lt x (by simp [hx])
  obtain ⟨b0, s0, o0, j0, k0, rfl, hk0⟩ := open_hdr (hval 0 23 v0 rfl rfl) h0
  clear hA0
  refine (hplaces_walk b0 s0 o0 j0 k0 W).mono fun e W' ⟨he, hb⟩ => ?_
  subst he
  refine ⟨_, rfl, _, _, _, [], (p0 ++ []), [], hW', ?_, ?_, rfl, hb.frame _, fun h => by cases h⟩
  · exact trodAll_cons_mk (shut_bool Try.underlying4 _) trodAll_mk0
  · exact trodAll_cons_mk (Below.trod laidOut (by kernel_rfl) (of_decide_eq_true (by kernel_rfl)) h0 hb hlt0) (trodAll_mk0)

theorem headerPlaces_holds : Rows.HeaderPlacesSaid :=
  OpenClaim.holds_of_wide 3 Try.f3 rfl rfl rfl rfl rfl rfl rfl ⟨rfl, rfl, rfl, rfl, rfl⟩ rfl rfl rfl rfl rfl (by kernel_rfl) Try.func3 (by kernel_rfl)
    (of_decide_eq_true (by kernel_rfl)) (by unfold Func.isWrapper; first | (rw [if_pos (by decide +kernel)]; kernel_rfl) | (rw [if_neg (by decide +kernel)]; exact ⟨rfl, rfl⟩))
    (fun os started H enc _ => headerPlaces_lifted os started H enc)
end Go.Proofs.Ytpmljlmcfofppaa.Oct
