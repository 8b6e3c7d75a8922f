/- Tables of entries within changes: an entry is read, or set. -/
import Derived.Test.YtibkhgmmjhlpmaaGreatPTorTog
import Derived.Test.YtibkhgmmjhlpmaaGreatPMpi
import Derived.Test.YtibkhgmmjhlpmaaGreatPHdc
namespace Go.Proofs.YtibkhgmmjhlpmaaGreat.Oct
open Go.RowKit Go.Deep

/-- A table's fields lie in block A. -/
def Tab (w : World) (A T : Nat) (c : Int) : Prop := w.heap[A]? = some (.cells #[.int .i64 9, .int .i64 32768, .int .i64 120, .int .i64 29, .bool false, .pointer (some ⟨T, 0, none⟩), .int .i64 c] 84 (0, 0))

theorem Tab.lt {w : World} {A T : Nat} {c : Int} (h : Tab w A T c) : A < w.heap.size := (Array.getElem?_eq_some_iff.1 h).1
theorem Tab.below {w w' : World} {A T : Nat} {c : Int} (h : Tab w A T c) (hb : Below w.heap.size w w') : Tab w' A T c := (hb.block A h.lt).trans h
theorem Tab.cell {w : World} {A T : Nat} {c : Int} (h : Tab w A T c) : w.cell? ⟨A, 0, none⟩ = some (.int .i64 9) ∧ w.cell? ⟨A, 1, none⟩ = some (.int .i64 32768) ∧ w.cell? ⟨A, 2, none⟩ = some (.int .i64 120) ∧ w.cell? ⟨A, 3, none⟩ = some (.int .i64 29) ∧ w.cell? ⟨A, 4, none⟩ = some (.bool false) ∧ w.cell? ⟨A, 5, none⟩ = some (.pointer (some ⟨T, 0, none⟩)) ∧ w.cell? ⟨A, 6, none⟩ = some (.int .i64 c) := by
  unfold Tab at h
  simp [World.cell?, h]

theorem eqf_hd (w : World) : (Op.equalIn 10000 25 (.agg #[.int .i64 9, .int .i64 32768, .int .i64 120, .int .i64 29, .bool false]) (.agg #[.int .i64 0, .int .i64 0, .int .i64 0, .int .i64 0, .bool false])).run Tryz.prog w = .ok false w := by
  rw [run_equalIn_agg w 9999 25 _ _ (by kernel_rfl) (by kernel_rfl)]
  have hf : (Tryz.prog.fieldsOf 25).toList.map (fun f => (f.name, f.type, f.offset)) = [("Bits", 3, 0), ("Size", 2, 1), ("Host", 2, 2), ("Journal", 2, 3), ("Backed", 4, 4)] := by kernel_rfl
  obtain ⟨fs, hfs⟩ : ∃ fs, fs = (Tryz.prog.fieldsOf 25).toList := ⟨_, rfl⟩
  rw [← hfs] at hf ⊢
  clear hfs
  have hl : fs.length = 5 := by simpa using congrArg List.length hf
  obtain ⟨f0, f1, f2, f3, f4, rfl⟩ : ∃ f0 f1 f2 f3 f4, fs = [f0, f1, f2, f3, f4] := by match fs, hl with | [f0, f1, f2, f3, f4], _ => exact ⟨f0, f1, f2, f3, f4, rfl⟩
  simp only [List.map_cons, List.map_nil, List.cons.injEq, Prod.mk.injEq, and_true] at hf
  obtain ⟨⟨a1, a2, a3⟩, _⟩ := hf
  have p0 : (part 3 #[.int .i64 9, .int .i64 32768, .int .i64 120, .int .i64 29, .bool false] 0).run Tryz.prog w = .ok (.int .i64 9) w := by go_simp
  have p1 : (part 3 #[.int .i64 0, .int .i64 0, .int .i64 0, .int .i64 0, .bool false] 0).run Tryz.prog w = .ok (.int .i64 0) w := by go_simp
  have q0 := run_equalIn_int (P := Tryz.prog) w 9998 _ .i64 .i64 9 0 Tryz.underlying3
  simp only [Op.eqFields, a1, a2, a3, Sem.run_bind, Sem.run_ite]
  simp [p0, p1, q0, Result.andThen]

theorem eql_hd (w : World) : (binOp .eql 25 (.agg #[.int .i64 9, .int .i64 32768, .int .i64 120, .int .i64 29, .bool false]) (.agg #[.int .i64 0, .int .i64 0, .int .i64 0, .int .i64 0, .bool false])).run Tryz.prog w = .ok (.bool false) w := by
  rw [run_eql_struct, eqf_hd]
  rfl

theorem grd_hd (w : World) (op : BinOp) (p q : Operand) (xs ys : Array Value) : (eqGuard op 25 p q (.agg xs) (.agg ys)).run Tryz.prog w = .ok () w := run_eqGuard_agg w op _ _ _ _ _ (by kernel_rfl)

set_option maxHeartbeats 1000000 in
theorem tab_none (w : World) (A T : Nat) (c : Int) (h : Tab w A T c) : Calls Tryz.prog 50 #[.pointer (some ⟨A, 0, none⟩)] w fun e w' => e = .returned (.bool false) ∧ w' = w := by
  obtain ⟨c0, c1, c2, c3, c4, c5, c6⟩ := h.cell
  have hq := eql_hd
  have hg := fun u op p q => grd_hd u op p q #[.int .i64 9, .int .i64 32768, .int .i64 120, .int .i64 29, .bool false] #[.int .i64 0, .int .i64 0, .int .i64 0, .int .i64 0, .bool false]
  clear h
  go_enter Tryz.func50, Tryz.ntmps50
  go_wp2_with fail
  go_ret
  exact ⟨rfl, rfl⟩

/-- Is there such an entry? -/
def hasN (i : Int) : Int := if 0 ≤ i ∧ i < 64 then 0 else 4

set_option maxHeartbeats 1000000 in
theorem tab_has (w : World) (A T : Nat) (c : Int) (h : Tab w A T c) (i : Int) : Calls Tryz.prog 31 #[.pointer (some ⟨A, 0, none⟩), .int .i64 i] w fun e w' => e = .returned (.int .i64 (hasN i)) ∧ Below w.heap.size w w' := by
  have HN := hide (tab_none w A T c h)
  have HE : Hid (Calls Tryz.prog 19 #[.agg #[.int .i64 9, .int .i64 32768, .int .i64 120, .int .i64 29, .bool false]] w fun e w' => e = .returned (.int .i64 64) ∧ Below w.heap.size w w') := hide (entries_any 9 32768 120 29 false w)
  obtain ⟨c0, c1, c2, c3, c4, c5, c6⟩ := h.cell
  clear h
  by_cases h0 : i < 0
  · have e : hasN i = 4 := if_neg (by omega)
    rw [e]
    go_enter Tryz.func31, Tryz.ntmps31
    go_wp2_with fail
    refine HN.out.mono ?_
    rintro e9 w9 ⟨rfl, h9⟩
    subst h9
    go_wp2_with fail
    go_ret
    exact ⟨rfl, Below.refl _ _⟩
  by_cases h1 : 64 ≤ i
  · have e : hasN i = 4 := if_neg (by omega)
    rw [e]
    go_enter Tryz.func31, Tryz.ntmps31
    go_wp2_with fail
    refine HN.out.mono ?_
    rintro e9 w9 ⟨rfl, h9⟩
    subst h9
    go_wp2_with fail
    refine HE.out.mono ?_
    rintro e9 w9 ⟨rfl, hb9⟩
    have HB := hide hb9
    clear hb9
    go_wp2_with fail
    go_ret
    exact ⟨rfl, HB.out⟩
  · have e : hasN i = 0 := if_pos (by omega)
    rw [e]
    go_enter Tryz.func31, Tryz.ntmps31
    go_wp2_with fail
    refine HN.out.mono ?_
    rintro e9 w9 ⟨rfl, h9⟩
    subst h9
    go_wp2_with fail
    refine HE.out.mono ?_
    rintro e9 w9 ⟨rfl, hb9⟩
    have HB := hide hb9
    clear hb9
    go_wp2_with fail
    go_ret
    exact ⟨rfl, HB.out⟩
end Go.Proofs.YtibkhgmmjhlpmaaGreat.Oct

namespace Go.Proofs.YtibkhgmmjhlpmaaGreat.Oct
open Go.RowKit Go.Deep

theorem Tab.drew {w : World} {A T : Nat} {c : Int} (h : Tab w A T c) : Tab w.drew A T c := h

set_option maxHeartbeats 2000000 in
theorem tab_at (w : World) (A T : Nat) (c : Int) (h : Tab w A T c) (hc : 1 ≤ c ∧ c < 120) (i : Int) (hi : 0 ≤ i ∧ i < 64) : Calls Tryz.prog 37 #[.pointer (some ⟨A, 0, none⟩), .int .i64 i] w fun e w' => e = .returned (.int .i64 (c * 512 + 8 * i)) ∧ Below w.heap.size w w' := by
  have HC : ∀ u, Hid (Calls Tryz.prog 20 #[.agg #[.int .i64 9, .int .i64 32768, .int .i64 120, .int .i64 29, .bool false]] u fun e w' => e = .returned (.int .i64 512) ∧ Below u.heap.size u w') := fun u => hide (cluster_any 9 32768 120 29 false u)
  have HT := hide h.drew
  have HB := hide (Below.refl w.heap.size w).drew
  obtain ⟨c0, c1, c2, c3, c4, c5, c6⟩ := h.cell
  have HW : Hid (IntKind.i64.wrap (IntKind.i64.wrap (c * 512) + IntKind.i64.wrap (8 * i)) = c * 512 + 8 * i) := hide (by
    have e1 : IntKind.i64.wrap (c * 512) = c * 512 := by rw [IntKind.wrap_i64]; omega
    have e2 : IntKind.i64.wrap (8 * i) = 8 * i := by rw [IntKind.wrap_i64]; omega
    rw [e1, e2, IntKind.wrap_i64]; omega)
  clear h
  go_enter Tryz.func37, Tryz.ntmps37
  go_wp2_with fail
  go_region_held3 (fun u => u.cell? ⟨A, 0, none⟩ = some (.int .i64 9) ∧ u.cell? ⟨A, 1, none⟩ = some (.int .i64 32768) ∧ u.cell? ⟨A, 2, none⟩ = some (.int .i64 120) ∧ u.cell? ⟨A, 3, none⟩ = some (.int .i64 29) ∧ u.cell? ⟨A, 4, none⟩ = some (.bool false) ∧ u.cell? ⟨A, 5, none⟩ = some (.pointer (some ⟨T, 0, none⟩)) ∧ u.cell? ⟨A, 6, none⟩ = some (.int .i64 c)) (first | go_keep | exact HT.out.cell) (first
    | (go_at_call 20; refine ((HC _).out).mono ?_; rintro e9 w2 ⟨rfl, hb2⟩; have HT := hide (HT.out.below hb2); have HB := hide (HB.out.trans (hb2.mono HB.out.size)); clear hb2))
  all_goals
    go_wp2_with fail
    go_ret
    refine ⟨?_, HB.out⟩
    show Ending.returned (.int .i64 (IntKind.i64.wrap (IntKind.i64.wrap (c * 512) + IntKind.i64.wrap (8 * i)))) = _
    rw [HW.out]

/-- What a list of a table's entries answers. -/
def TListed (base : Nat) (l : List Int) (e : Ending) (w' : World) : Prop :=
  (∃ v R, e = .returned (.tuple #[v, .int .i64 0]) ∧ OwnN w' base v R ∧ R.length = l.length / 8 ∧ ∀ j, j < l.length / 8 → okV (num l (8 * j) 8) = true ∧ R.getD j z3 = dec3 (num l (8 * j) 8)) ∨
  ((∃ j, j < l.length / 8 ∧ okV (num l (8 * j) 8) = false) ∧ e = .returned (.tuple #[.slice none 0 0, .int .i64 11]))

theorem OwnN.mono {w : World} {B B' : Nat} {v : Value} {L : List E3} (h : OwnN w B v L) (hb : B' ≤ B) : OwnN w B' v L := by
  refine ⟨h.1, ?_⟩
  rcases h.2 with h1 | ⟨g, cap, cur, h1, hg, hr⟩
  · exact Or.inl h1
  · exact Or.inr ⟨g, cap, cur, h1, Nat.le_trans hb hg, hr⟩

set_option maxRecDepth 100000 in
set_option maxHeartbeats 4000000 in
theorem tab_list (w : World) (A T J F : Nat) (X : Nat → Prop) (f : Fs) (S : List Int) (vb vm : Value) (B M : Int → List Int) (p q : Int) (h : Tst w T J F X f S vb vm B M p q) (hS : S.length ≤ 4194304) (hops : f.ops < 1000000) (hXl : ∀ k, X k → k < w.heap.size) (hby : ∀ x, 0 ≤ seeT S B M x ∧ seeT S B M x < 256)
    (c : Nat) (hA : Tab w A T c) (hAX : ¬ X A) (hc : 1 ≤ c ∧ c < 120) (i n : Nat) (hi : i + n ≤ 64) (hi2 : i < 64) :
    Calls Tryz.prog 32 #[.pointer (some ⟨A, 0, none⟩), .int .i64 i, .int .i64 n] w fun e w' => ∃ l f', l.length = 8 * n ∧ (∀ j, j < 8 * n → l.getD j 0 = seeT S B M (c * 512 + 8 * i + j)) ∧ TListed w.heap.size l e w' ∧ Tst w' T J F X f' S vb vm B M p q ∧ f'.ops ≤ f.ops + 1 ∧ Chg (fun k => k = F) w w' := by
  have HA := hide hA.drew
  have HT := hide (h.below (Below.refl w.heap.size w).drew)
  have HB := hide (Below.refl w.heap.size w).drew
  have HBy := hide hby
  have HXl := hide hXl
  have hAF : A ≠ F := fun e => hAX (e ▸ h.fil.xF)
  have HAt := fun u (hu : Tab u A T c) => hide (tab_at u A T c hu (by omega) (i : Int) (by omega))
  have HGt : ∀ u, Tab u A T c → Tst u T J F X f S vb vm B M p q → Below w.heap.size w u → Hid (Calls Tryz.prog 47 #[.pointer (some ⟨T, 0, none⟩), .int .i64 ((c : Int) * 512 + 8 * (i : Int)), .int .i64 (8 * (n : Int))] u fun e w' => ∃ a k l f', e = .returned (.tuple #[.slice a (8 * n) k, .int .i64 0]) ∧ Lies w' a l ∧ l.length = 8 * n ∧ (∀ j, j < 8 * n → l.getD j 0 = seeT S B M (c * 512 + 8 * i + j)) ∧ Tst w' T J F X f' S vb vm B M p q ∧ f'.ops ≤ f.ops + 1 ∧ Chg (fun k => k = F) w w' ∧ Tab w' A T c) := fun u h1 h2 h3 => hide (by
    have e4 : ((c * 512 + 8 * i : Nat) : Int) = (c : Int) * 512 + 8 * (i : Int) := by omega
    have e5 : ((8 * n : Nat) : Int) = 8 * (n : Int) := by omega
    have hg := get_tx u T J F X f S vb vm B M p q h2 hS hops (fun k hk => Nat.lt_of_lt_of_le (hXl k hk) h3.size) (c * 512 + 8 * i) (8 * n) (by omega)
    rw [e4, e5] at hg
    refine hg.mono ?_
    rintro e9 w3 ⟨v, l, f', rfl, ho, hl, hv, ht, hf, hc3⟩
    obtain ⟨a3, k3, rfl, hl3, _⟩ := ho.form
    refine ⟨a3, k3, l, f', by rw [hl], hl3, hl, hv, ht, hf, (Chg.of_below h3).trans hc3, (hc3.block A h1.lt hAF).trans h1⟩)
  clear h hA hby hXl
  go_enter Tryz.func32, Tryz.ntmps32
  obtain ⟨c0, c1, c2, c3, c4, c5, c6⟩ := HA.out.cell
  go_wp2_with fail
  have e6 : IntKind.i64.wrap (8 * (n : Int)) = 8 * (n : Int) := by rw [IntKind.wrap_i64]; omega
  go_region_held3 (fun u => u.cell? ⟨A, 0, none⟩ = some (.int .i64 9) ∧ u.cell? ⟨A, 1, none⟩ = some (.int .i64 32768) ∧ u.cell? ⟨A, 2, none⟩ = some (.int .i64 120) ∧ u.cell? ⟨A, 3, none⟩ = some (.int .i64 29) ∧ u.cell? ⟨A, 4, none⟩ = some (.bool false) ∧ u.cell? ⟨A, 5, none⟩ = some (.pointer (some ⟨T, 0, none⟩)) ∧ u.cell? ⟨A, 6, none⟩ = some (.int .i64 c)) (first | go_keep | exact HA.out.cell) (first
    | (go_at_call 37; refine ((HAt _ HA.out).out).mono ?_; rintro e9 w2 ⟨rfl, hb2⟩; have HA := hide (HA.out.below hb2); have HT := hide (HT.out.below hb2); have HB := hide (HB.out.trans (hb2.mono HB.out.size)); clear hb2)
    | (go_at_call 47; refine ((HGt _ HA.out HT.out HB.out).out).mono ?_; rintro e9 w3 ⟨a3, k3, l, f', rfl, hl3, hl, hv, ht, hf, hc3, hA3⟩; have HA := hide hA3; have HG := hide (And.intro hl (And.intro hv (And.intro ht (And.intro hf (And.intro hc3 hl3))))); clear hl hv ht hf hc3 hl3 hA3))
  all_goals
    have hlb : Byts l := fun k => by
      by_cases hk : k < 8 * n
      · rw [HG.out.2.1 k hk]; exact HBy.out _
      · rw [List.getD_eq_getElem?_getD, List.getElem?_eq_none (by rw [HG.out.1]; omega)]; simp
    have hLs := list_any a3 k3 l w3 (by rw [HG.out.1]; omega) hlb HG.out.2.2.2.2.2
    rw [HG.out.1] at hLs
    have HLs := hide hLs
    clear hlb hLs
    go_wp2_with fail
    refine HLs.out.mono ?_
    rintro e9 w4 ⟨hli, hb4⟩
    have HB4 := hide hb4
    rcases hli with ⟨v, R, rfl, hoR, hRl, hRa⟩ | ⟨hbad, rfl⟩
    · have HR := hide (And.intro hoR (And.intro hRl hRa))
      clear hoR hRl hRa hb4
      go_wp2_with fail
      go_ret2
      refine ⟨l, f', HG.out.1, HG.out.2.1, Or.inl ⟨_, R, rfl, HR.out.1.mono HG.out.2.2.2.2.1.size, HR.out.2.1, HR.out.2.2⟩, HG.out.2.2.1.below HB4.out, HG.out.2.2.2.1, HG.out.2.2.2.2.1.trans (Chg.of_below HB4.out)⟩
    · have HR := hide hbad
      clear hbad hb4
      go_wp2_with fail
      go_ret2
      refine ⟨l, f', HG.out.1, HG.out.2.1, Or.inr ⟨HR.out, rfl⟩, HG.out.2.2.1.below HB4.out, HG.out.2.2.2.1, HG.out.2.2.2.2.1.trans (Chg.of_below HB4.out)⟩
end Go.Proofs.YtibkhgmmjhlpmaaGreat.Oct
