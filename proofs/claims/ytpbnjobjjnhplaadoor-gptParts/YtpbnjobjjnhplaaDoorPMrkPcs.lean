/- Between each two places where something begins or ends all bytes are alike. -/
import Derived.Test.YtpbnjobjjnhplaaDoorPPut
import Derived.Test.YtpbnjobjjnhplaaDoorPJnr
namespace Go.Proofs.YtpbnjobjjnhplaaDoor.Oct
open Go.RowKit

/-- A set as it lies: where, its capacity, its parts. -/
structure Row3 where
  a : Option Addr
  c : Nat
  L : List (Int × Int)

def Row3.nil : Row3 := ⟨none, 0, []⟩

/-- Sets lie from the address on. -/
def LiesS (w : World) (a : Option Addr) (S : List Row3) : Prop :=
  S = [] ∨ ∃ b off, a = some ⟨b, off, none⟩ ∧ b < w.heap.size ∧ ∀ k, k < S.length → w.cell? ⟨b, off + k, none⟩ = some (.slice (S.getD k Row3.nil).a (S.getD k Row3.nil).L.length (S.getD k Row3.nil).c) ∧ LiesE w (S.getD k Row3.nil).a (S.getD k Row3.nil).L

/-- The ends of parts, put in. -/
def mk1 (acc : List Int) (L : List (Int × Int)) : List Int := L.foldl (fun acc p => insI p.2 (insI p.1 acc)) acc
def mkS (acc : List Int) (S : List Row3) : List Int := S.foldl (fun acc s => mk1 acc s.L) acc

theorem mk1_snoc (acc : List Int) (L : List (Int × Int)) (p : Int × Int) : mk1 acc (L ++ [p]) = insI p.2 (insI p.1 (mk1 acc L)) := by simp [mk1]
theorem mkS_snoc (acc : List Int) (S : List Row3) (s : Row3) : mkS acc (S ++ [s]) = mk1 (mkS acc S) s.L := by simp [mkS]

theorem mk1_mem : ∀ (L : List (Int × Int)) (acc : List Int) (x : Int), x ∈ mk1 acc L ↔ x ∈ acc ∨ ∃ p ∈ L, x = p.1 ∨ x = p.2
  | [], acc, x => by simp [mk1]
  | p :: L, acc, x => by
    have ih := mk1_mem L (insI p.2 (insI p.1 acc)) x
    have e : mk1 acc (p :: L) = mk1 (insI p.2 (insI p.1 acc)) L := rfl
    rw [e, ih, insI_mem, insI_mem]
    clear ih e
    constructor
    · rintro ((h | h | h) | ⟨q, hq, h⟩)
      · exact Or.inr ⟨p, by simp, Or.inr h⟩
      · exact Or.inr ⟨p, by simp, Or.inl h⟩
      · exact Or.inl h
      · exact Or.inr ⟨q, by simp [hq], h⟩
    · rintro (h | ⟨q, hq, h⟩)
      · exact Or.inl (Or.inr (Or.inr h))
      · rcases List.mem_cons.1 hq with rfl | hq
        · rcases h with h | h
          · exact Or.inl (Or.inr (Or.inl h))
          · exact Or.inl (Or.inl h)
        · exact Or.inr ⟨q, hq, h⟩

theorem mk1_rise : ∀ (L : List (Int × Int)) (acc : List Int), acc.Pairwise (· < ·) → (mk1 acc L).Pairwise (· < ·)
  | [], _, h => h
  | _ :: L, _, h => mk1_rise L _ (insI_rise _ _ (insI_rise _ _ h))

theorem mk1_len : ∀ (L : List (Int × Int)) (acc : List Int), (mk1 acc L).length ≤ acc.length + 2 * L.length
  | [], _ => by simp [mk1]
  | p :: L, acc => by
    have h := mk1_len L (insI p.2 (insI p.1 acc))
    have h1 := insI_len p.2 (insI p.1 acc)
    have h2 := insI_len p.1 acc
    have e : mk1 acc (p :: L) = mk1 (insI p.2 (insI p.1 acc)) L := rfl
    rw [e]
    simp
    omega

theorem mkS_mem : ∀ (S : List Row3) (acc : List Int) (x : Int), x ∈ mkS acc S ↔ x ∈ acc ∨ ∃ s ∈ S, ∃ p ∈ s.L, x = p.1 ∨ x = p.2
  | [], acc, x => by simp [mkS]
  | s :: S, acc, x => by
    have e : mkS acc (s :: S) = mkS (mk1 acc s.L) S := rfl
    rw [e, mkS_mem S, mk1_mem]
    constructor
    · rintro ((h | h) | ⟨t, ht, h⟩)
      · exact Or.inl h
      · exact Or.inr ⟨s, by simp, h⟩
      · exact Or.inr ⟨t, by simp [ht], h⟩
    · rintro (h | ⟨t, ht, h⟩)
      · exact Or.inl (Or.inl h)
      · rcases List.mem_cons.1 ht with rfl | ht
        · exact Or.inl (Or.inr h)
        · exact Or.inr ⟨t, ht, h⟩

theorem mkS_rise : ∀ (S : List Row3) (acc : List Int), acc.Pairwise (· < ·) → (mkS acc S).Pairwise (· < ·)
  | [], _, h => h
  | _ :: S, _, h => mkS_rise S _ (mk1_rise _ _ h)

theorem take_stepS (S : List Row3) (k : Nat) (hk : k < S.length) : S.take (k + 1) = S.take k ++ [S.getD k Row3.nil] := by
  have e : S.getD k Row3.nil = S[k] := by simp [hk]
  rw [List.take_succ_eq_append_getElem hk, e]

theorem mkS_len (S : List Row3) (m : Nat) (h : ∀ s ∈ S, s.L.length ≤ m) : ∀ (acc : List Int), (mkS acc S).length ≤ acc.length + 2 * m * S.length := by
  induction S with
  | nil => intro acc; simp [mkS]
  | cons s S ih =>
    intro acc
    have h1 := ih (fun t ht => h t (by simp [ht])) (mk1 acc s.L)
    have h2 := mk1_len s.L acc
    have h3 := h s (by simp)
    have e : mkS acc (s :: S) = mkS (mk1 acc s.L) S := rfl
    rw [e]
    simp only [List.length_cons, Nat.mul_add, Nat.mul_one]
    omega

set_option maxHeartbeats 4000000 in
set_option maxRecDepth 100000 in
theorem marks_any (w : World) (a : Option Addr) (c : Nat) (S : List Row3) (h : LiesS w a S) (hl : S.length ≤ 10) (hm : ∀ s ∈ S, s.L.length ≤ 1000) :
    Calls Tryd.prog 65 #[.slice a S.length c] w fun e w' => ∃ v, e = .returned v ∧ OwnI w' w.heap.size v (mkS [] S) ∧ RowKit.Below w.heap.size w w' := by
  have HL := hide h
  have HM := hide hm
  clear h hm
  go_enter Tryd.func65, Tryd.ntmps65
  go_wp2_with fail
  go_loopw [3, 4] (fun v i wr => ∃ k : Nat, k ≤ S.length ∧ i = .int .i64 k ∧ OwnI wr w.heap.size v (mkS [] (S.take k)) ∧ RowKit.Below w.heap.size w wr) (fun _ i _ => S.length - (intOf i).toNat)
  case atStart => exact ⟨0, by omega, by simp, OwnI.nil _ _, RowKit.Below.refl _ _⟩
  case round =>
    obtain ⟨k, hk, rfl, ho, hbel⟩ := hrel
    obtain ⟨W0, hW0⟩ : ∃ W0, W0 = wr := ⟨_, rfl⟩
    subst hW0
    have HO := hide ho
    have HBel := hide hbel
    clear ho hbel
    by_cases hlt : k < S.length
    · rcases HL.out with hnil | ⟨b, off, ha, hb, hc⟩
      · rw [hnil] at hlt; simp at hlt
      subst ha
      obtain ⟨q0, q1⟩ := hc k hlt
      have hk0 : (0 : Int) ≤ (k : Int) := by omega
      have hk1 : (k : Int) < (S.length : Int) := by omega
      have HT := hide (take_stepS S k hlt)
      have hAcc : (mkS [] (S.take k)).length ≤ 20000 := by
        have := mkS_len (S.take k) 1000 (fun s hs => HM.out s (List.mem_of_mem_take hs)) []
        simp at this
        omega
      have hLl : (S.getD k Row3.nil).L.length ≤ 1000 := by
        have e : S.getD k Row3.nil = S[k] := by simp [hlt]
        rw [e]
        exact HM.out _ (List.getElem_mem hlt)
      obtain ⟨s, hs⟩ : ∃ s, s = S.getD k Row3.nil := ⟨_, rfl⟩
      rw [← hs] at q0 q1 HT hLl
      obtain ⟨acc, hacc⟩ : ∃ acc, acc = mkS [] (S.take k) := ⟨_, rfl⟩
      rw [← hacc] at HO hAcc
      have HAc := hide hacc
      obtain ⟨sa, sc, L⟩ := s
      dsimp only at q0 q1 HT hLl
      have HQ0 := hide q0
      have HQ1 := hide q1
      clear hc hs hacc q0 q1
      go_wp2_with fail
      go_loopw [3, 5] (fun v i wr => ∃ j : Nat, j ≤ L.length ∧ i = .int .i64 j ∧ OwnI wr w.heap.size v (mk1 acc (L.take j)) ∧ RowKit.Below w.heap.size w wr) (fun _ i _ => L.length - (intOf i).toNat)
      case atStart => exact ⟨0, by omega, by simp, by simpa [mk1] using HO.out, HBel.out⟩
      case round =>
        obtain ⟨j, hj, rfl, ho, hbel⟩ := hrel
        have HO1 := hide ho
        have HB1 := hide hbel
        have s0 := (hbel.cell (p := ⟨b, off + k, none⟩) hb).trans HQ0.out
        obtain ⟨ao, co, hvo, hli, _, _⟩ := ho.form
        subst hvo
        have HLi := hide hli
        clear ho hbel hli
        by_cases hjl : j < L.length
        · rcases HQ1.out with hnil | ⟨bl, ol, hsa, hbl, hcl⟩
          · rw [hnil] at hjl; simp at hjl
          subst hsa
          obtain ⟨p0, p1⟩ := hcl j hjl
          have r0 := (HB1.out.cell (p := ⟨bl, ol + j * 2, none⟩) hbl).trans p0
          have HP1 := hide p1
          have hj0 : (0 : Int) ≤ (j : Int) := by omega
          have hj1 : (j : Int) < (L.length : Int) := by omega
          have HTj := hide (take_step L j hjl)
          obtain ⟨x, hx⟩ : ∃ x, x = L.getD j (0, 0) := ⟨_, rfl⟩
          rw [← hx] at r0 HP1 HTj
          obtain ⟨x1, x2⟩ := x
          dsimp only at r0 HP1
          have hml := mk1_len (L.take j) acc
          have hm2 : (L.take j).length ≤ 1000 := by simp; omega
          obtain ⟨O, hO⟩ : ∃ O, O = mk1 acc (L.take j) := ⟨_, rfl⟩
          rw [← hO] at HO1 HLi hml ⊢
          have HOe := hide hO
          have H1 := hide (put_any wr ao co O x1 HLi.out (by omega))
          clear hcl p0 p1 hx hO
          go_wp2_with (first
            | (go_at_call 76; refine H1.out.mono ?_; rintro e w4 ⟨v4, rfl, ho4, hb4⟩; have HB4 := hide (HB1.out.trans (hb4.mono HB1.out.size)); obtain ⟨a4, c4, hv4, hl4, _, _⟩ := ho4.form; subst hv4; have s4 := (HB4.out.cell (p := ⟨b, off + k, none⟩) hb).trans HQ0.out; have r4 := (HB4.out.cell (p := ⟨bl, ol + j * 2 + 1, none⟩) hbl).trans HP1.out; have H2 := hide (put_any w4 a4 c4 _ x2 hl4 (by have := insI_len x1 O; omega)); clear ho4 hb4 hl4 H1)
            | (go_at_call 76; refine H2.out.mono ?_; rintro e w5 ⟨v5, rfl, ho5, hb5⟩; have HB5 := hide (HB4.out.trans (hb5.mono HB4.out.size)); have HO5 := hide (OwnI.mono ho5 HB4.out.size); clear ho5 hb5))
          have ho6 := HO5.out
          rw [HOe.out, ← mk1_snoc acc (L.take j) (x1, x2), ← HTj.out] at ho6
          refine ⟨⟨j + 1, by omega, by go_num, ho6, HB5.out⟩, ?_⟩
          simp [intOf]; omega
        · obtain rfl : j = L.length := by omega
          have HO2 : Hid (OwnI wr w.heap.size (.slice ao (mk1 acc (L.take L.length)).length co) (mkS [] (S.take (k + 1)))) := hide (by
            rw [HT.out, mkS_snoc, ← HAc.out]
            have := HO1.out
            rw [List.take_length] at this ⊢
            exact this)
          go_wp2_with fail
          refine ⟨⟨k + 1, by omega, by go_num, HO2.out, HB1.out⟩, ?_⟩
          simp [intOf]; omega
    · obtain rfl : k = S.length := by omega
      go_wp2_with fail
      go_ret
      have := HO.out
      rw [List.take_length] at this
      exact ⟨_, rfl, this, HBel.out⟩

end Go.Proofs.YtpbnjobjjnhplaaDoor.Oct

namespace Go.Proofs.YtpbnjobjjnhplaaDoor.Oct

open Classical in
/-- The pieces between places, of those that begin well. -/
noncomputable def pieces (M : List Int) (p : Int → Prop) (k : Nat) : List (Int × Int) :=
  ((List.range k).filter (fun i => decide (p (M.getD i 0)))).map (fun i => (M.getD i 0, M.getD (i + 1) 0))

open Classical in
theorem pieces_yes {M : List Int} {p : Int → Prop} {k : Nat} (h : p (M.getD k 0)) : pieces M p (k + 1) = pieces M p k ++ [(M.getD k 0, M.getD (k + 1) 0)] := by
  unfold pieces
  rw [List.range_succ, List.filter_append, List.map_append]
  have : decide (p (M.getD k 0)) = true := by simpa using h
  rw [List.filter_cons_of_pos (by simpa using this)]
  simp

open Classical in
theorem pieces_no {M : List Int} {p : Int → Prop} {k : Nat} (h : ¬ p (M.getD k 0)) : pieces M p (k + 1) = pieces M p k := by
  unfold pieces
  rw [List.range_succ, List.filter_append, List.map_append, List.filter_cons_of_neg (by simpa using h)]
  simp

theorem pieces_len (M : List Int) (p : Int → Prop) (k : Nat) : (pieces M p k).length ≤ k := by
  unfold pieces
  rw [List.length_map]
  exact Nat.le_trans (List.length_filter_le _ _) (by simp)

theorem pieces_mem {M : List Int} {p : Int → Prop} {k : Nat} {q : Int × Int} (h : q ∈ pieces M p k) : ∃ i, i < k ∧ p (M.getD i 0) ∧ q = (M.getD i 0, M.getD (i + 1) 0) := by
  unfold pieces at h
  obtain ⟨i, hi, rfl⟩ := List.mem_map.1 h
  obtain ⟨h1, h2⟩ := List.mem_filter.1 hi
  exact ⟨i, by simpa using h1, by simpa using h2, rfl⟩

theorem pieces_of {M : List Int} {p : Int → Prop} {k i : Nat} (hi : i < k) (h : p (M.getD i 0)) : (M.getD i 0, M.getD (i + 1) 0) ∈ pieces M p k := by
  unfold pieces
  exact List.mem_map.2 ⟨i, List.mem_filter.2 ⟨by simpa using hi, by simpa using h⟩, rfl⟩

theorem rise_at {M : List Int} (hr : M.Pairwise (· < ·)) {i j : Nat} (hij : i < j) (hj : j < M.length) : M.getD i 0 < M.getD j 0 := by
  have h := List.pairwise_iff_getElem.1 hr i j (by omega) hj hij
  have h1 : i < M.length := by omega
  simpa [h1, hj] using h

theorem rise_le {M : List Int} (hr : M.Pairwise (· < ·)) {i j : Nat} (hij : i ≤ j) (hj : j < M.length) : M.getD i 0 ≤ M.getD j 0 := by
  rcases Nat.lt_or_eq_of_le hij with h | rfl
  · exact Int.le_of_lt (rise_at hr h hj)
  · exact Int.le_refl _

theorem rise_back {M : List Int} (hr : M.Pairwise (· < ·)) {i j : Nat} (hi : i < M.length) (h : M.getD i 0 < M.getD j 0) : i < j := by
  rcases Nat.lt_or_ge i j with h1 | h1
  · exact h1
  · have := rise_le hr h1 hi
    omega

theorem pieces_steps {M : List Int} (hr : M.Pairwise (· < ·)) (p : Int → Prop) : ∀ k, (k = 0 ∨ k < M.length) → Steps2 (pieces M p k)
  | 0, _ => ⟨fun q hq => by obtain ⟨i, hi, _⟩ := pieces_mem hq; omega, by simp [pieces]⟩
  | k + 1, hk => by
    have hk : k + 1 < M.length := by omega
    have ih := pieces_steps hr p k (Or.inr (by omega))
    by_cases h : p (M.getD k 0)
    · rw [pieces_yes h]
      refine ⟨fun q hq => ?_, List.pairwise_append.2 ⟨ih.sort, by simp, fun q hq q' hq' => ?_⟩⟩
      · rcases List.mem_append.1 hq with hq | hq
        · exact ih.fill q hq
        · simp only [List.mem_singleton] at hq
          subst hq
          exact rise_at hr (by omega) hk
      · simp only [List.mem_singleton] at hq'
        subst hq'
        obtain ⟨i, hi, _, rfl⟩ := pieces_mem hq
        exact rise_le hr (by omega) (by omega)
    · rw [pieces_no h]
      exact ih

theorem between {M : List Int} {x : Int} : ∀ (d a : Nat), M.getD a 0 ≤ x → x < M.getD (a + d) 0 → ∃ i, a ≤ i ∧ i < a + d ∧ M.getD i 0 ≤ x ∧ x < M.getD (i + 1) 0
  | 0, a, h1, h2 => by simp only [Nat.add_zero] at h2; omega
  | d + 1, a, h1, h2 => by
    by_cases h : x < M.getD (a + 1) 0
    · exact ⟨a, by omega, by omega, h1, h⟩
    · obtain ⟨i, h3, h4, h5⟩ := between (M := M) (x := x) d (a + 1) (by omega) (by rw [show a + 1 + d = a + (d + 1) by omega]; exact h2)
      exact ⟨i, by omega, by omega, h5⟩

/-- What doesn't change between two places that are next to each other, and is nowhere ahead of the first or behind the last. -/
structure Even (M : List Int) (p : Int → Prop) : Prop where
  rise : M.Pairwise (· < ·)
  same : ∀ i x, i + 1 < M.length → M.getD i 0 ≤ x → x < M.getD (i + 1) 0 → (p x ↔ p (M.getD i 0))
  lies : ∀ x, p x → ∃ a b, a ∈ M ∧ b ∈ M ∧ a ≤ x ∧ x < b

theorem mem_at {M : List Int} {x : Int} (h : x ∈ M) : ∃ i, i < M.length ∧ M.getD i 0 = x := by
  obtain ⟨i, hi, rfl⟩ := List.getElem_of_mem h
  exact ⟨i, hi, by simp [hi]⟩

theorem Even.set {M : List Int} {p : Int → Prop} (h : Even M p) (x : Int) : InE (pieces M p (M.length - 1)) x ↔ p x := by
  constructor
  · rintro ⟨q, hq, h1, h2⟩
    obtain ⟨i, hi, hp, rfl⟩ := pieces_mem hq
    exact (h.same i x (by omega) h1 h2).2 hp
  · intro hp
    obtain ⟨a, b, ha, hb, h1, h2⟩ := h.lies x hp
    obtain ⟨i, hi, rfl⟩ := mem_at ha
    obtain ⟨j, hj, rfl⟩ := mem_at hb
    have hij : i < j := rise_back h.rise hi (by omega)
    obtain ⟨r, h3, h4, h5, h6⟩ := between (j - i) i h1 (by rw [show i + (j - i) = j by omega]; exact h2)
    exact ⟨_, pieces_of (by omega) ((h.same r x (by omega) h5 h6).1 hp), h5, h6⟩

/-- A set whose ends are among the places. -/
theorem inE_same {M : List Int} (hr : M.Pairwise (· < ·)) {L : List (Int × Int)} (hL : ∀ q ∈ L, q.1 ∈ M ∧ q.2 ∈ M) {i : Nat} {x : Int} (hi : i + 1 < M.length) (h1 : M.getD i 0 ≤ x) (h2 : x < M.getD (i + 1) 0) : InE L x ↔ InE L (M.getD i 0) := by
  constructor
  · rintro ⟨q, hq, h3, h4⟩
    obtain ⟨a, ha, e⟩ := mem_at (hL q hq).1
    refine ⟨q, hq, ?_, by omega⟩
    rw [← e]
    refine rise_le hr ?_ (by omega)
    rcases Nat.lt_or_ge i a with h5 | h5
    · have := rise_le hr (show i + 1 ≤ a by omega) ha
      omega
    · exact h5
  · rintro ⟨q, hq, h3, h4⟩
    obtain ⟨b, hb, e⟩ := mem_at (hL q hq).2
    refine ⟨q, hq, by omega, ?_⟩
    have h5 : i < b := rise_back hr (by omega) (by omega)
    have := rise_le hr (show i + 1 ≤ b by omega) hb
    omega

theorem even_one {M : List Int} (hr : M.Pairwise (· < ·)) {L : List (Int × Int)} (hL : ∀ q ∈ L, q.1 ∈ M ∧ q.2 ∈ M) : Even M (InE L) :=
  ⟨hr, fun _ _ hi h1 h2 => inE_same hr hL hi h1 h2, fun _ ⟨q, hq, h1, h2⟩ => ⟨q.1, q.2, (hL q hq).1, (hL q hq).2, h1, h2⟩⟩

end Go.Proofs.YtpbnjobjjnhplaaDoor.Oct
