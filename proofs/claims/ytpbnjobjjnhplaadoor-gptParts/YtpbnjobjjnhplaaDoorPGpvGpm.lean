/- Rows of the document's entries, the call's own. -/
import Derived.Test.YtpbnjobjjnhplaaDoorPGpuGpx
import Derived.Test.YtpbnjobjjnhplaaDoorPRdLow
import Derived.Test.YtpbnjobjjnhplaaDoorPZerGpk
import Derived.Test.YtpbnjobjjnhplaaDoorPWrLst
import Derived.Laws.OwnMore
namespace Go.Proofs.YtpbnjobjjnhplaaDoor.Oct
open Go.RowKit

theorem num_congrG (l m : List Int) (p q : Nat) : ∀ n, (∀ i, i < n → l.getD (p + i) 0 = m.getD (q + i) 0) → num l p n = num m q n
  | 0, _ => rfl
  | n + 1, h => by rw [num, num, num_congrG l m p q n (fun i hi => h i (by omega)), h n (by omega)]

theorem bytesOf_getG (v : Int) : ∀ (k i : Nat), i < k → (bytesOf v k).getD i 0 = v / 256 ^ i % 256
  | 0, i, h => by omega
  | k + 1, i, h => by
    show (bytesOf v k ++ [v / 256 ^ k % 256]).getD i 0 = _
    rw [List.getD_eq_getElem?_getD]
    by_cases hk : i < k
    · rw [List.getElem?_append_left (by rw [bytesOf_length]; exact hk), ← List.getD_eq_getElem?_getD, bytesOf_getG v k i hk]
    · obtain rfl : i = k := by omega
      rw [List.getElem?_append_right (by rw [bytesOf_length]; omega), bytesOf_length, Nat.sub_self]
      rfl

/-- A number that is put among bytes is read there. -/
theorem num_atG (A B : List Int) (v : Int) (k : Nat) (h0 : 0 ≤ v) (h1 : v < 256 ^ k) : num (A ++ (bytesOf v k ++ B)) A.length k = v := by
  rw [num_of _ _ v k (fun i hi => ?_), Int.emod_eq_of_lt h0 h1]
  rw [List.getD_eq_getElem?_getD, List.getElem?_append_right (by omega), List.getElem?_append_left (by rw [bytesOf_length]; omega), Nat.add_sub_cancel_left, ← List.getD_eq_getElem?_getD, bytesOf_getG v k i hi, Int.pow_mul]
  rfl

theorem part_atG (A B C : List Int) : ((A ++ (B ++ C)).drop A.length).take B.length = B := by
  rw [List.drop_left', List.take_left']
  · rfl
  · rfl

/-- A number among parts. -/
theorem num_flat (ps : List (List Int)) (i : Nat) (v : Int) (k off : Nat) (h : ps[i]? = some (bytesOf v k)) (ho : ((ps.map List.length).take i).sum = off) (h0 : 0 ≤ v) (h1 : v < 256 ^ k) : num ps.flatten off k = v := by
  have hi := (List.getElem?_eq_some_iff.1 h).1
  have hg := (List.getElem?_eq_some_iff.1 h).2
  have e : ps.flatten = (ps.take i).flatten ++ (bytesOf v k ++ (ps.drop (i + 1)).flatten) := by
    conv => lhs; rw [← List.take_append_drop i ps, List.drop_eq_getElem_cons hi, hg]
    simp
  have e2 : ((ps.take i).flatten).length = off := by rw [List.length_flatten, List.map_take]; exact ho
  rw [e, ← e2]
  exact num_atG _ _ v k h0 h1

theorem part_flat (ps : List (List Int)) (i : Nat) (m : List Int) (off n : Nat) (h : ps[i]? = some m) (ho : ((ps.map List.length).take i).sum = off) (hn : m.length = n) : (ps.flatten.drop off).take n = m := by
  have hi := (List.getElem?_eq_some_iff.1 h).1
  have hg := (List.getElem?_eq_some_iff.1 h).2
  have e : ps.flatten = (ps.take i).flatten ++ (m ++ (ps.drop (i + 1)).flatten) := by
    conv => lhs; rw [← List.take_append_drop i ps, List.drop_eq_getElem_cons hi, hg]
    simp
  have e2 : ((ps.take i).flatten).length = off := by rw [List.length_flatten, List.map_take]; exact ho
  rw [e, ← e2, ← hn]
  exact part_atG _ _ _

theorem magG_len : magG.length = 8 := rfl

/-- A header's parts, with the sum s. -/
def headP (h : Hd) (s : Int) : List (List Int) :=
  [magG, bytesOf 65536 4, bytesOf 92 4, bytesOf s 4, List.replicate 4 0, bytesOf h.own 8, bytesOf h.oth 8, bytesOf h.fst 8, bytesOf h.lst 8, h.id, bytesOf h.at_ 8, bytesOf h.cnt 4, bytesOf 128 4, bytesOf h.sum 4]

/-- The bytes that are summed: the sum's own place is nought. -/
def headZ (h : Hd) : List Int := (headP h 0).flatten

/-- A header's sector. -/
def headL (h : Hd) : List Int := (headP h (moreC 0 (headZ h))).flatten ++ List.replicate 420 0

theorem headP_lens (h : Hd) (s : Int) (hid : h.id.length = 16) : (headP h s ++ [List.replicate 420 0]).map List.length = [8, 4, 4, 4, 4, 8, 8, 8, 8, 16, 8, 4, 4, 4, 420] := by
  simp only [headP, List.cons_append, List.nil_append, List.map_cons, List.map_nil, bytesOf_length, List.length_replicate, hid, magG_len]

theorem headP_len (h : Hd) (s : Int) (hid : h.id.length = 16) : (headP h s).flatten.length = 92 := by
  simp only [headP, List.flatten_cons, List.flatten_nil, List.length_append, List.length_nil, bytesOf_length, List.length_replicate, hid, magG_len]

theorem headL_len (h : Hd) (hid : h.id.length = 16) : (headL h).length = 512 := by
  unfold headL
  rw [List.length_append, headP_len h _ hid, List.length_replicate]

theorem low8 (x : Int) (h : x ≤ 8388608) : x < 256 ^ 8 := by
  have : (256 : Int) ^ 8 = 18446744073709551616 := by decide
  omega
theorem low4 (x : Int) (h : x ≤ 8388608) : x < 256 ^ 4 := by
  have : (256 : Int) ^ 4 = 4294967296 := by decide
  omega

theorem bytesOf_zero : ∀ k, bytesOf 0 k = List.replicate k 0
  | 0 => rfl
  | k + 1 => by
    rw [bytesOf, bytesOf_zero k, List.replicate_succ']
    simp

theorem moreC_bd (s : Nat) (l : List Int) : (0 : Int) ≤ (moreC s l : Int) ∧ (moreC s l : Int) < 4294967296 := by
  unfold moreC
  omega

theorem headL_eq (h : Hd) : headL h = (headP h (moreC 0 (headZ h)) ++ [List.replicate 420 0]).flatten := by
  unfold headL
  rw [List.flatten_append, List.flatten_cons, List.flatten_nil, List.append_nil]

theorem blank_head (h : Hd) (hid : h.id.length = 16) : blankG (headL h) = headZ h := by
  obtain ⟨s, hs⟩ : ∃ s : Int, s = moreC 0 (headZ h) := ⟨_, rfl⟩
  have e : headL h = (magG ++ (bytesOf 65536 4 ++ bytesOf 92 4)) ++ (bytesOf s 4 ++ ((List.replicate 4 0 ++ (bytesOf h.own 8 ++ (bytesOf h.oth 8 ++ (bytesOf h.fst 8 ++ (bytesOf h.lst 8 ++ (h.id ++ (bytesOf h.at_ 8 ++ (bytesOf h.cnt 4 ++ (bytesOf 128 4 ++ bytesOf h.sum 4))))))))) ++ List.replicate 420 0)) := by
    unfold headL
    rw [← hs]
    simp only [headP, List.flatten_cons, List.flatten_nil, List.append_nil, List.append_assoc]
  have e1 : (magG ++ (bytesOf 65536 4 ++ bytesOf 92 4)).length = 16 := by simp only [List.length_append, bytesOf_length, magG_len]
  have e2 : (List.replicate 4 0 ++ (bytesOf h.own 8 ++ (bytesOf h.oth 8 ++ (bytesOf h.fst 8 ++ (bytesOf h.lst 8 ++ (h.id ++ (bytesOf h.at_ 8 ++ (bytesOf h.cnt 4 ++ (bytesOf 128 4 ++ bytesOf h.sum 4))))))))).length = 72 := by simp only [List.length_append, bytesOf_length, List.length_replicate, hid]
  have ez : headZ h = (magG ++ (bytesOf 65536 4 ++ bytesOf 92 4)) ++ (List.replicate 4 0 ++ (List.replicate 4 0 ++ (bytesOf h.own 8 ++ (bytesOf h.oth 8 ++ (bytesOf h.fst 8 ++ (bytesOf h.lst 8 ++ (h.id ++ (bytesOf h.at_ 8 ++ (bytesOf h.cnt 4 ++ (bytesOf 128 4 ++ bytesOf h.sum 4)))))))))) := by
    unfold headZ headP
    rw [bytesOf_zero]
    simp only [List.flatten_cons, List.flatten_nil, List.append_nil, List.append_assoc]
  rw [ez, e]
  generalize (magG ++ (bytesOf 65536 4 ++ bytesOf 92 4)) = P at *
  generalize (List.replicate 4 0 ++ (bytesOf h.own 8 ++ (bytesOf h.oth 8 ++ (bytesOf h.fst 8 ++ (bytesOf h.lst 8 ++ (h.id ++ (bytesOf h.at_ 8 ++ (bytesOf h.cnt 4 ++ (bytesOf 128 4 ++ bytesOf h.sum 4))))))))) = R at *
  unfold blankG
  have t1 : (P ++ (bytesOf s 4 ++ (R ++ List.replicate 420 0))).take 16 = P := by rw [← e1, List.take_left']; rfl
  have t2 : (P ++ (bytesOf s 4 ++ (R ++ List.replicate 420 0))).drop 20 = R ++ List.replicate 420 0 := by
    rw [← List.append_assoc, List.drop_left']
    rw [List.length_append, e1, bytesOf_length]
  rw [t1, t2]
  congr 2
  rw [← e2, List.take_left']
  rfl

theorem numG_eq {l : List Int} {p : Nat} {v : Int} (h : num l p 8 = v) (hv : v ≤ 8388608) : numG l p = v := by
  unfold numG
  rw [h, if_pos hv]

theorem allZ_zero (n : Nat) : allZ (List.replicate n 0) = true := by
  rw [allZ_rep]
  simp

/-- A header that is laid is told. -/
theorem decG_head (h : Hd) (hg : h.good) : decG (headL h) = (h, 0) := by
  have hid := hg.id
  have hC := moreC_bd 0 (headZ h)
  have hln := headP_lens h (moreC 0 (headZ h)) hid
  have nf := fun (i : Nat) (v : Int) (k off : Nat) (h1 : _) (h2 : _) (h3 : 0 ≤ v) (h4 : v < 256 ^ k) => num_flat (headP h (moreC 0 (headZ h)) ++ [List.replicate 420 0]) i v k off h1 h2 h3 h4
  rw [← headL_eq] at nf
  have pf := fun (i : Nat) (m : List Int) (off n : Nat) (h1 : _) (h2 : _) (h3 : m.length = n) => part_flat (headP h (moreC 0 (headZ h)) ++ [List.replicate 420 0]) i m off n h1 h2 h3
  rw [← headL_eq] at pf
  have p4 : (256 : Int) ^ 4 = 4294967296 := by decide
  have n8 := nf 1 65536 4 8 rfl (by rw [hln]; rfl) (by decide) (by decide)
  have n12 := nf 2 92 4 12 rfl (by rw [hln]; rfl) (by decide) (by decide)
  have n16 := nf 3 (moreC 0 (headZ h)) 4 16 rfl (by rw [hln]; rfl) hC.1 (by rw [p4]; exact hC.2)
  have n20 : num (headL h) 20 4 = 0 := by
    have := nf 4 0 4 20 (by rw [bytesOf_zero]; rfl) (by rw [hln]; rfl) (by decide) (by decide)
    exact this
  have b8 : ∀ x : Int, x ≤ 8388608 → x < 256 ^ 8 := low8
  have b4 : ∀ x : Int, x ≤ 8388608 → x < 256 ^ 4 := low4
  have n24 := nf 5 h.own 8 24 rfl (by rw [hln]; rfl) hg.own.1 (b8 _ hg.own.2)
  have n32 := nf 6 h.oth 8 32 rfl (by rw [hln]; rfl) hg.oth.1 (b8 _ hg.oth.2)
  have n40 := nf 7 h.fst 8 40 rfl (by rw [hln]; rfl) hg.fst.1 (b8 _ hg.fst.2)
  have n48 := nf 8 h.lst 8 48 rfl (by rw [hln]; rfl) hg.lst.1 (b8 _ hg.lst.2)
  have p56 := pf 9 h.id 56 16 rfl (by rw [hln]; rfl) hid
  have n72 := nf 10 h.at_ 8 72 rfl (by rw [hln]; rfl) hg.at_.1 (b8 _ hg.at_.2)
  have n80 := nf 11 h.cnt 4 80 rfl (by rw [hln]; rfl) (by have := hg.cnt; omega) (b4 _ (by have := hg.cnt; omega))
  have n84 := nf 12 128 4 84 rfl (by rw [hln]; rfl) (by decide) (by decide)
  have n88 := nf 13 h.sum 4 88 rfl (by rw [hln]; rfl) hg.sum.1 (by rw [p4]; exact hg.sum.2)
  have p0 := pf 0 magG 0 8 rfl (by rw [hln]; rfl) (by decide)
  rw [List.drop_zero] at p0
  have p92 : (headL h).drop 92 = List.replicate 420 0 := by
    unfold headL
    rw [List.drop_left']
    exact headP_len h _ hid
  have hf : formG (headL h) = true := by
    unfold formG
    rw [n8, n12, n20, n84, p92, allZ_zero]
    rfl
  have hh : hdOf (headL h) = h := by
    unfold hdOf
    rw [numG_eq n40 hg.fst.2, numG_eq n48 hg.lst.2, p56, n80, n88, numG_eq n24 hg.own.2, numG_eq n32 hg.oth.2, numG_eq n72 hg.at_.2]
  unfold decG
  rw [if_pos p0, if_pos ⟨hf, by rw [n80]; exact hg.cnt.1, by rw [n80]; exact hg.cnt.2⟩, if_pos (by rw [n16, blank_head h hid]), hh]

/-- An entry's bytes. -/
def entP (x : E4) : List (List Int) := [x.ids, bytesOf x.fi 8, bytesOf x.la 8, x.rest]
def entB (x : E4) : List Int := (entP x).flatten

/-- Its numbers are small. -/
def E4.low (x : E4) : Prop := (0 ≤ x.fi ∧ x.fi ≤ 8388608) ∧ (0 ≤ x.la ∧ x.la ≤ 8388608)

theorem entP_lens (x : E4) (h : x.ok) : (entP x).map List.length = [32, 8, 8, 80] := by
  simp only [entP, List.map_cons, List.map_nil, bytesOf_length, h.1, h.2]

theorem entB_len {x : E4} (h : x.ok) : (entB x).length = 128 := by
  simp [entB, entP, bytesOf_length, h.1, h.2]

theorem entOf_back (x : E4) (h : x.ok) (hl : x.low) : entOf (entB x) = x := by
  have b8 : ∀ y : Int, y ≤ 8388608 → y < 256 ^ 8 := low8
  have hln := entP_lens x h
  have n32 := num_flat (entP x) 1 x.fi 8 32 rfl (by rw [hln]; rfl) hl.1.1 (b8 _ hl.1.2)
  have n40 := num_flat (entP x) 2 x.la 8 40 rfl (by rw [hln]; rfl) hl.2.1 (b8 _ hl.2.2)
  have p0 := part_flat (entP x) 0 x.ids 0 32 rfl rfl h.1
  have p48 := part_flat (entP x) 3 x.rest 48 80 rfl (by rw [hln]; rfl) h.2
  rw [List.drop_zero] at p0
  show entOf (entP x).flatten = x
  unfold entOf
  rw [p0, numG_eq n32 hl.1.2, numG_eq n40 hl.2.2, p48]

/-- The entries' bytes. -/
def bytL (L : List E4) : List Int := L.flatMap entB

theorem bytL_len : ∀ (L : List E4), (∀ x ∈ L, x.ok) → (bytL L).length = 128 * L.length
  | [], _ => rfl
  | x :: L, h => by
    have := bytL_len L (fun y hy => h y (List.mem_cons_of_mem _ hy))
    unfold bytL at this ⊢
    rw [List.flatMap_cons, List.length_append, entB_len (h x (by simp)), this, List.length_cons]
    omega

theorem ents_back : ∀ (L : List E4), (∀ x ∈ L, x.ok) → (∀ x ∈ L, x.low) → entsOf (bytL L) L.length = L
  | [], _, _ => rfl
  | x :: L, h, hl => by
    have ih := ents_back L (fun y hy => h y (List.mem_cons_of_mem _ hy)) (fun y hy => hl y (List.mem_cons_of_mem _ hy))
    have hx := entB_len (h x (by simp))
    show entsOf (entB x ++ bytL L) (L.length + 1) = x :: L
    unfold entsOf at ih ⊢
    rw [List.range_succ_eq_map, List.map_cons, List.map_map, Nat.mul_zero, List.drop_zero, List.take_left' hx, entOf_back x (h x (by simp)) (hl x (by simp))]
    congr 1
    conv => rhs; rw [← ih]
    refine List.map_congr_left fun k _ => ?_
    show entOf (((entB x ++ bytL L).drop (128 * (k + 1))).take 128) = _
    rw [show 128 * (k + 1) = 128 + 128 * k by omega, ← List.drop_drop, List.drop_left' hx]

/-- What is laid over bytes, and what isn't. -/
theorem over_in (l m : List Int) (p k : Nat) (h : p + m.length ≤ l.length) (hk : k ≤ m.length) : ((over l p m).drop p).take k = m.take k := by
  have ht : (l.take p).length = p := by rw [List.length_take]; omega
  unfold over
  rw [List.drop_left' ht, List.take_append_of_le_length hk]

theorem over_off (l m : List Int) (p q k : Nat) (h : p + m.length ≤ l.length) (hd : q + k ≤ p ∨ p + m.length ≤ q) : ((over l p m).drop q).take k = (l.drop q).take k := by
  have ht : (l.take p).length = p := by rw [List.length_take]; omega
  refine List.ext_getElem? fun i => ?_
  simp only [List.getElem?_take, List.getElem?_drop]
  by_cases hi : i < k
  · rw [if_pos hi, if_pos hi]
    unfold over
    rcases hd with hd | hd
    · rw [List.getElem?_append_left (by rw [ht]; omega), List.getElem?_take, if_pos (by omega)]
    · rw [List.getElem?_append_right (by rw [ht]; omega), List.getElem?_append_right (by rw [ht]; omega), List.getElem?_drop, ht]
      congr 1
      omega
  · rw [if_neg hi, if_neg hi]

/-- The first header of a table, the second. -/
def Tb.head1 (t : Tb) : Hd := ⟨t.fst, t.lst, t.id, t.L.length, moreC 0 (bytL t.L), 1, t.sec - 1, t.at_⟩
def Tb.head2 (t : Tb) : Hd := ⟨t.fst, t.lst, t.id, t.L.length, moreC 0 (bytL t.L), t.sec - 1, 1, t.beh⟩

/-- Filled up to whole sectors. -/
def padG (l : List Int) : List Int := l ++ List.replicate ((512 - l.length % 512) % 512) 0

/-- A disk with a table on it. -/
def laidG (d : List Int) (t : Tb) : List Int :=
  over (over (over (over d (512 * t.at_.toNat) (padG (bytL t.L))) 512 (headL t.head1)) (512 * t.beh.toNat) (padG (bytL t.L))) (512 * t.sec.toNat - 512) (headL t.head2)

theorem padG_len (l : List Int) : (padG l).length = 512 * ((l.length + 511) / 512) := by
  unfold padG
  rw [List.length_append, List.length_replicate]
  omega

theorem padG_take (l : List Int) : (padG l).take l.length = l := by
  unfold padG
  rw [List.take_left']
  rfl

/-- Where a table is one: its numbers. -/
theorem chk_low (t : Tb) (h : t.chk = 0) : (6 ≤ t.sec ∧ t.sec ≤ 32768) ∧ (1 ≤ t.L.length ∧ t.L.length ≤ 128) ∧ t.placed ∧ t.chkL t.L = 0 := by
  unfold Tb.chk at h
  by_cases h1 : 6 ≤ t.sec ∧ t.sec ≤ 32768 ∧ 1 ≤ t.L.length ∧ t.L.length ≤ 128
  · rw [if_pos h1] at h
    by_cases h2 : t.placed
    · rw [if_pos h2] at h
      by_cases h3 : t.chkL t.L = 0
      · exact ⟨⟨h1.1, h1.2.1⟩, h1.2.2, h2, h3⟩
      · rw [if_neg h3] at h
        exact absurd h h3
    · rw [if_neg h2] at h
      exact absurd h (by decide)
  · rw [if_neg h1] at h
    exact absurd h (by decide)

theorem chk_ents (t : Tb) (h : t.chk = 0) : ∀ x ∈ t.L, x.low := by
  obtain ⟨hs, hn, hp, hc⟩ := chk_low t h
  intro x hx
  have h1 := chkL_all t t.L hc x hx
  unfold Tb.chkE at h1
  have hr : 0 ≤ rowsG t.L.length := by unfold rowsG; omega
  unfold Tb.placed at hp
  by_cases hxn : x.none = true
  · rw [if_pos hxn] at h1
    split at h1
    · rename_i he
      subst he
      exact ⟨⟨by decide, by decide⟩, ⟨by decide, by decide⟩⟩
    · exact absurd h1 (by decide)
  · rw [if_neg hxn] at h1
    split at h1
    · unfold E4.low
      omega
    · exact absurd h1 (by decide)

/-- A table that is one, laid on a disk, is there. -/
theorem par_laid (d : List Int) (t : Tb) (hid : t.id.length = 16) (hok : ∀ x ∈ t.L, x.ok) (hd : (d.length : Int) = 512 * t.sec) (h : t.chk = 0) : errG (laidG d t) = 0 ∧ parG (laidG d t) = t := by
  obtain ⟨hs, hn, hp, hc⟩ := chk_low t h
  have hlow := chk_ents t h
  have hbl := bytL_len t.L hok
  have hpl := padG_len (bytL t.L)
  rw [hbl] at hpl
  have hr : rowsG t.L.length = (((128 * t.L.length + 511) / 512 : Nat) : Int) := by unfold rowsG; omega
  obtain ⟨r, hr'⟩ : ∃ r, r = (128 * t.L.length + 511) / 512 := ⟨_, rfl⟩
  rw [← hr'] at hr hpl
  have hr1 : 128 * t.L.length ≤ 512 * r ∧ 1 ≤ r := by omega
  unfold Tb.placed at hp
  rw [hr] at hp
  have hC := moreC_bd 0 (bytL t.L)
  have g1 : t.head1.good := ⟨hid, ⟨by show (1 : Int) ≤ (t.L.length : Int); omega, by show (t.L.length : Int) ≤ 128; omega⟩, ⟨by show 0 ≤ t.at_; omega, by show t.at_ ≤ _; omega⟩, ⟨by show (0 : Int) ≤ 1; omega, by show (1 : Int) ≤ _; omega⟩, ⟨by show 0 ≤ t.sec - 1; omega, by show t.sec - 1 ≤ _; omega⟩, hC, ⟨by show 0 ≤ t.fst; omega, by show t.fst ≤ _; omega⟩, ⟨by show 0 ≤ t.lst; omega, by show t.lst ≤ _; omega⟩⟩
  have g2 : t.head2.good := ⟨hid, ⟨by show (1 : Int) ≤ (t.L.length : Int); omega, by show (t.L.length : Int) ≤ 128; omega⟩, ⟨by show 0 ≤ t.beh; omega, by show t.beh ≤ _; omega⟩, ⟨by show 0 ≤ t.sec - 1; omega, by show t.sec - 1 ≤ _; omega⟩, ⟨by show (0 : Int) ≤ 1; omega, by show (1 : Int) ≤ _; omega⟩, hC, ⟨by show 0 ≤ t.fst; omega, by show t.fst ≤ _; omega⟩, ⟨by show 0 ≤ t.lst; omega, by show t.lst ≤ _; omega⟩⟩
  have l1 := headL_len t.head1 hid
  have l2 := headL_len t.head2 hid
  obtain ⟨S, hS⟩ : ∃ S : Nat, t.sec = (S : Int) := ⟨t.sec.toNat, by omega⟩
  obtain ⟨A, hA⟩ : ∃ A : Nat, t.at_ = (A : Int) := ⟨t.at_.toNat, by omega⟩
  obtain ⟨Z, hZ⟩ : ∃ Z : Nat, t.beh = (Z : Int) := ⟨t.beh.toNat, by omega⟩
  have hdl : d.length = 512 * S := by omega
  obtain ⟨d1, hd1⟩ : ∃ d1, d1 = over d (512 * A) (padG (bytL t.L)) := ⟨_, rfl⟩
  have hl1 : d1.length = 512 * S := by rw [hd1, over_length (by omega)]; exact hdl
  obtain ⟨d2, hd2⟩ : ∃ d2, d2 = over d1 512 (headL t.head1) := ⟨_, rfl⟩
  have hl2 : d2.length = 512 * S := by rw [hd2, over_length (by omega)]; exact hl1
  obtain ⟨d3, hd3⟩ : ∃ d3, d3 = over d2 (512 * Z) (padG (bytL t.L)) := ⟨_, rfl⟩
  have hl3 : d3.length = 512 * S := by rw [hd3, over_length (by omega)]; exact hl2
  have hL : laidG d t = over d3 (512 * S - 512) (headL t.head2) := by
    unfold laidG
    rw [hS, hA, hZ]
    simp only [Int.toNat_natCast]
    rw [← hd1, ← hd2, ← hd3]
  obtain ⟨D, hD⟩ : ∃ D, D = laidG d t := ⟨_, rfl⟩
  rw [← hD] at hL ⊢
  have hDl : D.length = 512 * S := by rw [hL, over_length (by omega)]; exact hl3
  have hdiv : D.length / 512 = S := by omega
  have s1 : secD D 1 = headL t.head1 := by
    unfold secD
    rw [hL, over_off _ _ _ _ _ (by omega) (by omega), hd3, over_off _ _ _ _ _ (by omega) (by omega), hd2, show 512 * 1 = 512 from rfl, over_in _ _ _ _ (by omega) (by omega), ← l1, List.take_length]
  have s2 : secD D (D.length / 512 - 1) = headL t.head2 := by
    unfold secD
    rw [hdiv, show 512 * (S - 1) = 512 * S - 512 by omega, hL, over_in _ _ _ _ (by omega) (by omega), ← l2, List.take_length]
  have f1 : fstD D = (t.head1, 0) := by unfold fstD; rw [s1, decG_head _ g1]
  have f2 : sndD D = (t.head2, 0) := by unfold sndD; rw [s2, decG_head _ g2]
  have hpt : (padG (bytL t.L)).take (128 * t.L.length) = bytL t.L := by rw [← hbl]; exact padG_take _
  have b1 : bytD D t.head1 = bytL t.L := by
    show (D.drop (512 * t.at_.toNat)).take (128 * (t.L.length : Int).toNat) = _
    rw [hA, Int.toNat_natCast, Int.toNat_natCast, hL, over_off _ _ _ _ _ (by omega) (by omega), hd3, over_off _ _ _ _ _ (by omega) (by omega), hd2, over_off _ _ _ _ _ (by omega) (by omega), hd1, over_in _ _ _ _ (by omega) (by omega), hpt]
  have b2 : bytD D t.head2 = bytL t.L := by
    show (D.drop (512 * t.beh.toNat)).take (128 * (t.L.length : Int).toNat) = _
    rw [hZ, Int.toNat_natCast, Int.toNat_natCast, hL, over_off _ _ _ _ _ (by omega) (by omega), hd3, over_in _ _ _ _ (by omega) (by omega), hpt]
  have e1 : lstG D t.head1 = 0 := by
    unfold lstG
    rw [if_pos (by show t.at_ * 512 + (t.L.length : Int) * 128 ≤ _; omega), if_pos (by rw [b1]; rfl)]
  have e2 : lstG D t.head2 = 0 := by
    unfold lstG
    rw [if_pos (by show t.beh * 512 + (t.L.length : Int) * 128 ≤ _; omega), if_pos (by rw [b2]; rfl)]
  have hbo : bothD D := by
    unfold bothD
    rw [f1, f2, hdiv]
    refine ⟨rfl, ?_, ?_, rfl, rfl⟩
    · show t.sec - 1 = _; omega
    · show t.sec - 1 = _; omega
  have ht : tabD D t.head1 t.head2 = t := by
    unfold tabD
    rw [hdiv, b1, ← hS]
    show (⟨t.sec, t.fst, t.lst, t.id, entsOf (bytL t.L) (t.L.length : Int).toNat, t.at_, t.beh⟩ : Tb) = t
    rw [Int.toNat_natCast, ents_back t.L hok hlow]
  have he : errG D = 0 := by
    unfold errG
    rw [if_pos ⟨by omega, by omega⟩, f1, f2, if_pos rfl, if_pos rfl, if_pos hbo, if_pos e1, if_pos e2, ht, h]
  refine ⟨he, ?_⟩
  unfold parG
  rw [if_pos he, f1, f2, ht]
end Go.Proofs.YtpbnjobjjnhplaaDoor.Oct

namespace Go.Proofs.YtpbnjobjjnhplaaDoor.Oct
open Go.RowKit

/-- A document's entry as it lies. -/
abbrev D4 := Value × Int × Int × Value
def zd4 : D4 := (.slice none 0 0, 0, 0, .slice none 0 0)
def encD (x : D4) : List Value := [x.1, .int .i64 x.2.1, .int .i64 x.2.2.1, x.2.2.2]

/-- What it says. -/
def SaysD (w : World) (d : D4) (x : E4) : Prop := SlG w d.1 x.ids ∧ d.2.1 = x.fi ∧ d.2.2.1 = x.la ∧ SlG w d.2.2.2 x.rest

theorem SaysD.below {w w' : World} {d : D4} {x : E4} (h : SaysD w d x) (hb : Below w.heap.size w w') : SaysD w' d x := ⟨h.1.below hb, h.2.1, h.2.2.1, h.2.2.2.below hb⟩

def OwnD (w : World) (B : Nat) (v : Value) (V : List D4) : Prop := w.ownsRow B 72 4 v V.length (V.flatMap encD)

theorem flatD_get : ∀ (L : List D4) (k j : Nat), k < L.length → j < 4 → (L.flatMap encD)[k * 4 + j]? = (encD (L.getD k zd4))[j]?
  | [], k, j, hk, _ => by simp at hk
  | x :: L, 0, j, _, hj => by
    simp only [List.flatMap_cons, Nat.zero_mul, Nat.zero_add]
    rw [List.getElem?_append_left (by simp [encD]; omega)]
    simp
  | x :: L, k + 1, j, hk, hj => by
    simp only [List.flatMap_cons]
    rw [List.getElem?_append_right (by simp [encD]; omega)]
    have := flatD_get L k j (by simpa using hk) hj
    simp only [List.getD_cons_succ]
    rw [← this]
    congr 1
    simp [encD]
    omega

theorem OwnD.cells {w : World} {B g n cap : Nat} {L : List D4} (h : OwnD w B (.slice (some ⟨g, 0, none⟩) n cap) L) (k : Nat) (hk : k < L.length) (j : Nat) (hj : j < 4) : w.cell? ⟨g, k * 4 + j, none⟩ = (encD (L.getD k zd4))[j]? := by
  have hc := World.ownsRow.cells (g := g) h rfl
  have hf := flatD_get L k j hk hj
  have h3 : j < (encD (L.getD k zd4)).length := by simp [encD]; omega
  rw [List.getElem?_eq_getElem h3] at hf ⊢
  have := hc _ _ hf
  rw [Go.WideShapes.add_plain, Nat.zero_add] at this
  exact this

theorem OwnD.nil (w : World) (B : Nat) : OwnD w B (.slice none 0 0) [] := World.ownsRow_nil _ _ _ _
theorem OwnD.baseG {w : World} {B : Nat} {v : Value} {L : List D4} (h : OwnD w B v L) : ∀ g, v.ownBlock = some g → B ≤ g := fun g hg => (World.ownsRow.lt h g hg).1
theorem OwnD.chg {X : Nat → Prop} {w w' : World} {B : Nat} {v : Value} {L : List D4} (h : OwnD w B v L) (hg : Chg X w w') (hne : ∀ g, v.ownBlock = some g → ¬ X g) : OwnD w' B v L := ownsRow_chg h hg hne
theorem OwnD.below {w w' : World} {B : Nat} {v : Value} {L : List D4} (h : OwnD w B v L) (hb : Below w.heap.size w w') : OwnD w' B v L :=
  h.chg (X := fun i => w.heap.size ≤ i) ⟨hb.os, hb.tape, hb.output, hb.size, fun i hi _ => hb.block i hi⟩ (fun g hg h2 => by have := (World.ownsRow.lt h g hg).2; omega)

/-- The document's entries, from the call's own row. -/
theorem OwnD.lies {w : World} {B : Nat} {v : Value} {V : List D4} {L : List E4} (h : OwnD w B v V) (hl : V.length = L.length) (hs : ∀ (k : Nat) x, L[k]? = some x → SaysD w (V.getD k zd4) x) : ∃ a c, v = .slice a L.length c ∧ LiesD w a L := by
  have h0 := h
  rcases h.2 with ⟨rfl, hn⟩ | ⟨g, cap, cur, rfl, hb, hh, h1, h2, h3, h4⟩
  · have hV : V.length = 0 := hn
    have hL : L = [] := List.length_eq_zero_iff.1 (by omega)
    subst hL
    exact ⟨none, 0, rfl, Or.inl rfl⟩
  · have hlt := (Array.getElem?_eq_some_iff.1 hh).1
    refine ⟨_, cap, by rw [← hl], Or.inr ⟨g, 0, rfl, hlt, fun k x hk => ?_⟩⟩
    have hkl : k < V.length := by rw [hl]; exact (List.getElem?_eq_some_iff.1 hk).1
    obtain ⟨s1, s2, s3, s4⟩ := hs k x hk
    refine ⟨(V.getD k zd4).1, (V.getD k zd4).2.2.2, ?_, ?_, ?_, ?_, s1, s4⟩
    · rw [Nat.zero_add]; exact OwnD.cells h0 k hkl 0 (by omega)
    · rw [Nat.zero_add, OwnD.cells h0 k hkl 1 (by omega), ← s2]; rfl
    · rw [Nat.zero_add, OwnD.cells h0 k hkl 2 (by omega), ← s3]; rfl
    · rw [Nat.zero_add]; exact OwnD.cells h0 k hkl 3 (by omega)

theorem infoD : (Tryd.prog.info? 72).map (fun i => (i.zero, i.size, i.bytes)) = some (some (.agg #[.slice none 0 0, .int .i64 0, .int .i64 0, .slice none 0 0]), 4, 64) := by kernel_rfl

theorem run_append_D {ty : TypeId} (w : World) (B : Nat) (v : Value) (O : List D4) (hown : OwnD w B v O) (b n : Nat) (z : D4) (hc : ∀ j u, (encD z)[j]? = some u → w.cell? ⟨b, j, none⟩ = some u) (h1 : z.1.oneCell' = true) (h2 : z.2.2.2.oneCell' = true) (hlen : O.length + 1 ≤ 10000000) (hB : B ≤ w.heap.size) :
    ∃ v' w', (Builtin.append_ #[32, 32] ty #[v, .slice (some ⟨b, 0, none⟩) 1 n]).run Tryd.prog w = .ok v' w' ∧ OwnD w' B v' (O ++ [z]) ∧ w.grownBy w' v.ownBlock ∧ (v'.ownBlock = v.ownBlock ∨ v'.ownBlock = some w.heap.size) := by
  obtain ⟨i, hi, hz0, hz1, hz2⟩ := info_parts infoD
  obtain ⟨v', w', hrun, ho, hg, _, h5⟩ := run_append_own_at (P := Tryd.prog) w B 32 ty 72 i (.agg #[.slice none 0 0, .int .i64 0, .int .i64 0, .slice none 0 0]) 4 64 Tryd.underlying32 hi hz0 hz1 hz2 rfl (by decide) v O.length (O.flatMap encD) hown ⟨b, 0, none⟩ 1 n (encD z) rfl
    (fun j u hj => by rw [Go.WideShapes.add_plain, Nat.zero_add]; exact hc j u hj) (by
      intro u hu
      simp only [encD, List.mem_cons, List.not_mem_nil, or_false] at hu
      rcases hu with rfl | rfl | rfl | rfl
      · exact h1
      · rfl
      · rfl
      · exact h2) (by unfold maxLen; omega) (by omega) hB
  refine ⟨v', w', hrun, ?_, hg, h5⟩
  unfold OwnD
  rw [List.flatMap_append, List.length_append]
  simpa using ho

/-- Not in a block of the two. -/
def AwayG (B : Nat) (v : Value) (X : Nat) (r : Option Nat) : Prop := ∀ a n c, v = .slice (some a) n c → B ≤ a.block ∧ a.block ≠ X ∧ some a.block ≠ r

theorem SlG.chgG {K : Nat → Prop} {w w' : World} {v : Value} {l : List Int} (h : SlG w v l) (hc : Chg K w w') (hne : ∀ a n c, v = .slice (some a) n c → ¬ K a.block) : SlG w' v l := by
  obtain ⟨a, c, rfl, hs⟩ := h
  exact ⟨a, c, rfl, hs.le, hs.max, hs.none, hs.lies.chg hc (fun x hx => by subst hx; exact hne x _ _ rfl)⟩

/-- A copy of some bytes, with its length: where it lies. -/
theorem part_n (b off cap n : Nat) (l : List Int) (w : World) (hn : l.length = n) (h0 : 0 < n) (hlen : n ≤ 1000000) (hcap : n ≤ cap) (hl : Lies w (some ⟨b, off, none⟩) l) :
    Calls Tryd.prog 33 #[.slice (some ⟨b, off, none⟩) n cap, .int .i64 0, .int .i64 (n : Int)] w fun e w' => ∃ v, e = .returned v ∧ SlG w' v l ∧ v.oneCell' = true ∧ (∀ a m c, v = .slice (some a) m c → w.heap.size ≤ a.block ∧ a.block < w'.heap.size) ∧ Below w.heap.size w w' := by
  subst hn
  refine (Part_some b off cap l w hlen h0 hcap hl).mono ?_
  rintro e w' ⟨v, rfl, ho, hb⟩
  obtain ⟨a, c, rfl, hs, hg⟩ := ho.sl
  refine ⟨_, rfl, ⟨a, c, rfl, hs⟩, rfl, ?_, hb⟩
  intro a' m c' e
  cases e
  obtain ⟨g, e, h1, h2⟩ := hg (fun e => by rw [e] at h0; exact absurd h0 (by decide))
  cases e
  exact ⟨h1, h2⟩

/-- What of holds after some rounds: its table in X, the entries in a row of its own. -/
structure OfI (B : Nat) (w : World) (X : Nat) (t : Tb) (vi v : Value) (V : List D4) (k : Nat) : Prop where
  blk : Blk w X (t.rc vi v) 34
  own : OwnD w (X + 1) v V
  len : V.length = k
  says : ∀ (j : Nat) x, j < k → t.L[j]? = some x → SaysD w (V.getD j zd4) x ∧ AwayG B (V.getD j zd4).1 X v.ownBlock ∧ AwayG B (V.getD j zd4).2.2.2 X v.ownBlock
  id : SlG w vi t.id ∧ AwayG B vi X v.ownBlock

theorem OfI.below {B : Nat} {w w' : World} {X : Nat} {t : Tb} {vi v : Value} {V : List D4} {k : Nat} (h : OfI B w X t vi v V k) (hb : Below w.heap.size w w') : OfI B w' X t vi v V k :=
  ⟨h.blk.below hb, h.own.below hb, h.len, fun j x hj hx => ⟨(h.says j x hj hx).1.below hb, (h.says j x hj hx).2⟩, h.id.1.below hb, h.id.2⟩

theorem SlG.ltG {w : World} {v : Value} {l : List Int} (h : SlG w v l) (hl : l ≠ []) : ∀ a n c, v = .slice (some a) n c → a.block < w.heap.size := by
  obtain ⟨a, c, rfl, hs⟩ := h
  intro a' n c' e
  cases e
  rcases hs.lies with h | ⟨b, off, e, h, _⟩
  · exact absurd h hl
  · cases e; exact h

/-- One more. -/
theorem OfI.step {B : Nat} {w w8 : World} {X : Nat} {t : Tb} {vi v v8 : Value} {V : List D4} {k : Nat} {x : E4} {z : D4} (h : OfI B w X t vi v V k) (hok : ∀ x ∈ t.L, x.ok) (hid : t.id.length = 16) (hx : t.L[k]? = some x) (hz : SaysD w z x) (a1 : AwayG B z.1 X v.ownBlock) (a2 : AwayG B z.2.2.2 X v.ownBlock)
    (ho : OwnD w8 (X + 1) v8 (V ++ [z])) (hg : w.grownBy w8 v.ownBlock) (h5 : v8.ownBlock = v.ownBlock ∨ v8.ownBlock = some w.heap.size) (w9 : World) (hw9 : w9 = w8.setCell ⟨X, 4, none⟩ v8) : OfI B w9 X t vi v8 (V ++ [z]) (k + 1) := by
  have hc8 := Chg.of_grown hg
  have hXb : ¬ some X = v.ownBlock := fun e => by have := h.own.baseG X e.symm; omega
  have hc9 : Chg (fun i => some i = v.ownBlock ∨ i = X) w w9 := by
    rw [hw9]
    refine ⟨hc8.os, hc8.tape, hc8.output, by simpa using hc8.size, fun i hi hn => ?_⟩
    exact (Below.heap_setCell _ _ _ _ (fun e => hn (Or.inr e))).trans (hc8.block i hi (fun e => hn (Or.inl e)))
  have aw : ∀ u, AwayG B u X v.ownBlock → ∀ a n c, u = .slice (some a) n c → ¬ (some a.block = v.ownBlock ∨ a.block = X) := fun u hu a n c e hh => by
    obtain ⟨q0, q1, q2⟩ := hu a n c e
    rcases hh with hh | hh
    · exact q2 hh
    · exact q1 hh
  have aw2 : ∀ u l, SlG w u l → l ≠ [] → AwayG B u X v.ownBlock → AwayG B u X v8.ownBlock := fun u l hs hl hu a n c e => by
    obtain ⟨q0, q1, q2⟩ := hu a n c e
    refine ⟨q0, q1, fun hh => ?_⟩
    rcases h5 with h5 | h5
    · exact q2 (hh.trans h5)
    · have := hs.ltG hl a n c e
      rw [h5] at hh
      have := Option.some.inj hh
      omega
  have hkl : k < t.L.length := (List.getElem?_eq_some_iff.1 hx).1
  have nz : ∀ x ∈ t.L, x.ids ≠ [] ∧ x.rest ≠ [] := fun x hx => ⟨fun e => by have := (hok x hx).1; rw [e] at this; simp at this, fun e => by have := (hok x hx).2; rw [e] at this; simp at this⟩
  have hxm : x ∈ t.L := List.mem_of_getElem? hx
  refine ⟨?_, ?_, by simp [h.len], fun j y hj hy => ?_, h.id.1.chgG hc9 (aw vi h.id.2), aw2 vi _ h.id.1 (fun e => by rw [e] at hid; simp at hid) h.id.2⟩
  · rw [hw9]
    have := (h.blk.chg hc8 hXb).set 4 v8
    simpa using this
  · rw [hw9]
    refine ho.chg (X := fun i => i = X) ⟨rfl, rfl, rfl, by simp, fun i _ hi => Below.heap_setCell _ _ _ _ hi⟩ (fun g hg2 e => by have := ho.baseG g hg2; omega)
  · by_cases hjk : j < k
    · obtain ⟨q1, q2, q3⟩ := h.says j y hjk hy
      have hym : y ∈ t.L := List.mem_of_getElem? hy
      have hg0 : (V ++ [z]).getD j zd4 = V.getD j zd4 := by
        rw [List.getD_eq_getElem?_getD, List.getD_eq_getElem?_getD, List.getElem?_append_left (by rw [h.len]; exact hjk)]
      rw [hg0]
      exact ⟨⟨q1.1.chgG hc9 (aw _ q2), q1.2.1, q1.2.2.1, q1.2.2.2.chgG hc9 (aw _ q3)⟩, aw2 _ _ q1.1 (nz y hym).1 q2, aw2 _ _ q1.2.2.2 (nz y hym).2 q3⟩
    · obtain rfl : j = k := by omega
      rw [hx] at hy
      cases hy
      have hg0 : (V ++ [z]).getD j zd4 = z := by
        rw [List.getD_eq_getElem?_getD, List.getElem?_append_right (by rw [h.len]; omega)]
        simp [h.len]
      rw [hg0]
      exact ⟨⟨hz.1.chgG hc9 (aw _ a1), hz.2.1, hz.2.2.1, hz.2.2.2.chgG hc9 (aw _ a2)⟩, aw2 _ _ hz.1 (nz x hxm).1 a1, aw2 _ _ hz.2.2.2 (nz x hxm).2 a2⟩
end Go.Proofs.YtpbnjobjjnhplaaDoor.Oct
