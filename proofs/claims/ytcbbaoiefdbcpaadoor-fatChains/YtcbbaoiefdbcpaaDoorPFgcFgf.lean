/- A volume that is made, behind patches: the law's bytes. -/
import Derived.Test.YtcbbaoiefdbcpaaDoorPFgb
import Derived.Test.YtcbbaoiefdbcpaaDoorPFnz
import Derived.Test.YtcbbaoiefdbcpaaDoorPFrp
import Derived.Deep.CutRange
namespace Go.Proofs.YtcbbaoiefdbcpaaDoor.Oct
open Go.RowKit

theorem byts_overX {l m : List Int} {p : Nat} (hl : Byts l) (hm : Byts m) (hp : p + m.length ≤ l.length) : Byts (over l p m) := by
  intro k
  rw [over_getF _ _ _ hp]
  split
  · exact hm _
  · exact hl _

theorem byts_take {l : List Int} (h : Byts l) (n : Nat) : Byts (l.take n) := Byts.take h n

/-- Where a patch is laid. -/
def atX (n : Nat) (x : PX) : Nat := (x.at_ % 18446744073709551616 % (n : Int)).toNat

/-- Its bytes that fit. -/
def cutX (n : Nat) (x : PX) : List Int := x.B.take (n - atX n x)

/-- Is it laid over the second table, too? -/
def twX (lg n : Nat) (x : PX) : Bool := x.tw && decide (2048 ≤ atX n x) && decide (atX n x + (cutX n x).length ≤ 2048 + 512 * lg)

/-- Bytes behind a patch. -/
def stepX (lg n : Nat) (d : List Int) (x : PX) : List Int :=
  if twX lg n x = true then over (over d (atX n x) (cutX n x)) (atX n x + 512 * lg) (cutX n x) else over d (atX n x) (cutX n x)

theorem atX_lt {n : Nat} (hn : 0 < n) (x : PX) : atX n x < n := by
  unfold atX
  have h1 := Int.emod_nonneg (x.at_ % 18446744073709551616) (b := (n : Int)) (by omega)
  have h2 := Int.emod_lt_of_pos (x.at_ % 18446744073709551616) (b := (n : Int)) (by omega)
  omega

theorem cutX_len {n : Nat} (x : PX) : (cutX n x).length = min (n - atX n x) x.B.length := by
  unfold cutX
  rw [List.length_take]

theorem cutX_fit {n : Nat} (hn : 0 < n) (x : PX) : atX n x + (cutX n x).length ≤ n := by
  have h1 := atX_lt hn x
  have h2 := cutX_len (n := n) x
  omega

theorem twX_says {lg n : Nat} {x : PX} (h : twX lg n x = true) : 2048 ≤ atX n x ∧ atX n x + (cutX n x).length ≤ 2048 + 512 * lg := by
  unfold twX at h
  simp at h
  exact ⟨h.1.2, h.2⟩

theorem stepX_len {lg n : Nat} (hn : 2048 + 1024 * lg ≤ n) {d : List Int} (hd : d.length = n) (x : PX) : (stepX lg n d x).length = n := by
  have h1 := cutX_fit (n := n) (by omega) x
  have h2 : (over d (atX n x) (cutX n x)).length = n := by rw [over_length (by rw [hd]; exact h1), hd]
  unfold stepX
  split
  · rename_i ht
    have h3 := twX_says ht
    rw [over_length (by rw [h2]; omega), h2]
  · exact h2

theorem stepX_byts {lg n : Nat} (hn : 2048 + 1024 * lg ≤ n) {d : List Int} (hd : d.length = n) (hb : Byts d) (x : PX) (hx : Byts x.B) : Byts (stepX lg n d x) := by
  have h1 := cutX_fit (n := n) (by omega) x
  have hc : Byts (cutX n x) := byts_take hx _
  have h2 : (over d (atX n x) (cutX n x)).length = n := by rw [over_length (by rw [hd]; exact h1), hd]
  have h3 : Byts (over d (atX n x) (cutX n x)) := byts_overX hb hc (by rw [hd]; exact h1)
  unfold stepX
  split
  · rename_i ht
    have h4 := twX_says ht
    exact byts_overX h3 hc (by rw [h2]; omega)
  · exact h3

/-- Behind so many patches. -/
def patX (s e : Nat) (X : List PX) (j : Nat) : List Int := (X.take j).foldl (stepX (lgM s e) (512 * s)) (m5 s e)

theorem patX_step (s e : Nat) (X : List PX) (j : Nat) (h : j < X.length) : patX s e X (j + 1) = stepX (lgM s e) (512 * s) (patX s e X j) (X.getD j PX.z) := by
  unfold patX
  rw [List.take_add_one, List.getElem?_eq_getElem h, List.foldl_append]
  simp [h]

theorem patX_all {s e : Nat} (h1 : 16 ≤ s) (h2 : s ≤ 2000) (e1 : 1 ≤ e) (e2 : e ≤ 8) (X : List PX) (hX : ∀ o ∈ X, Byts o.B) : ∀ j, j ≤ X.length → (patX s e X j).length = 512 * s ∧ Byts (patX s e X j)
  | 0, _ => by
    unfold patX
    exact ⟨m5_len h1 h2 e1 e2, bytsM s e ⟨e1, e2⟩⟩
  | j + 1, hj => by
    have ih := patX_all h1 h2 e1 e2 X hX j (by omega)
    have hl := lg_says h1 h2 e1 e2
    have hm : X.getD j PX.z ∈ X := by
      have e : X.getD j PX.z = X[j] := by simp [show j < X.length by omega]
      rw [e]
      exact List.getElem_mem _
    rw [patX_step _ _ _ _ (by omega)]
    exact ⟨stepX_len (by omega) ih.1 _, stepX_byts (by omega) ih.1 ih.2 _ (hX _ hm)⟩

/-- All of it. -/
def diskX (s e : Nat) (X : List PX) (r : Bool) : List Int := if r = true then over (patX s e X X.length) 1000 (bytesOf 4294967295 4) else patX s e X X.length

theorem diskX_all {s e : Nat} (h1 : 16 ≤ s) (h2 : s ≤ 2000) (e1 : 1 ≤ e) (e2 : e ≤ 8) (X : List PX) (hX : ∀ o ∈ X, Byts o.B) (r : Bool) : (diskX s e X r).length = 512 * s ∧ Byts (diskX s e X r) := by
  have h := patX_all h1 h2 e1 e2 X hX X.length (Nat.le_refl _)
  unfold diskX
  split
  · refine ⟨?_, byts_overX h.2 (Byts.bytesOf _ _) (by rw [bytesOf_length, h.1]; omega)⟩
    rw [over_length (by rw [bytesOf_length, h.1]; omega), h.1]
  · exact h

/-- Each number of sectors, and of sectors a cluster, that these disks have makes a volume. -/
theorem chkX : ∀ i : Nat, i < 200 → ∀ q : Nat, q < 4 → (Bt.mk (([1, 2, 4, 8] : List Int).getD q 0) 4 2 (20 + (i : Int)) ((lgM (20 + i) (([1, 2, 4, 8] : List Nat).getD q 0) : Nat) : Int) 2 1 2).chk = 0 := by decide +kernel
end Go.Proofs.YtcbbaoiefdbcpaaDoor.Oct

namespace Go.Proofs.YtcbbaoiefdbcpaaDoor.Oct
open Go.RowKit

def sX (S : Int) : Nat := 20 + (S % 18446744073709551616 % 200).toNat
def qX (E : Int) : Nat := (E % 18446744073709551616 % 4).toNat
def eX (E : Int) : Nat := ([1, 2, 4, 8] : List Nat).getD (qX E) 0

theorem sX_says (S : Int) : 20 ≤ sX S ∧ sX S < 220 := by
  unfold sX
  have h1 := Int.emod_nonneg (S % 18446744073709551616) (b := 200) (by omega)
  have h2 := Int.emod_lt_of_pos (S % 18446744073709551616) (b := 200) (by omega)
  omega

theorem qX_lt (E : Int) : qX E < 4 := by unfold qX; omega

theorem eX_says (E : Int) : 1 ≤ eX E ∧ eX E ≤ 8 ∧ ((eX E : Nat) : Int) = ([1, 2, 4, 8] : List Int).getD (qX E) 0 := by
  have h := qX_lt E
  unfold eX
  generalize qX E = q at *
  have hq : q = 0 ∨ q = 1 ∨ q = 2 ∨ q = 3 := by omega
  rcases hq with r | r | r | r <;> subst r <;> decide

theorem chk_X (S E : Int) : (bM (sX S) (eX E)).chk = 0 := by
  have hs := sX_says S
  obtain ⟨_, _, he⟩ := eX_says E
  have hq := qX_lt E
  have h := chkX (sX S - 20) (by omega) (qX E) hq
  rw [show 20 + (sX S - 20) = sX S by omega, show (20 : Int) + ((sX S - 20 : Nat) : Int) = (sX S : Int) by omega, ← he] at h
  exact h

theorem par_X (S E : Int) : parB (fM (sX S) (eX E)) = (bM (sX S) (eX E), 0) := by
  unfold fM
  exact par_put _ _ List.length_replicate (chk_X S E)

theorem take_X {s e : Nat} (h1 : 16 ≤ s) (h2 : s ≤ 2000) (e1 : 1 ≤ e) (e2 : e ≤ 8) : (m5 s e).take 512 = fM s e := by
  rw [← sM_0 (s := s) (e := e) h1 h2 e1 e2]
  rfl

theorem byts_fX {s e : Nat} (h1 : 16 ≤ s) (h2 : s ≤ 2000) (e1 : 1 ≤ e) (e2 : e ≤ 8) : Byts (fM s e) := by
  rw [← take_X h1 h2 e1 e2]
  exact (bytsM s e ⟨e1, e2⟩).take _

theorem getX {w : World} {p : Option Addr} {X : List PX} (h : LiesX w p X) {k : Nat} (hk : k < X.length) : ∃ b off, p = some ⟨b, off, none⟩ ∧
    (w.cell? ⟨b, off + k * 3, none⟩ = some (.int .i64 (X.getD k PX.z).at_) ∧ w.cell? ⟨b, off + k * 3 + 1, none⟩ = some (.slice (X.getD k PX.z).a (X.getD k PX.z).B.length (X.getD k PX.z).c) ∧ w.cell? ⟨b, off + k * 3 + 2, none⟩ = some (.bool (X.getD k PX.z).tw)) ∧
    Sl w (X.getD k PX.z).a (X.getD k PX.z).c (X.getD k PX.z).B := by
  rcases h with h | ⟨b, off, hp, _, hc⟩
  · rw [h] at hk; simp at hk
  · exact ⟨b, off, hp, hc k hk⟩

set_option maxHeartbeats 16000000 in
set_option maxRecDepth 100000 in
theorem fbytes_any (S E : Int) (a : Option Addr) (cap : Nat) (X : List PX) (r : Bool) (w : World) (hX : ∀ o ∈ X, o.B.length ≤ maxLen ∧ Byts o.B) (hl : LiesX w a X) (hn : X.length ≤ maxLen) :
    Calls Tryd.prog 4 #[.agg #[.int .i64 S, .int .i64 E, .slice a X.length cap, .bool r]] w fun e w' => ((30 < X.length ∧ e = .returned (.tuple #[.slice none 0 0, .bool false])) ∨ (X.length ≤ 30 ∧ ∃ a' c', e = .returned (.tuple #[.slice a' (512 * sX S) c', .bool true]) ∧ Sl w' a' c' (diskX (sX S) (eX E) X r))) ∧ Below w.heap.size w w' := by
  have hs := sX_says S
  obtain ⟨he1, he2, hei⟩ := eX_says E
  have hq4 := qX_lt E
  have hck := chk_X S E
  have hlg := lg_says (s := sX S) (e := eX E) (by omega) (by omega) he1 he2
  have HPar := hide (par_X S E)
  have HTk := hide (take_X (s := sX S) (e := eX E) (by omega) (by omega) he1 he2)
  have HBf := hide (byts_fX (s := sX S) (e := eX E) (by omega) (by omega) he1 he2)
  have HAl := hide (patX_all (s := sX S) (e := eX E) (by omega) (by omega) he1 he2 X (fun o ho => (hX o ho).2))
  have HRm := fun u => hide (rmade_ok (sX S) (eX E) (by omega) (by omega) he1 he2 (sX S : Int) (eX E : Int) _ _ _ _ _ rfl rfl rfl rfl rfl rfl rfl hck rfl u)
  -- the numbers
  obtain ⟨U, hU⟩ : ∃ U, U = S % 18446744073709551616 := ⟨_, rfl⟩
  have hU0 : 0 ≤ U ∧ U < 18446744073709551616 := by rw [hU]; omega
  have hwU : IntKind.u64.wrap S = U := by rw [IntKind.wrap_u64, hU]
  have hsx : ((sX S : Nat) : Int) = 20 + U % 200 := by unfold sX; rw [← hU]; omega
  have hrt : U.tmod 200 = U % 200 := by rw [Int.tmod_eq_emod_of_nonneg hU0.1]
  obtain ⟨V, hV⟩ : ∃ V, V = E % 18446744073709551616 := ⟨_, rfl⟩
  have hV0 : 0 ≤ V ∧ V < 18446744073709551616 := by rw [hV]; omega
  have hwV : IntKind.u64.wrap E = V := by rw [IntKind.wrap_u64, hV]
  obtain ⟨q, hqe⟩ : ∃ q, q = qX E := ⟨_, rfl⟩
  have hqx : (q : Int) = V % 4 := by rw [hqe]; unfold qX; rw [← hV]; omega
  have hvt : V.tmod 4 = (q : Int) := by rw [Int.tmod_eq_emod_of_nonneg hV0.1, hqx]
  have hvt2 : V % 4 = (q : Int) := hqx.symm
  have hwq : IntKind.i64.wrap (q : Int) = (q : Int) := by rw [IntKind.wrap_i64]; omega
  have hq0 : (0 : Int) ≤ (q : Int) := by omega
  have hq1 : (q : Int) < 4 := by omega
  obtain ⟨s, hse⟩ : ∃ s, s = sX S := ⟨_, rfl⟩
  obtain ⟨e, hee⟩ : ∃ e, e = eX E := ⟨_, rfl⟩
  obtain ⟨m, hme⟩ : ∃ m, m = U % 200 := ⟨_, rfl⟩
  rw [← hme] at hrt hsx
  have hwm : IntKind.i64.wrap m = m := by rw [IntKind.wrap_i64]; omega
  rw [← hse] at hsx
  have hws : IntKind.i64.wrap (20 + m) = (s : Int) := by rw [IntKind.wrap_i64, hsx]; omega
  rw [← hee, ← hqe] at hei
  rw [← hse, ← hee] at HPar HTk HBf HAl HRm hlg hck ⊢
  rw [← hse] at hs
  rw [← hee] at he1 he2
  obtain ⟨N, hN⟩ : ∃ N, N = 512 * s := ⟨_, rfl⟩
  rw [← hN] at HAl HRm ⊢
  obtain ⟨G, hG⟩ : ∃ G, G = lgM s e := ⟨_, rfl⟩
  have hG2 : (bM s e).long = (G : Int) := by unfold bM; rw [← hG]
  have HGs := hide (show 1 ≤ G ∧ G ≤ 17 ∧ 2048 + 1024 * G ≤ N ∧ N ≤ 112128 ∧ 10240 ≤ N by rw [← hG] at hlg; omega)
  obtain ⟨n, hne⟩ : ∃ n, n = X.length := ⟨_, rfl⟩
  rw [← hne] at hn ⊢
  obtain ⟨w1, hw1⟩ : ∃ w1, w1 = w.alloc (.cells #[.int .i64 S, .int .i64 E, .slice a n cap, .bool r] 24) := ⟨_, rfl⟩
  have hb1 : Below w.heap.size w w1 := by rw [hw1]; exact (Below.refl _ _).alloc (Nat.le_refl _) _
  have HI := hide (show Blk w1 w.heap.size #[.int .i64 S, .int .i64 E, .slice a n cap, .bool r] 24 by rw [hw1]; exact Blk.new _ _ _)
  have HL := hide (hl.below hb1)
  have HB := hide hb1
  have HW1 := hide hw1
  obtain ⟨w2, hw2⟩ : ∃ w2, w2 = w1.alloc (.cells #[.int .i64 1, .int .i64 2, .int .i64 4, .int .i64 8] 2) := ⟨_, rfl⟩
  have hb2 : Below w1.heap.size w1 w2 := by rw [hw2]; exact (Below.refl _ _).alloc (Nat.le_refl _) _
  have hc4 : w2.cell? ⟨w1.heap.size, q, none⟩ = some (.int .i64 (e : Int)) := by
    have hB4 : Blk w2 w1.heap.size #[.int .i64 1, .int .i64 2, .int .i64 4, .int .i64 8] 2 := by rw [hw2]; exact Blk.new _ _ _
    have hq : q = 0 ∨ q = 1 ∨ q = 2 ∨ q = 3 := by omega
    rw [hei]
    rcases hq with e | e | e | e <;> subst e
    · exact hB4.cell 0 _ rfl
    · exact hB4.cell 1 _ rfl
    · exact hB4.cell 2 _ rfl
    · exact hB4.cell 3 _ rfl
  have HI2 := hide (HI.out.below hb2)
  have HL2 := hide (HL.out.below hb2)
  have HB2 := hide (HB.out.trans (hb2.mono HB.out.size))
  have HX := hide hX
  have HNn := hide (And.intro hn hne)
  have HNe := hide hN
  have HSe := hide (And.intro hs (And.intro he1 he2))
  have hs1 : w1.heap.size = w.heap.size + 1 := by rw [hw1]; simp
  rw [hs1] at hc4
  rw [hw2] at hc4
  have HW2 := hide hw2
  have i0 := HI.out.cell 0 _ rfl
  have i1 := HI.out.cell 1 _ rfl
  have i2 := HI.out.cell 2 _ rfl
  have j0 := HI2.out.cell 0 _ rfl
  have j1 := HI2.out.cell 1 _ rfl
  have j2 := HI2.out.cell 2 _ rfl
  rw [hw1] at i0 i1 i2 hc4
  rw [hw2, hw1] at j0 j1 j2
  clear hs1 hU hU0 hV hV0 hqx hqe hse hee hme hsx hei hck hs he1 he2 hN hlg hne hn hb1 hb2 hw1 hw2 hX hl hq4
  go_enter Tryd.func4, Tryd.ntmps4
  go_wp2_with fail
  refine (HRm _).out.mono ?_
  rintro e9 w3 ⟨⟨a3, c3, rfl, hs3⟩, hb3⟩
  clear i0 i1 i2 j0 j1 j2 hc4 hws hwm hrt hwU hwV hvt hvt2 hwq hq0 hq1
  rw [← HW1.out, ← HW2.out] at hb3
  obtain ⟨gb, off, rfl⟩ : ∃ gb off, a3 = some ⟨gb, off, none⟩ := by
    rcases hs3.lies with h | ⟨b, o, h, _⟩
    · have h2 := (HAl.out 0 (by omega)).1
      have h3 : (m5 s e).length = N := h2
      rw [h] at h3
      have := HGs.out
      simp at h3
      omega
    · exact ⟨b, o, h⟩
  have HI := hide (HI2.out.below hb3)
  have HL := hide (HL2.out.below hb3)
  have HB := hide (HB2.out.trans (hb3.mono HB2.out.size))
  have i2 := HI.out.cell 2 _ rfl
  have hc3 : N ≤ c3 := by
    have h1 := hs3.le
    have h2 : (m5 s e).length = N := (HAl.out 0 (by omega)).1
    rw [h2] at h1
    exact h1
  have HS := hide (show Sl w3 (some ⟨gb, off, none⟩) c3 (patX s e X 0) from hs3)
  have hl3 : Lies w3 (some ⟨gb, off, none⟩) (fM s e) := by
    have := hs3.lies.of_part 0 512
    rw [List.drop_zero, HTk.out] at this
    exact this
  have HP : Hid (Calls Tryd.prog 15 #[.slice (some ⟨gb, off, none⟩) 512 c3] w3 fun e' w' => e' = .returned (.tuple #[.agg #[.int .i64 (e : Int), .int .i64 4, .int .i64 2, .int .i64 (s : Int), .int .i64 (G : Int), .int .i64 2, .int .i64 1, .int .i64 2], .int .i64 0]) ∧ Below w3.heap.size w3 w') := hide (by
    rw [hG]
    have h := rparse_any (some ⟨gb, off, none⟩) c3 (fM s e) w3 (by rw [fM_len]; omega) (by rw [fM_len]; have := HGs.out; omega) HBf.out hl3
    rw [fM_len, HPar.out] at h
    exact h)
  have k1 : ¬ c3 = 512 := by have := HGs.out; omega
  have k2 : 512 ≤ c3 := by have := HGs.out; omega
  have k3 : 512 ≤ N := by have := HGs.out; omega
  clear hb3 hs3 hl3 HRm hc3 HI2 HL2 HB2 HBf HTk HPar
  by_cases hn30 : 30 < n
  · have hd : decide ((30 : Int) < (n : Int)) = true := by simp; omega
    go_wp2_with fail
    go_ret2
    exact ⟨Or.inl ⟨hn30, rfl⟩, HB.out⟩
  · have hd : decide ((30 : Int) < (n : Int)) = false := by simp; omega
    have hd2 : ¬ (30 : Int) < (n : Int) := by omega
    go_wp2_with fail
    refine HP.out.mono ?_
    rintro e9 w4 ⟨rfl, hb4⟩
    obtain ⟨w5, hw5⟩ : ∃ w5, w5 = w4.alloc (.cells #[.int .i64 (e : Int), .int .i64 4, .int .i64 2, .int .i64 (s : Int), .int .i64 (G : Int), .int .i64 2, .int .i64 1, .int .i64 2] 36) := ⟨_, rfl⟩
    have hb5 : Below w4.heap.size w4 w5 := by rw [hw5]; exact (Below.refl _ _).alloc (Nat.le_refl _) _
    have HBo := hide (show Blk w5 w4.heap.size #[.int .i64 (e : Int), .int .i64 4, .int .i64 2, .int .i64 (s : Int), .int .i64 (G : Int), .int .i64 2, .int .i64 1, .int .i64 2] 36 by rw [hw5]; exact Blk.new _ _ _)
    have HI := hide ((HI.out.below hb4).below hb5)
    have HL := hide ((HL.out.below hb4).below hb5)
    have HS := hide ((HS.out.below hb4).below hb5)
    have HB := hide ((HB.out.trans (hb4.mono HB.out.size)).trans (hb5.mono (HB.out.trans (hb4.mono HB.out.size)).size))
    have HW5 := hide hw5
    have HGe := hide hG
    have HN30 := hide hn30
    clear hb4 hb5 hw5 HP i2 k1 k2 k3 hd hd2 hG hG2 hn30
    go_wp2_with fail
    rw [← HW5.out]
    obtain ⟨R0, hR0⟩ : ∃ R0, R0 = w4.heap.size := ⟨_, rfl⟩
    rw [← hR0] at HBo ⊢
    clear hR0 HW5
    go_loopw [5, 9] (fun v i wr => ∃ (k : Nat) (da : Option Addr) (dc : Nat), k ≤ n ∧ i = .int .i64 (k : Int) ∧ v = .slice da N dc ∧ Sl wr da dc (patX s e X k) ∧ Below w5.heap.size w5 wr) (fun _ i _ => n - (intOf i).toNat)
    case atStart => exact ⟨0, _, _, by omega, rfl, rfl, HS.out, Below.refl _ _⟩
    case round =>
      obtain ⟨k, da, dc, hk, rfl, rfl, hsd, hbw⟩ := hrel
      have HSd := hide hsd
      have HBw := hide hbw
      have HIr := hide (HI.out.below hbw)
      have HBr := hide (HBo.out.below hbw)
      have HLr := hide (HL.out.below hbw)
      have i2 := HIr.out.cell 2 _ rfl
      clear hsd hbw
      by_cases hlt : k < n
      · have hltI : (k : Int) < (n : Int) := by omega
        have hkX : k < X.length := by have := HNn.out.2; omega
        obtain ⟨xb, xo, rfl, ⟨y0, y1, y2⟩, hSo⟩ := getX HLr.out hkX
        obtain ⟨o, ho⟩ : ∃ o, o = X.getD k PX.z := ⟨_, rfl⟩
        rw [← ho] at y0 y1 y2 hSo
        obtain ⟨at_, oa, B, oc, tw⟩ := o
        dsimp only at y0 y1 y2 hSo
        obtain ⟨A, hA⟩ : ∃ A, A = atX N ⟨at_, oa, B, oc, tw⟩ := ⟨_, rfl⟩
        obtain ⟨C, hC⟩ : ∃ C, C = cutX N ⟨at_, oa, B, oc, tw⟩ := ⟨_, rfl⟩
        have hAN := atX_lt (n := N) (by have := HGs.out; omega) ⟨at_, oa, B, oc, tw⟩
        have hCf := cutX_fit (n := N) (by have := HGs.out; omega) ⟨at_, oa, B, oc, tw⟩
        rw [← hA, ← hC] at hCf
        rw [← hA] at hAN
        have hCt : C = B.take (N - A) := by rw [hC, hA]; rfl
        have HSt := hide (patX_step s e X k hkX)
        rw [← ho, ← HNe.out, ← HGe.out] at HSt
        obtain ⟨W, hW⟩ : ∃ W, W = at_ % 18446744073709551616 := ⟨_, rfl⟩
        have hW0 : 0 ≤ W ∧ W < 18446744073709551616 := by rw [hW]; omega
        have hwW : IntKind.u64.wrap at_ = W := by rw [IntKind.wrap_u64, hW]
        have hwN : IntKind.u64.wrap (N : Int) = (N : Int) := by rw [IntKind.wrap_u64]; have := HGs.out; omega
        have hWN : W % (N : Int) = (A : Int) := by
          have h1 := Int.emod_nonneg W (b := (N : Int)) (by have := HGs.out; omega)
          rw [hA]
          unfold atX
          rw [← hW]
          omega
        have hWt : W.tmod (N : Int) = (A : Int) := by rw [Int.tmod_eq_emod_of_nonneg hW0.1, hWN]
        have hwA : IntKind.i64.wrap (A : Int) = (A : Int) := by rw [IntKind.wrap_i64]; have := HGs.out; omega
        have hNz : ¬ (N : Int) = 0 := by have := HGs.out; omega
        obtain ⟨D, hD⟩ : ∃ D, D = N - A := ⟨_, rfl⟩
        have hwD : IntKind.i64.wrap ((N : Int) - (A : Int)) = (D : Int) := by rw [IntKind.wrap_i64]; have := HGs.out; omega
        obtain ⟨L, hL⟩ : ∃ L, L = C.length := ⟨_, rfl⟩
        have q1 : IntKind.i64.wrap ((k : Int) + 1) = (k : Int) + 1 := by rw [IntKind.wrap_i64]; have := HN30.out; omega
        have HK := hide (And.intro hk hlt)
        clear hk hlt hkX hW hW0 ho
        obtain ⟨Bn, hBn⟩ : ∃ Bn, Bn = B.length := ⟨_, rfl⟩
        rw [← hBn] at y1
        have hLm : L = min D Bn := by rw [hL, hCt, List.length_take, ← hD, ← hBn]
        have hSl := hSo.le
        have hSn := hSo.none
        have HSo := hide hSo
        have HAe := hide hA
        have HCe := hide hC
        have HLe := hide hL
        have HFi := hide (And.intro hCf hAN)
        have HCt := hide hCt
        have HDe := hide hD
        have HBn := hide hBn
        have HLm := hide hLm
        have HSl := hide hSl
        clear hSo hCt hD hBn hLm hSl hSn hCf hAN hA hC hL
        go_upto_if 82 with fail
        go_cut [11] from 82 to 125 (fun v wx => (∃ pa pc, v = .slice pa L pc ∧ Lies wr pa C) ∧ wx = wr)
        case first =>
          by_cases hc : D < Bn
          · have hd : decide ((D : Int) < (Bn : Int)) = true := by simp; exact hc
            have hd2 : decide (D < Bn) = true := by simpa using hc
            obtain ⟨bb, bo, rfl⟩ : ∃ bb bo, oa = some ⟨bb, bo, none⟩ := by
              rcases HSo.out.lies with h | ⟨b, o, h, _⟩
              · have := HBn.out; rw [h] at this; simp at this; omega
              · exact ⟨b, o, h⟩
            have hocD : ¬ oc = D := by have := HSl.out; have := HBn.out; omega
            have hocD2 : D ≤ oc := by have := HSl.out; have := HBn.out; omega
            have hD0 : (0 : Int) ≤ (D : Int) := by omega
            have hDB : D ≤ Bn := by omega
            go_wp2
            go_meet
            refine ⟨⟨some ⟨bb, bo, none⟩, oc, by rw [HLm.out, show min D Bn = D by omega], ?_⟩, rfl⟩
            rw [HCt.out, ← HDe.out]
            have := HSo.out.lies.of_part 0 D
            rw [List.drop_zero] at this
            exact this
          · have hd : decide ((D : Int) < (Bn : Int)) = false := by simp; omega
            have hd2 : decide (D < Bn) = false := by simpa using hc
            go_wp2
            go_meet
            refine ⟨⟨oa, oc, ?_, ?_⟩, rfl⟩
            · rw [HLm.out, show min D Bn = Bn by omega]
            · rw [HCt.out, ← HDe.out, List.take_of_length_le (by rw [← HBn.out]; omega)]
              exact HSo.out.lies
        case rest =>
          obtain ⟨⟨pa, pc, rfl, hpl⟩, hwc⟩ := hcut
          rw [hwc]
          clear hwc
          have HPl := hide hpl
          have hLn : (patX s e X k).length = N := (HAl.out k (by have := HK.out; have := HNn.out; omega)).1
          have HWt : Hid (Calls Tryd.prog 16 #[.slice da N dc, .int .i64 (A : Int), .slice pa L pc] wr fun e' w' => (∃ a c, e' = .returned (.slice a N c) ∧ Sl w' a c (over (patX s e X k) A C)) ∧ Below wr.heap.size wr w') := hide (by
            have h := With_bigS da dc (patX s e X k) pa pc C A wr (by rw [hLn]; have := HGs.out; omega) (by have := HFi.out; have := HGs.out; omega) (by rw [hLn]; have := HGs.out; omega) (by rw [hLn]; exact HFi.out.1) HSd.out HPl.out
            rw [hLn, ← HLe.out] at h
            refine h.mono fun e' w' ⟨v, g1, g2, g3⟩ => ⟨?_, g3⟩
            obtain ⟨a, c, g5, g6, _⟩ := g2.sl
            rw [over_length (by rw [hLn]; exact HFi.out.1), hLn] at g5
            exact ⟨a, c, by rw [g1, g5], g6⟩)
          obtain ⟨sz, hsz⟩ : ∃ sz, sz = 512 * G := ⟨_, rfl⟩
          have q2 : IntKind.i64.wrap (512 * (G : Int)) = (sz : Int) := by rw [IntKind.wrap_i64]; have := HGs.out; omega
          obtain ⟨T, hT⟩ : ∃ T, T = A + L := ⟨_, rfl⟩
          have q3 : IntKind.i64.wrap ((A : Int) + (L : Int)) = (T : Int) := by rw [IntKind.wrap_i64]; have := HGs.out; have := HFi.out; have := HLe.out; omega
          obtain ⟨Z, hZ⟩ : ∃ Z, Z = 2048 + sz := ⟨_, rfl⟩
          have q4 : IntKind.i64.wrap (2048 + (sz : Int)) = (Z : Int) := by rw [IntKind.wrap_i64]; have := HGs.out; omega
          obtain ⟨A2, hA2⟩ : ∃ A2, A2 = A + sz := ⟨_, rfl⟩
          have q5 : IntKind.i64.wrap ((A : Int) + (sz : Int)) = (A2 : Int) := by rw [IntKind.wrap_i64]; have := HGs.out; have := HFi.out; omega
          have HLn := hide hLn
          have HSz := hide (And.intro hsz (And.intro hT (And.intro hZ hA2)))
          clear hLn hsz hT hZ hA2 hpl i2 y0 y1 hwD hwW hwN hWN hWt hNz hwA
          go_wp2_with fail
          refine HWt.out.mono ?_
          rintro e9 x1 ⟨⟨a7, c7, rfl, hs7⟩, hb⟩
          have HS7 := hide hs7
          have HB7 := hide (HBw.out.trans (hb.mono HBw.out.size))
          have HI7 := hide (HIr.out.below hb)
          have HBo7 := hide (HBr.out.below hb)
          have HPl7 := hide (HPl.out.below hb)
          have i2 := HI7.out.cell 2 _ rfl
          have b1 := HBo7.out.cell 1 _ rfl
          have b4 := HBo7.out.cell 4 _ rfl
          have y3 := (hb.cell (p := ⟨xb, xo + k * 3 + 2, none⟩) (lt_of_cell y2)).trans y2
          clear hs7 hb HWt y2
          have HTw := hide (show twX G N ⟨at_, oa, B, oc, tw⟩ = (tw && decide (2048 ≤ A) && decide (T ≤ Z)) by
            obtain ⟨s1, s2, s3, s4⟩ := HSz.out
            unfold twX
            rw [← HAe.out, ← HCe.out, ← HLe.out, s2, s3, s1])
          by_cases ht : tw = true ∧ 2048 ≤ A ∧ T ≤ Z
          · obtain ⟨rfl, t1, t2⟩ := ht
            have HN := hide (show patX s e X (k + 1) = over (over (patX s e X k) A C) A2 C by
              rw [HSt.out]
              unfold stepX
              rw [HTw.out, if_pos (by simp [t1, t2]), ← HAe.out, ← HCe.out]
              obtain ⟨s1, s2, s3, s4⟩ := HSz.out
              rw [s4, s1])
            have d1 : decide ((2048 : Int) ≤ (A : Int)) = true := by simp; omega
            have d2 : decide (2048 ≤ A) = true := by simpa using t1
            have d3 : decide ((T : Int) ≤ (Z : Int)) = true := by simp; omega
            have d4 : decide (T ≤ Z) = true := by simpa using t2
            have HT := hide (And.intro t1 t2)
            have hL2 : (over (patX s e X k) A C).length = N := by rw [over_length (by rw [HLn.out]; exact HFi.out.1), HLn.out]
            have hft : A2 + C.length ≤ N := by obtain ⟨s1, s2, s3, s4⟩ := HSz.out; have := HGs.out; have := HLe.out; omega
            have HW2 : Hid (Calls Tryd.prog 16 #[.slice a7 N c7, .int .i64 (A2 : Int), .slice pa L pc] x1 fun e' w' => (∃ a c, e' = .returned (.slice a N c) ∧ Sl w' a c (patX s e X (k + 1))) ∧ Below x1.heap.size x1 w') := hide (by
              have h := With_bigS a7 c7 (over (patX s e X k) A C) pa pc C A2 x1 (by rw [hL2]; have := HGs.out; omega) (by have := HFi.out; have := HGs.out; omega) (by rw [hL2]; have := HGs.out; omega) (by rw [hL2]; exact hft) HS7.out HPl7.out
              rw [hL2, ← HLe.out, ← HN.out] at h
              refine h.mono fun e' w' ⟨v, g1, g2, g3⟩ => ⟨?_, g3⟩
              obtain ⟨a, c, g5, g6, _⟩ := g2.sl
              rw [(HAl.out (k + 1) (by have := HK.out; have := HNn.out; omega)).1] at g5
              exact ⟨a, c, by rw [g1, g5], g6⟩)
            clear t1 t2 hL2 hft
            go_wp2_with fail
            refine HW2.out.mono ?_
            rintro e9 x2 ⟨⟨a8, c8, rfl, hs8⟩, hb⟩
            have HS8 := hide hs8
            have HB8 := hide (HB7.out.trans (hb.mono HB7.out.size))
            clear hs8 hb HW2
            go_wp2_with fail
            exact ⟨⟨k + 1, a8, c8, by have := HK.out; omega, by go_num, rfl, HS8.out, HB8.out⟩, by have := HK.out; simp [intOf]; omega⟩
          · have HN := hide (show patX s e X (k + 1) = over (patX s e X k) A C by
              rw [HSt.out]
              unfold stepX
              rw [HTw.out, if_neg (by intro hc; simp at hc; exact ht ⟨hc.1.1, hc.1.2, hc.2⟩), ← HAe.out, ← HCe.out])
            cases tw with
            | false =>
              clear ht
              go_wp2_with fail
              exact ⟨⟨k + 1, a7, c7, by have := HK.out; omega, by go_num, rfl, by rw [HN.out]; exact HS7.out, HB7.out⟩, by have := HK.out; simp [intOf]; omega⟩
            | true =>
              by_cases t1 : 2048 ≤ A
              · have t2 : ¬ T ≤ Z := fun h => ht ⟨rfl, t1, h⟩
                have d1 : decide ((2048 : Int) ≤ (A : Int)) = true := by simp; omega
                have d2 : decide (2048 ≤ A) = true := by simpa using t1
                have d3 : decide ((T : Int) ≤ (Z : Int)) = false := by simp; omega
                have d4 : decide (T ≤ Z) = false := by simpa using t2
                clear t1 t2 ht
                go_wp2_with fail
                exact ⟨⟨k + 1, a7, c7, by have := HK.out; omega, by go_num, rfl, by rw [HN.out]; exact HS7.out, HB7.out⟩, by have := HK.out; simp [intOf]; omega⟩
              · have d1 : decide ((2048 : Int) ≤ (A : Int)) = false := by simp; omega
                have d2 : decide (2048 ≤ A) = false := by simpa using t1
                clear t1 ht
                go_wp2_with fail
                exact ⟨⟨k + 1, a7, c7, by have := HK.out; omega, by go_num, rfl, by rw [HN.out]; exact HS7.out, HB7.out⟩, by have := HK.out; simp [intOf]; omega⟩
      · obtain rfl : k = n := by omega
        have hnlt : ¬ ((k : Int) < (k : Int)) := by omega
        have hLn : (patX s e X k).length = N := (HAl.out k (by have := HNn.out; omega)).1
        have HKX := hide HNn.out.2
        have i3 := HIr.out.cell 3 _ rfl
        have HB := hide (HB.out.trans (HBw.out.mono HB.out.size))
        cases r with
        | false =>
          have HDx := hide (show diskX s e X false = patX s e X k by unfold diskX; rw [if_neg (by simp), ← HKX.out])
          clear hLn hk hlt
          go_wp2_with fail
          go_ret2
          exact ⟨Or.inr ⟨by have := HN30.out; omega, _, _, rfl, by rw [HDx.out]; exact HSd.out⟩, HB.out⟩
        | true =>
          have HDx := hide (show diskX s e X true = over (patX s e X k) 1000 (bytesOf 4294967295 4) by unfold diskX; rw [if_pos rfl, ← HKX.out])
          obtain ⟨T, hT⟩ : ∃ T, T = bytesOf 4294967295 4 := ⟨_, rfl⟩
          have HTe := hide hT
          have HT := hide (show T.length = 4 by rw [hT, bytesOf_length])
          have HBy : ∀ u, Hid (Calls Tryd.prog 17 #[.int .u64 4294967295, .int .i64 4] u fun e w' => ∃ r, e = .returned r ∧ Own w' u.heap.size r T ∧ Below u.heap.size u w') := fun u => hide (by rw [hT]; exact Bytes_any 4294967295 4 u (by omega) (by omega) (by omega))
          rw [← HTe.out] at HDx
          have HLn := hide hLn
          clear hT hLn hk hlt
          go_wp2_with fail
          refine (HBy _).out.mono ?_
          rintro e9 x1 ⟨v1, rfl, ho1, hb⟩
          obtain ⟨at1, ct1, hv1, hs1, _⟩ := ho1.sl
          rw [HT.out] at hv1
          subst hv1
          have HS := hide (HSd.out.below hb)
          have HB := hide (HB.out.trans (hb.mono HB.out.size))
          have HWt : Hid (Calls Tryd.prog 16 #[.slice da N dc, .int .i64 1000, .slice at1 4 ct1] x1 fun e' w' => (∃ a c, e' = .returned (.slice a N c) ∧ Sl w' a c (diskX s e X true)) ∧ Below x1.heap.size x1 w') := hide (by
            have h := With_bigS da dc (patX s e X k) at1 ct1 T 1000 x1 (by rw [HLn.out]; have := HGs.out; omega) (by rw [HT.out]; omega) (by rw [HLn.out]; have := HGs.out; omega) (by rw [HLn.out, HT.out]; have := HGs.out; omega) HS.out hs1.lies
            rw [HLn.out, HT.out, ← HDx.out] at h
            refine h.mono fun e' w' ⟨v, g1, g2, g3⟩ => ⟨?_, g3⟩
            obtain ⟨a, c, g5, g6, _⟩ := g2.sl
            rw [show (diskX s e X true).length = N by rw [HDx.out, over_length (by rw [HLn.out, HT.out]; have := HGs.out; omega), HLn.out]] at g5
            exact ⟨a, c, by rw [g1, g5], g6⟩)
          clear hb ho1 hs1 HBy
          go_wp2_with fail
          refine HWt.out.mono ?_
          rintro e9 x2 ⟨⟨a7, c7, rfl, hs7⟩, hb⟩
          have HB := hide (HB.out.trans (hb.mono HB.out.size))
          have HS7 := hide hs7
          clear hs7 hb HWt
          go_wp2_with fail
          go_ret2
          exact ⟨Or.inr ⟨by have := HN30.out; omega, _, _, rfl, HS7.out⟩, HB.out⟩
end Go.Proofs.YtcbbaoiefdbcpaaDoor.Oct
