/- What has a sign is done: the statements' small example. -/
import Derived.Test.YtifngegkijdbmaaJpd
import Derived.Lib.SlBytesConst
namespace Go.Proofs.Ytifngegkijdbmaa.Oct
open Go.RowKit Go.Deep

theorem jnew_fl (w : World) (X : Nat → Prop) (F : Nat) (f : Fs) (A : A3) (k n : Nat) (h : Fl w X F f A k n) (p s : Nat) (hp : p % 512 = 0) (hs : s % 512 = 0) (hs2 : 1024 ≤ s) (hf : p + s ≤ A.S.length) :
    Calls Try.prog 25 #[.pointer (some ⟨F, 0, none⟩), .int .i64 p, .int .i64 s] w fun e w' => ∃ J, e = .returned (.tuple #[.pointer (some ⟨J, 0, none⟩), .int .i64 0]) ∧ w.heap.size ≤ J ∧ Jrn w' J F p (p + s : Nat) 0 ∧ Below w.heap.size w w' := by
  obtain ⟨R, hf', _⟩ := h.has
  have := jnew_ok w X F f A.S A.T R hf' p s hp hs hs2 hf h.s
  refine this.mono ?_
  rintro e9 w9 ⟨J, rfl, h1, h2, h3⟩
  refine ⟨J, rfl, h1, ?_, h3⟩
  rw [show ((p + s : Nat) : Int) = (p : Int) + s by omega]
  exact h2

/-- The bytes behind a commit. -/
def comS (S : List Int) (p : Nat) (nu : Int) (D : List RD) : List Int := laidsD (laidsD S (cuts (p + 512) (encD D))) (cuts p (signOf nu D))

theorem com_state (S : List Int) (p : Nat) (nu : Int) (D : List RD) : doAll (comO p nu D) ⟨S, S, []⟩ = ⟨comS S p nu D, comS S p nu D, []⟩ := by
  simp [comO, doAll, AO.on, comS]

theorem signOf_len (nu : Int) (D : List RD) : (signOf nu D).length = 512 := secL_len _ _ _ _

theorem comS_get (S : List Int) (p : Nat) (nu : Int) (D : List RD) (i : Nat) : (comS S p nu D).getD i 0 = if p ≤ i ∧ i < p + 512 then (signOf nu D).getD (i - p) 0 else if p + 512 ≤ i ∧ i < p + 512 + lenD D then (encD D).getD (i - (p + 512)) 0 else S.getD i 0 := by
  unfold comS
  rw [wr_get, signOf_len, wr_get, encD_length]

theorem comS_len (S : List Int) (p q : Nat) (nu : Int) (D : List RD) (hq : q ≤ S.length) (hp : p + 1024 ≤ q) (hroom : p + 512 + lenD D ≤ q) : (comS S p nu D).length = S.length := by
  unfold comS
  rw [wr_len, signOf_len, wr_len, encD_length]
  have h1 : signOf nu D ≠ [] := fun e => by have := signOf_len nu D; rw [e] at this; simp at this
  rw [if_neg h1]
  split <;> omega

theorem comS_byts {S : List Int} (p : Nat) (nu : Int) {D : List RD} (hS : Byts S) (hD : ∀ r ∈ D, Byts r.2) : Byts (comS S p nu D) := fun i => by
  rw [comS_get]
  split
  · exact secL_byts _ _ _ _ _
  · split
    · exact encD_byts hD _
    · exact hS i

/-- The bytes behind records that are done. -/
def putS (S : List Int) : List RD → List Int
  | [] => S
  | r :: D => putS (laidsD S (cuts r.1.toNat r.2)) D

theorem doRecs (D : List RD) : ∀ (A : A3), ∃ E, doAll (recO D) A = ⟨putS A.S D, A.T, A.D ++ E⟩ ∧ (∀ T, laidsD T E = putS T D) := by
  induction D with
  | nil => intro A; exact ⟨[], by simp [recO, doAll, putS], fun T => rfl⟩
  | cons r D ih =>
    intro A
    obtain ⟨E, h1, h2⟩ := ih ((AO.wr r.1.toNat r.2).on A)
    refine ⟨cuts r.1.toNat r.2 ++ E, ?_, fun T => ?_⟩
    · have e : doAll (recO (r :: D)) A = doAll (recO D) ((AO.wr r.1.toNat r.2).on A) := rfl
      rw [e, h1]
      simp [AO.on, putS]
    · rw [laidsD_append, h2]
      rfl

/-- The bytes behind an apply. -/
def appS (S : List Int) (p : Nat) (D : List RD) : List Int := laidsD (putS S D) (cuts p Z512)

theorem app_state (S : List Int) (p : Nat) (D : List RD) : doAll (appO p D) ⟨S, S, []⟩ = ⟨appS S p D, appS S p D, []⟩ := by
  unfold appO
  obtain ⟨E, h1, h2⟩ := doRecs D ⟨S, S, []⟩
  rw [doAll_append, h1]
  simp [doAll, AO.on, clrO, appS, h2]

theorem appS_get (S : List Int) (p : Nat) (D : List RD) (i : Nat) : (appS S p D).getD i 0 = if p ≤ i ∧ i < p + 512 then 0 else (putS S D).getD i 0 := by
  unfold appS
  rw [wr_get, Z512_len]
  split
  · unfold Z512
    exact getD_rep _ _
  · rfl

def D0 : List RD := [(2048, [97, 98, 99])]

theorem D0_len : lenD D0 = 15 := by decide
theorem D0_may : MayD 512 1536 D0 := fun r hr => by
  simp [D0] at hr
  subst hr
  simp

set_option maxHeartbeats 8000000 in
set_option maxRecDepth 100000 in
theorem begun5_any (w : World) : Calls Try.prog 8 #[] w fun e w' => e = .returned (.bool true) ∧ Below w.heap.size w w' := by
  obtain ⟨Z, hZ⟩ : ∃ Z, Z = List.replicate 4096 (0 : Int) := ⟨_, rfl⟩
  have hZl : Z.length = 4096 := by rw [hZ]; exact List.length_replicate
  have HZb : Hid (Byts Z) := hide (by rw [hZ]; exact Byts.reps _)
  have HZ0 := hide (Zeros_any 4096 w (by omega))
  rw [← hZ] at HZ0
  clear hZ
  go_enter Try.func8, Try.ntmps8
  go_wp2_with fail
  refine HZ0.out.mono ?_
  rintro e9 w1 ⟨v1, rfl, ho1, hb1⟩
  obtain ⟨a1, c1, rfl, hl1, _⟩ := ho1.form
  have HN1 := hide (new_fl w1 a1 c1 Z hl1 (by rw [hZl]; omega))
  rw [hZl] at HN1
  rw [hZl]
  have HB1 := hide hb1
  clear ho1 hl1 hb1
  go_wp2_with fail
  refine HN1.out.mono ?_
  rintro e9 w2 ⟨F, f, rfl, hf2, hf0, hb2⟩
  have HF2 := hide hf2
  have HB2 := hide (HB1.out.trans (hb2.mono HB1.out.size))
  have hs12 := hb2.size
  have HJ := hide (jnew_fl w2 _ F f _ _ _ hf2 512 1024 (by omega) (by omega) (by omega) (by show 512 + 1024 ≤ Z.length; omega))
  clear hf2 hb2 hf0
  go_wp2_with fail
  refine HJ.out.mono ?_
  rintro e9 w3 ⟨J, rfl, hJ2, hJ3, hb3⟩
  have HB3 := hide (HB2.out.trans (hb3.mono HB2.out.size))
  have HF3 := hide (HF2.out.below hb3)
  have HJ3 := hide hJ3
  have HXJ : Hid (¬ (w1.heap.size ≤ J ∧ J < w2.heap.size)) := hide (by omega)
  have HRo := hide (room_j w3 J F 512 1536 0 hJ3 (by omega) (by omega))
  clear hJ3 hb3
  go_wp2_with fail
  refine HRo.out.mono ?_
  rintro e9 w4 ⟨rfl, hb4⟩
  have HB4 := hide (HB3.out.trans (hb4.mono HB3.out.size))
  have HF4 := hide (HF3.out.below hb4)
  have HJ4 := hide (HJ3.out.below hb4)
  have hs34 := hb4.size
  clear hb4
  have kc := Go.Lib.run_convert_bytes_const w4 22 5 #[.int .u8 97, .int .u8 98, .int .u8 99] 3 3 Try.underlying22 Try.underlying5
  have hsl : Lies ((w4.alloc (.cells #[.int .u8 97, .int .u8 98, .int .u8 99] 5 (3, 4))).alloc (.cells #[.int .i64 2048, .slice (some ⟨w4.heap.size, 0, none⟩) 3 3] 53)) (some ⟨w4.heap.size, 0, none⟩) [97, 98, 99] := (lies_marked w4 [97, 98, 99] (3, 4)).alloc _
  have hbx := Blk.new (w4.alloc (.cells #[.int .u8 97, .int .u8 98, .int .u8 99] 5 (3, 4))) #[.int .i64 2048, .slice (some ⟨w4.heap.size, 0, none⟩) 3 3] 53
  rw [show (w4.alloc (.cells #[.int .u8 97, .int .u8 98, .int .u8 99] 5 (3, 4))).heap.size = w4.heap.size + 1 by simp] at hbx
  have hb46 : Below w4.heap.size w4 ((w4.alloc (.cells #[.int .u8 97, .int .u8 98, .int .u8 99] 5 (3, 4))).alloc (.cells #[.int .i64 2048, .slice (some ⟨w4.heap.size, 0, none⟩) 3 3] 53)) := ((Below.refl w4.heap.size w4).alloc (Nat.le_refl _) _).alloc (by simp) _
  go_wp2_with fail
  generalize (w4.alloc (.cells #[.int .u8 97, .int .u8 98, .int .u8 99] 5 (3, 4))).alloc (.cells #[.int .i64 2048, .slice (some ⟨w4.heap.size, 0, none⟩) 3 3] 53) = w6 at *
  have hR : LiesJ w6 (some ⟨w4.heap.size + 1, 0, none⟩) [⟨2048, some ⟨w4.heap.size, 0, none⟩, 3, [97, 98, 99]⟩] := Or.inr ⟨w4.heap.size + 1, 0, rfl, hbx.lt, fun k hk => by
    have : k = 0 := by simpa using hk
    subst this
    exact ⟨hbx.cell 0 _ rfl, hbx.cell 1 _ rfl, ⟨show 3 ≤ 3 by omega, show 3 ≤ maxLen by unfold maxLen; omega, fun h => (by cases h), hsl⟩⟩⟩
  have hDr : [(⟨2048, some ⟨w4.heap.size, 0, none⟩, 3, [97, 98, 99]⟩ : JR)].map JR.dat = D0 := rfl
  have hby3 : Byts [97, 98, 99] := fun k => by
    match k with
    | 0 => simp
    | 1 => simp
    | 2 => simp
    | k + 3 => simp
  have hco := commit_j w6 J F 512 1536 0 (HJ4.out.below hb46) (by omega) (by omega) _ f _ _ _ (HF4.out.below hb46) HXJ.out (some ⟨w4.heap.size + 1, 0, none⟩) 1 [⟨2048, some ⟨w4.heap.size, 0, none⟩, 3, [97, 98, 99]⟩] hR (fun r hr => by simp at hr; subst hr; simp) (fun r hr => by simp at hr; subst hr; exact hby3) (by simp) (by rw [hDr, D0_len]; omega) (by omega) (show ([(2048, [97, 98, 99])] : List RD).any (fun r => barB 512 1536 r.1 r.2.length) = false by decide) (by rw [hDr, D0_len]; omega)
  rw [hDr, cod_ok (by omega)] at hco
  have HCo := hide hco
  have HB6 := hide (HB4.out.trans (hb46.mono HB4.out.size))
  have hs46 := hb46.size
  have HBy3 := hide hby3
  clear hco hsl hbx hb46 hR hDr kc hby3
  refine HCo.out.mono ?_
  rintro e9 w7 ⟨rfl, hr7⟩
  obtain ⟨X7, f7, hf7, hx7, hc7, _, _⟩ := hr7
  have hst : doAll ((comO 512 0 D0).take 2000000) ⟨Z, Z, []⟩ = ⟨comS Z 512 0 D0, comS Z 512 0 D0, []⟩ := by
    rw [List.take_of_length_le (by simp [comO])]
    exact com_state Z 512 0 D0
  rw [hst] at hf7
  have hS2l : (comS Z 512 0 D0).length = 4096 := by rw [comS_len Z 512 1536 0 D0 (by omega) (by omega) (by rw [D0_len]; omega), hZl]
  have HS2b : Hid (Byts (comS Z 512 0 D0)) := hide (comS_byts 512 0 HZb.out (fun r hr => by simp [D0] at hr; subst hr; exact HBy3.out))
  have HS2g : Hid (∀ i, (comS Z 512 0 D0).getD i 0 = if 512 ≤ i ∧ i < 512 + 512 then (signOf 0 D0).getD (i - 512) 0 else if 512 + 512 ≤ i ∧ i < 512 + 512 + lenD D0 then (encD D0).getD (i - (512 + 512)) 0 else Z.getD i 0) := hide (comS_get Z 512 0 D0)
  generalize comS Z 512 0 D0 = S2 at *
  have HCr := hide (crash_fl w7 X7 F f7 _ _ _ hf7 (by decide) none 0 [] (Or.inl rfl))
  have HB7 : Hid (Below w.heap.size w w7) := hide (HB6.out.trans (hc7.below _ HB6.out.size (fun q hq e => by
    have h1 := HB1.out.size
    have h2 := HB2.out.size
    rcases e with e | e
    · omega
    · omega)))
  clear hf7 hx7 hc7 hst
  go_wp2_with fail
  refine HCr.out.mono ?_
  rintro e9 w8 ⟨v8, rfl, ho8, hb8⟩
  obtain ⟨a8, c8, rfl, hl8, _⟩ := ho8.form
  have e8 : leftD S2 [] [] ([] : List (Nat × List Int × Bool)).length = S2 := rfl
  rw [e8] at hl8 ⊢
  have HN8 := hide (new_fl w8 a8 c8 S2 hl8 (by rw [hS2l]; omega))
  rw [hS2l] at HN8 ⊢
  have HB8 := hide (HB7.out.trans (hb8.mono HB7.out.size))
  clear ho8 hl8 hb8 e8
  go_wp2_with fail
  refine HN8.out.mono ?_
  rintro e9 w9 ⟨G, g, rfl, hf9, hg0, hb9⟩
  have HF9 := hide hf9
  have HB9 := hide (HB8.out.trans (hb9.mono HB8.out.size))
  have hs89 := hb9.size
  have HJn := hide (jnew_fl w9 _ G g _ _ _ hf9 512 1024 (by omega) (by omega) (by omega) (by show 512 + 1024 ≤ S2.length; omega))
  clear hf9 hb9 hg0
  go_wp2_with fail
  refine HJn.out.mono ?_
  rintro e9 w10 ⟨K, rfl, hK9, hK10, hb10⟩
  have HB10 := hide (HB9.out.trans (hb10.mono HB9.out.size))
  have hl5 := D0_len
  obtain ⟨p1, p2, p3, p4, p5⟩ := pnd_com (S := S2) (p := 512) (q := 1536) (nu := 0) (D := D0) (by omega) (by omega) (by omega) (by decide) D0_may (by omega)
    (fun i hi => by rw [HS2g.out, if_pos (by omega), show 512 + i - 512 = i by omega])
    (fun i hi => by rw [HS2g.out, if_neg (by omega), if_pos (by omega), show 512 + 512 + i - (512 + 512) = i by omega])
  have hre := replay_j w10 K G 512 1536 0 hK10 (by omega) _ g ⟨S2, S2, []⟩ _ _ (HF9.out.below hb10) (by show 1536 ≤ S2.length; omega) (by omega) HS2b.out (by omega) (by omega) (fun _ => by
    show num (jFst S2 512) 16 4 ≤ _ ∧ num (jFst S2 512) 12 4 ≤ _
    rw [p3, p4, hl5]
    decide) rfl
  have hrd : rdsN S2 512 = 2 := if_pos p2
  have HRe : Hid (Calls Try.prog 14 #[.pointer (some ⟨K, 0, none⟩)] w10 fun e w' => e = .returned (.tuple #[.int .i64 1, .int .i64 0]) ∧ ∃ X' f', Fl w' X' G f' ⟨appS S2 512 D0, appS S2 512 D0, []⟩ (2000000 - 2 - (appO 512 D0).length) (0 + 2 + costs (appO 512 D0)) ∧ Below w.heap.size w w') := hide (by
    refine hre.mono ?_
    rintro e9 w11 (⟨h1, _⟩ | ⟨_, h1, _⟩ | ⟨_, D, h1, h2, nu', X', f', h3, _, h4, _⟩)
    · exact absurd (show rdsN S2 512 ≤ 2000000 by omega) h1
    · rw [show pnd (A3.S ⟨S2, S2, []⟩) 512 1536 = some D0 from p5] at h1
      cases h1
    · have hD : D = D0 := by
        rw [show pnd (A3.S ⟨S2, S2, []⟩) 512 1536 = some D0 from p5] at h1
        simpa using h1.symm
      subst hD
      rw [show rdsN (A3.S ⟨S2, S2, []⟩) 512 = 2 from hrd] at h2 h3
      refine ⟨?_, X', f', ?_, HB10.out.trans (h4.below _ HB10.out.size (fun q hq e => by
        have h8 := HB8.out.size
        have h9 := HB9.out.size
        rcases e with e | e
        · omega
        · omega))⟩
      · rcases h2 with ⟨_, rfl⟩ | ⟨h, _⟩
        · rfl
        · exact absurd (by decide) h
      · rw [List.take_of_length_le (by decide), app_state] at h3
        exact h3)
  clear hre hK10 hb10 p1 p2 p3 p4 p5 hrd HF9
  have hS3l : (appS S2 512 D0).length = 4096 := by
    unfold appS D0
    simp only [putS]
    rw [wr_len, Z512_len, wr_len, hS2l, if_neg (fun e => by have := Z512_len; rw [e] at this; simp at this), if_neg (by decide)]
    decide
  have HS3 : Hid (((appS S2 512 D0).drop 2048).take 3 = [97, 98, 99]) := hide (by
    refine part_is (b := [97, 98, 99]) (by rw [hS3l]; decide) (fun i hi => ?_)
    rw [appS_get, if_neg (by omega)]
    unfold D0
    simp only [putS]
    rw [wr_get, if_pos (by simp at hi ⊢; omega)]
    congr 1
    simp)
  generalize appS S2 512 D0 = S3 at *
  go_wp2_with fail
  refine HRe.out.mono ?_
  rintro e9 w11 ⟨rfl, X', f', hf11, hb11⟩
  have HBy := hide (bytes_fl w11 X' G f' _ _ _ hf11)
  have HB11 := hide hb11
  clear hf11 hb11
  go_wp2_with fail
  refine HBy.out.mono ?_
  rintro e9 w12 ⟨v12, rfl, ho12, hb12⟩
  obtain ⟨a12, c12, rfl, hl12, _, hc12, hm12, hg12⟩ := ho12.form
  rw [hS3l] at hc12 ⊢
  obtain ⟨g12, rfl, _, _⟩ := hg12 (fun e => by rw [e] at hS3l; simp at hS3l)
  have ht := Lies.of_part hl12 2048 3
  rw [HS3.out] at ht
  have hrt := run_text (P := Try.prog) (dst := 9) Try.underlying22 Try.underlying5 Try.underlying9 w12 (some ⟨g12, 0 + 2048, none⟩) [97, 98, 99] (c12 - 2048) ht
  have hba : ba [97, 98, 99] = { data := #[97, 98, 99] } := by decide
  rw [hba, Nat.zero_add] at hrt
  have hrs : (convert 22 9 (.slice (some ⟨g12, 2048, none⟩) 3 (c12 - 2048))).run Try.prog w12 = .ok (.string { data := #[97, 98, 99] }) w12 := hrt
  clear hrt
  have HB12 := hide (HB11.out.trans (hb12.mono HB11.out.size))
  have hcc : ¬ c12 = 2048 := by omega
  unfold maxLen at hm12
  clear ho12 hl12 hb12 hg12 ht hba
  go_wp2_with fail
  go_ret
  exact ⟨rfl, HB12.out⟩
end Go.Proofs.Ytifngegkijdbmaa.Oct
