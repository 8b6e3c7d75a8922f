/- The journal commits. -/
import Derived.Test.YtibkhgmmjhlpmaaGreatPJrgJrh
namespace Go.Proofs.YtibkhgmmjhlpmaaGreat.Oct
open Go.RowKit Go.Deep

/-- What operations on a journal's file leave, till the first that is refused; the journal's number then. -/
def RanJ (w w' : World) (J p q : Nat) (nu' : Int) (X : Nat → Prop) (F : Nat) (A : A3) (k n : Nat) (os : List AO) : Prop :=
  ∃ X' f', Fl w' X' F f' (doAll (os.take k) A) (k - os.length) (n + costs os) ∧ (∀ q, X' q → X q ∨ w.heap.size ≤ q) ∧ Chg (fun i => X i ∨ i = J) w w' ∧ Jrn w' J F p q nu' ∧ ¬ X' J

theorem Ran.jrn {w w' : World} {J p q : Nat} {nu : Int} {X : Nat → Prop} {F : Nat} {A : A3} {k n : Nat} {os : List AO} (h : Ran w w' X F A k n os) (hJ : Jrn w J F p q nu) (hX : ¬ X J) : RanJ w w' J p q nu X F A k n os := by
  obtain ⟨X', f', h1, h2, h3⟩ := h
  refine ⟨X', f', h1, h2, h3.mono (fun i _ h => Or.inl h), hJ.chg h3 hX, fun e => ?_⟩
  rcases h2 J e with h | h
  · exact hX h
  · have := hJ.isLt; omega

theorem RanJ.below {w w1 w2 : World} {J p q : Nat} {nu : Int} {X : Nat → Prop} {F : Nat} {A : A3} {k n : Nat} {os : List AO} (h : RanJ w w1 J p q nu X F A k n os) (hb : Below w1.heap.size w1 w2) : RanJ w w2 J p q nu X F A k n os := by
  obtain ⟨X2, f2, h2, hx2, hc2, hj2, hn2⟩ := h
  exact ⟨X2, f2, h2.below hb, hx2, hc2.trans (Chg.of_below hb), hj2.below hb, hn2⟩

theorem RanJ.first {w w1 w2 : World} {J p q : Nat} {nu : Int} {X : Nat → Prop} {F : Nat} {A : A3} {k n : Nat} {os : List AO} (hb : Below w.heap.size w w1) (h : RanJ w1 w2 J p q nu X F A k n os) : RanJ w w2 J p q nu X F A k n os := by
  obtain ⟨X2, f2, h2, hx2, hc2, hj2, hn2⟩ := h
  exact ⟨X2, f2, h2, fun q hq => (hx2 q hq).imp id (fun h => Nat.le_trans hb.size h), (Chg.of_below hb).trans hc2, hj2, hn2⟩

/-- More operations behind those that were done. -/
theorem RanJ.more {w w1 w2 : World} {J p q : Nat} {nu nu2 : Int} {X X1 : Nat → Prop} {F : Nat} {f1 : Fs} {A : A3} {k n : Nat} {os ps : List AO}
    (_ : Fl w1 X1 F f1 (doAll (os.take k) A) (k - os.length) (n + costs os)) (hx : ∀ q, X1 q → X q ∨ w.heap.size ≤ q) (hc : Chg (fun i => X i ∨ i = J) w w1) (_ : Jrn w J F p q nu)
    (h : RanJ w1 w2 J p q nu2 X1 F (doAll (os.take k) A) (k - os.length) (n + costs os) ps) : RanJ w w2 J p q nu2 X F A k n (os ++ ps) := by
  obtain ⟨X2, f2, h2, hx2, hc2, hj2, hn2⟩ := h
  refine ⟨X2, f2, ?_, fun q hq => ?_, hc.andThen hc2 (fun i hi hy => ?_), hj2, hn2⟩
  · rw [List.take_append, doAll_append, List.length_append, costs_append, Nat.sub_add_eq]
    rw [Nat.add_assoc] at h2
    exact h2
  · rcases hx2 q hq with h | h
    · exact hx q h
    · exact Or.inr (Nat.le_trans hc.size h)
  · rcases hy with hy | hy
    · rcases hx i hy with h | h
      · exact Or.inl h
      · omega
    · exact Or.inr hy

theorem RanJ.stop {w w1 : World} {J p q : Nat} {nu : Int} {X : Nat → Prop} {F : Nat} {A : A3} {k n : Nat} {os : List AO} (h : RanJ w w1 J p q nu X F A k n os) (hk : ¬ os.length ≤ k) (ps : List AO) : RanJ w w1 J p q nu X F A k n (os ++ ps) := by
  obtain ⟨X2, f2, h2, hx2, hc2, hj2, hn2⟩ := h
  refine ⟨X2, f2, ?_, hx2, hc2, hj2, hn2⟩
  rw [List.take_append_of_le_length (by omega), List.length_append, costs_append, show k - (os.length + ps.length) = k - os.length by omega]
  exact h2.mono (by omega)

/-- The journal's number is another one. -/
theorem Jrn.num {w : World} {J F : Nat} {p q n : Int} (h : Jrn w J F p q n) (m : Int) : Jrn (w.setCell ⟨J, 3, none⟩ (.int .u64 m)) J F p q m := by
  have h' : Blk w J #[.pointer (some ⟨F, 0, none⟩), .int .i64 p, .int .i64 q, .int .u64 n] 110 := h
  exact h'.set 3 _

/-- The journal's number behind so many operations of a commit. -/
def numJ (nu : Int) (k : Nat) : Int := if 2 ≤ k then IntKind.u64.wrap (nu + 1) else nu

/-- The sign that a commit writes. -/
def signOf (nu : Int) (D : List RD) : List Int := secL (IntKind.u64.wrap (nu + 1)) D.length (encD D).length (moreC 0 (encD D))

/-- A commit's operations. -/
def comO (p : Nat) (nu : Int) (D : List RD) : List AO := [.wr (p + 512) (encD D), .fl] ++ [.wr p (signOf nu D), .fl]

theorem RanJ.jr {w w' : World} {J p q : Nat} {nu : Int} {X : Nat → Prop} {F : Nat} {A : A3} {k n : Nat} {os : List AO} (h : RanJ w w' J p q nu X F A k n os) : Jrn w' J F p q nu := by
  obtain ⟨_, _, _, _, _, hj, _⟩ := h
  exact hj

theorem six {u : World} {J F p q G : Nat} {nu : Int} {x0 x1 x2 x3 : Value} (h : Jrn u J F p q nu) (hb : Blk u G #[x0, x1, x2, x3] 133) :
    u.cell? ⟨J, 1, none⟩ = some (.int .i64 (p : Int)) ∧ u.cell? ⟨G, 0, none⟩ = some x0 ∧ u.cell? ⟨G, 1, none⟩ = some x1 ∧ u.cell? ⟨G, 2, none⟩ = some x2 ∧ u.cell? ⟨G, 3, none⟩ = some x3 :=
  ⟨h.cells.2.1, hb.cell 0 _ rfl, hb.cell 1 _ rfl, hb.cell 2 _ rfl, hb.cell 3 _ rfl⟩

set_option maxHeartbeats 8000000 in
set_option maxRecDepth 100000 in
theorem commit_j (w : World) (J F p q : Nat) (nu : Int) (hJ : Jrn w J F p q nu) (hp : p + 1024 ≤ q) (hq : q ≤ 4194304) (X : Nat → Prop) (f : Fs) (A : A3) (k n : Nat) (h : Fl w X F f A k n) (hXJ : ¬ X J) (a : Option Addr) (cap : Nat) (R : List JR) (hR : LiesJ w a R)
    (hat : ∀ r ∈ R, -9223372036854775808 ≤ r.at_ ∧ r.at_ ≤ 9223372036854775807) (hby : ∀ r ∈ R, Byts r.b) (hn : R.length ≤ 1000000) (hlen : lenD (R.map JR.dat) ≤ 100000) (hnn : n ≤ 400000)
    (hbar : anyB p q R = false) (hroom : (lenD (R.map JR.dat) : Int) ≤ (q : Int) - ((p : Int) + 512)) :
    Calls Tryz.prog 44 #[.pointer (some ⟨J, 0, none⟩), .slice a R.length cap] w fun e w' => e = .returned (.int .i64 (cod 4 k)) ∧ RanJ w w' J p q (numJ nu k) X F A k n (comO p nu (R.map JR.dat)) := by
  have hlm : ∀ r ∈ R, r.b.length ≤ maxLen := fun r hr => by
    have h1 : 12 + r.b.length ≤ lenD (R.map JR.dat) := lenD_mem (D := R.map JR.dat) (r := r.dat) (List.mem_map_of_mem hr)
    unfold maxLen
    omega
  have HNo := hide (none_j w J F p q nu hJ (by omega))
  have HCo := hide (contains_j w J F p q nu hJ hq a cap R hR hat hn hlm)
  rw [hbar] at HCo
  have HLe := fun u (hu : LiesJ u a R) => hide (length_any a cap R u hu hn (by omega))
  have HRo := fun u (hu : Jrn u J F p q nu) => hide (room_j u J F p q nu hu hp hq)
  have HEn := fun u (hu : LiesJ u a R) => hide (Encode_any a cap R u hu hn (by omega))
  have HBo := fun u (hu : Jrn u J F p q nu) => hide (body_j u J F p q nu hu (by omega))
  have HJ := hide hJ
  have HR := hide hR
  have HX := hide hXJ
  have HFl := hide h
  have HBy : Hid (Byts (encD (R.map JR.dat))) := hide (encD_byts (fun r hr => by
    obtain ⟨x, hx, rfl⟩ := List.mem_map.1 hr
    exact hby x hx))
  have HEl : Hid ((encD (R.map JR.dat)).length = lenD (R.map JR.dat)) := hide (encD_length _)
  obtain ⟨L, hL⟩ : ∃ L, lenD (R.map JR.dat) = L := ⟨_, rfl⟩
  have hDl : (R.map JR.dat).length = R.length := by simp
  have HC0 : Hid (comO p nu (R.map JR.dat) = [.wr (p + 512) (encD (R.map JR.dat)), .fl] ++ [.wr p (secL (IntKind.u64.wrap (nu + 1)) (R.length : Nat) (L : Nat) (moreC 0 (encD (R.map JR.dat)))), .fl]) := hide (by
    unfold comO signOf
    rw [hDl, encD_length, hL])
  rw [hL] at hlen hroom HLe HEl
  clear hJ hR hat hby h hXJ hbar hlm hL hDl
  generalize R.map JR.dat = D at *
  generalize encD D = E at *
  have hd1 : decide ((q : Int) - ((p : Int) + 512) < (L : Int)) = false := by simp; omega
  go_enter Tryz.func44, Tryz.ntmps44
  go_wp2_with fail
  refine HNo.out.mono ?_
  rintro e9 w1 ⟨rfl, h1⟩
  rw [h1]
  clear h1 w1
  go_wp2_with fail
  refine HCo.out.mono ?_
  rintro e9 w1 ⟨rfl, hb1⟩
  have HB1 := hide hb1
  clear hb1
  go_wp2_with fail
  refine ((HLe _ (HR.out.below HB1.out)).out).mono ?_
  rintro e9 w2 ⟨rfl, hb2⟩
  have HB2 := hide (HB1.out.trans (hb2.mono HB1.out.size))
  clear hb2
  go_wp2_with fail
  refine ((HRo _ (HJ.out.below HB2.out)).out).mono ?_
  rintro e9 w3 ⟨rfl, hb3⟩
  have HB3 := hide (HB2.out.trans (hb3.mono HB2.out.size))
  clear hb3
  go_wp2_with fail
  refine ((HEn _ (HR.out.below HB3.out)).out).mono ?_
  rintro e9 w4 ⟨v4, rfl, ho4, hb4⟩
  have HB4 := hide (HB3.out.trans (hb4.mono HB3.out.size))
  have hs3 := HB3.out.size
  obtain ⟨a4, c4, rfl, hsl4, hg4⟩ := ho4.sl
  rw [HEl.out]
  have HSl4 := hide hsl4
  have HG4 : Hid (E ≠ [] → ∀ x, a4 = some x → w.heap.size ≤ x.block) := hide (fun hne x hx => by
    obtain ⟨g, h1, h2, h3⟩ := hg4 hne
    rw [h1] at hx
    cases hx
    exact Nat.le_trans hs3 h2)
  have HO4 := hide ho4
  have HJ4 := hide (HJ.out.below HB4.out)
  clear hb4 hsl4 hg4 ho4
  go_wp2_with fail
  refine ((HBo _ HJ4.out).out).mono ?_
  rintro e9 w5 ⟨rfl, h5⟩
  rw [h5]
  clear h5 w5
  have hc5 : ((p : Int) + 512) = ((p + 512 : Nat) : Int) := by omega
  have hse := settle_j w4 J F p q nu HJ4.out X f A k n (HFl.out.below HB4.out) HX.out (p + 512) a4 c4 E HSl4.out.lies (fun hne x hx e => by
    have h1 := HG4.out hne x hx
    have h2 := HFl.out.x _ e
    omega) (by rw [HEl.out]; omega) (by rw [HEl.out]; omega)
  rw [HEl.out, ← hc5] at hse
  have HSe := hide hse
  clear hse hc5
  go_wp2_with fail
  refine HSe.out.mono ?_
  rintro e9 w5 ⟨rfl, hr5⟩
  by_cases hk : 2 ≤ k
  rotate_left
  · rw [cod_no hk]
    have HFi : Hid (RanJ w w5 J p q (numJ nu k) X F A k n (comO p nu D)) := hide (by
      rw [numJ, if_neg hk, HC0.out]
      exact ((hr5.jrn HJ4.out HX.out).stop (by simpa using hk) _).first HB4.out)
    clear hr5
    go_wp2_with fail
    go_ret
    refine ⟨?_, HFi.out⟩
    rw [cod_no (by omega)]
    rfl
  rw [cod_ok hk]
  obtain ⟨X1, f1, h1, hx1, hc1⟩ := hr5
  have hJ5 := HJ4.out.chg hc1 HX.out
  have hXJ1 : ¬ X1 J := fun e => by
    rcases hx1 J e with h | h
    · exact HX.out h
    · have := HJ4.out.isLt; omega
  have hsl5 : Sl w5 a4 c4 E := by
    by_cases hne : E = []
    · exact ⟨HSl4.out.le, HSl4.out.max, HSl4.out.none, by rw [hne]; exact Lies.nil _ _⟩
    · exact ⟨HSl4.out.le, HSl4.out.max, HSl4.out.none, HSl4.out.lies.chg hc1 (fun x hx e => by
        have h1 := HG4.out hne x hx
        have h2 := HFl.out.x _ e
        omega)⟩
  have hcJ : Chg (fun i => i = J) w5 (w5.setCell ⟨J, 3, none⟩ (.int .u64 (IntKind.u64.wrap (nu + 1)))) := (Chg.refl _ _).setCell J 3 _ (fun _ => rfl)
  obtain ⟨c0, c1, c2, c3⟩ := hJ5.cells
  have f3 : w5.frozen? ⟨J, 3, none⟩ = false := Blk.frozen (show Blk w5 J _ _ from hJ5) 3
  have HJ6 := hide (hJ5.num (IntKind.u64.wrap (nu + 1)))
  have HF6 := hide (h1.chg hcJ (fun i _ hi e => hXJ1 (e ▸ hi)))
  have HS6 : Hid (Sl (w5.setCell ⟨J, 3, none⟩ (.int .u64 (IntKind.u64.wrap (nu + 1)))) a4 c4 E) := hide ⟨hsl5.le, hsl5.max, hsl5.none, by
    by_cases hne : E = []
    · rw [hne]; exact Lies.nil _ _
    · exact hsl5.lies.chg hcJ (fun x hx e => by
        have h1 := HG4.out hne x hx
        have h2 := HJ.out.isLt
        omega)⟩
  have HC6 : Hid (Chg (fun i => X i ∨ i = J) w (w5.setCell ⟨J, 3, none⟩ (.int .u64 (IntKind.u64.wrap (nu + 1))))) := hide (((Chg.of_below HB4.out).trans (hc1.mono (fun i _ h => Or.inl h))).trans (hcJ.mono (fun i _ h => Or.inr h)))
  have HX1 : Hid (∀ q, X1 q → X q ∨ w.heap.size ≤ q) := hide (fun q hq => (hx1 q hq).imp id (fun h => Nat.le_trans HB4.out.size h))
  have HXJ1 := hide hXJ1
  clear h1 hx1 hc1 hJ5 hXJ1 hsl5 hcJ
  have hu1 : IntKind.u32.wrap (R.length : Int) = (R.length : Int) := by rw [IntKind.wrap_u32]; omega
  have hu2 : IntKind.u32.wrap (L : Int) = (L : Int) := by rw [IntKind.wrap_u32]; omega
  go_wp2_with fail
  generalize w5.setCell ⟨J, 3, none⟩ (.int .u64 (IntKind.u64.wrap (nu + 1))) = w6 at *
  clear c0 c1 c2 c3 f3
  obtain ⟨nv, hnv⟩ : ∃ nv, IntKind.u64.wrap (nu + 1) = nv := ⟨_, rfl⟩
  rw [hnv] at HJ6
  obtain ⟨c0, c1, c2, c3⟩ := (show Jrn w6.drew J F p q nv from HJ6.out).cells
  have HP : Hid (∀ u H, Blk u H #[.slice a4 L c4] 29 → Below w6.heap.size w6 u → Calls Tryz.prog 76 #[.slice (some ⟨H, 0, none⟩) 1 1] u fun e w' => e = .returned (.int .u32 (moreC 0 E)) ∧ w' = u) := hide (fun u H hb hu => by
    have := Sum_any (some ⟨H, 0, none⟩) 1 [E] u (by unfold maxLen; simp) (fun r => by
      match r with
      | 0 => simp [HEl.out]; unfold maxLen; omega
      | r + 1 => simp) (fun r => by
      match r with
      | 0 => simpa using HBy.out
      | r + 1 => intro k; simp) (Or.inr ⟨H, 0, rfl, hb.lt, fun r hr => by
        have : r = 0 := by simpa using hr
        subst this
        exact ⟨a4, c4, by simpa [HEl.out] using hb.cell 0 _ rfl, by simpa using HS6.out.below hu⟩⟩)
    simpa using this)
  have HS1 : Hid (Calls Tryz.prog 76 #[.slice (some ⟨w6.heap.size, 0, none⟩) 1 1] (w6.alloc (.cells #[.slice a4 L c4] 29)).drew fun e w' => e = .returned (.int .u32 (moreC 0 E)) ∧ w' = (w6.alloc (.cells #[.slice a4 L c4] 29)).drew) := hide (HP.out _ _ (Blk.new w6 #[.slice a4 L c4] 29).drew ((Below.refl w6.heap.size w6).alloc (Nat.le_refl _) _).drew)
  have HS2 : Hid (Calls Tryz.prog 76 #[.slice (some ⟨w6.heap.size, 0, none⟩) 1 1] ((w6.alloc (.cells #[.slice a4 L c4] 29)).alloc (.cells #[.int .u64 0, .int .u32 0, .int .u32 0, .int .u32 0] 133)).drew fun e w' => e = .returned (.int .u32 (moreC 0 E)) ∧ w' = ((w6.alloc (.cells #[.slice a4 L c4] 29)).alloc (.cells #[.int .u64 0, .int .u32 0, .int .u32 0, .int .u32 0] 133)).drew) := hide (HP.out _ _ ((Blk.new w6 #[.slice a4 L c4] 29).below ((Below.refl _ _).alloc (Nat.le_refl _) _)).drew (((Below.refl w6.heap.size w6).alloc (Nat.le_refl _) _).alloc (by simp) _).drew)
  have HS3 : Hid (Calls Tryz.prog 76 #[.slice (some ⟨w6.heap.size + 1, 0, none⟩) 1 1] ((w6.alloc (.cells #[.int .u64 0, .int .u32 0, .int .u32 0, .int .u32 0] 133)).alloc (.cells #[.slice a4 L c4] 29)).drew fun e w' => e = .returned (.int .u32 (moreC 0 E)) ∧ w' = ((w6.alloc (.cells #[.int .u64 0, .int .u32 0, .int .u32 0, .int .u32 0] 133)).alloc (.cells #[.slice a4 L c4] 29)).drew) := hide (by
    refine HP.out _ _ ?_ (((Below.refl w6.heap.size w6).alloc (Nat.le_refl _) _).alloc (by simp) _).drew
    have := (Blk.new (w6.alloc (.cells #[.int .u64 0, .int .u32 0, .int .u32 0, .int .u32 0] 133)) #[.slice a4 L c4] 29).drew
    simpa using this)
  have hJl := HJ6.out.isLt
  have HKb : ∀ u, Below w6.heap.size w6 u → Hid (u.cell? ⟨J, 3, none⟩ = some (.int .u64 nv)) := fun u hu => hide (HJ6.out.below hu).cells.2.2.2
  have k0 : (w6.alloc (.cells #[.slice a4 L c4] 29)).drew.cell? ⟨J, 3, none⟩ = some (.int .u64 nv) := (HKb _ (by repeat (first | exact Below.refl _ _ | refine Below.drew ?_ | refine Below.alloc ?_ (by simp) _ | refine Below.setCell ?_ (by simp) _))).out
  have k1 : (w6.alloc (.cells #[.int .u64 0, .int .u32 0, .int .u32 0, .int .u32 0] 133)).drew.cell? ⟨J, 3, none⟩ = some (.int .u64 nv) := (HKb _ (by repeat (first | exact Below.refl _ _ | refine Below.drew ?_ | refine Below.alloc ?_ (by simp) _ | refine Below.setCell ?_ (by simp) _))).out
  have k2 : ((w6.alloc (.cells #[.slice a4 L c4] 29)).alloc (.cells #[.int .u64 0, .int .u32 0, .int .u32 0, .int .u32 0] 133)).drew.cell? ⟨J, 3, none⟩ = some (.int .u64 nv) := (HKb _ (by repeat (first | exact Below.refl _ _ | refine Below.drew ?_ | refine Below.alloc ?_ (by simp) _ | refine Below.setCell ?_ (by simp) _))).out
  have k3 : ((w6.alloc (.cells #[.int .u64 0, .int .u32 0, .int .u32 0, .int .u32 0] 133)).alloc (.cells #[.slice a4 L c4] 29)).drew.cell? ⟨J, 3, none⟩ = some (.int .u64 nv) := (HKb _ (by repeat (first | exact Below.refl _ _ | refine Below.drew ?_ | refine Below.alloc ?_ (by simp) _ | refine Below.setCell ?_ (by simp) _))).out
  have m0 : ((w6.alloc (.cells #[.slice a4 L c4] 29)).alloc (.cells #[.int .u64 nv, .int .u32 (R.length : Int), .int .u32 (L : Int), .int .u32 ((moreC 0 E : Nat) : Int)] 133)).drew.cell? ⟨J, 3, none⟩ = some (.int .u64 nv) := (HKb _ (by repeat (first | exact Below.refl _ _ | refine Below.drew ?_ | refine Below.alloc ?_ (by simp) _ | refine Below.setCell ?_ (by simp) _))).out
  have m1 : ((w6.alloc (.cells #[.int .u64 nv, .int .u32 (R.length : Int), .int .u32 (L : Int), .int .u32 ((moreC 0 E : Nat) : Int)] 133)).alloc (.cells #[.slice a4 L c4] 29)).drew.cell? ⟨J, 3, none⟩ = some (.int .u64 nv) := (HKb _ (by repeat (first | exact Below.refl _ _ | refine Below.drew ?_ | refine Below.alloc ?_ (by simp) _ | refine Below.setCell ?_ (by simp) _))).out
  clear c0 c1 c2
  have HSec := fun u => hide (sector_any nv (R.length : Int) (L : Int) ((moreC 0 E : Nat) : Int) u)
  have HFin : Hid (∀ u w', Below w6.heap.size w6 u → Ran u w' X1 F (doAll ([AO.wr (p + 512) E, AO.fl].take k) A) (k - [AO.wr (p + 512) E, AO.fl].length) (n + costs [AO.wr (p + 512) E, AO.fl]) [.wr p (secL nv (R.length : Int) (L : Int) ((moreC 0 E : Nat) : Int)), .fl] → Jrn u J F p q nv → RanJ w w' J p q (numJ nu k) X F A k n (comO p nu D)) := hide (fun u w' hu hr hj => by
    rw [HC0.out, numJ, if_pos hk, hnv]
    exact RanJ.more HF6.out HX1.out HC6.out HJ.out (RanJ.first hu (hr.jrn hj HXJ1.out)))
  have HCod : Hid (cod 2 (k - [AO.wr (p + 512) E, AO.fl].length) = cod 4 k) := hide (by
    unfold cod
    simp only [List.length_cons, List.length_nil]
    by_cases h2 : 4 ≤ k
    · rw [if_pos h2, if_pos (by omega)]
    · rw [if_neg h2, if_neg (by omega)])
  have HSet : ∀ u g B, Below w6.heap.size w6 u → Jrn u J F p q nv → Own u B (.slice (some ⟨g, 0, none⟩) 512 512) (secL nv (R.length : Int) (L : Int) ((moreC 0 E : Nat) : Int)) → w6.heap.size ≤ B → Hid (Calls Tryz.prog 75 #[.pointer (some ⟨J, 0, none⟩), .int .i64 p, .slice (some ⟨g, 0, none⟩) 512 512] u fun e w' => e = .returned (.int .i64 (cod 4 k)) ∧ RanJ w w' J p q (numJ nu k) X F A k n (comO p nu D) ∧ ∀ G cs t, Blk u G cs t → w6.heap.size ≤ G → Blk w' G cs t) := fun u g B hu hj ho hB => hide (by
    obtain ⟨a9, c9, e9, hL9, _, _, _, hg9⟩ := ho.form
    simp only [Value.slice.injEq] at e9
    obtain ⟨rfl, -, -⟩ := e9
    have hne : secL nv (R.length : Int) (L : Int) ((moreC 0 E : Nat) : Int) ≠ [] := fun e => by
      have := secL_len nv (R.length : Int) (L : Int) ((moreC 0 E : Nat) : Int)
      rw [e] at this
      simp at this
    obtain ⟨g', hg', hgB, _⟩ := hg9 hne
    cases hg'
    have hst := settle_j u J F p q nv hj X1 f1 _ _ _ (HF6.out.below hu) HXJ1.out p (some ⟨g, 0, none⟩) 512 _ hL9 (fun _ x hx e => by
      cases hx
      have := HF6.out.x _ e
      simp only at this
      omega) (by rw [secL_len]; omega) (by rw [secL_len]; simp [costs, AO.cost, HEl.out]; omega)
    rw [secL_len, HCod.out] at hst
    refine hst.mono ?_
    rintro e9 w10 ⟨rfl, hr⟩
    refine ⟨rfl, HFin.out u w10 hu hr hj, fun G cs t hG hle => ?_⟩
    obtain ⟨X2, f2, _, _, hc2⟩ := hr
    exact hG.chg hc2 (fun e => by have := HF6.out.x _ e; omega))
  go_wp2_with fail
  go_region_held3 (fun u => u.cell? ⟨J, 3, none⟩ = some (.int .u64 nv)) (go_keep) (first
    | (go_at_call 76; with_reducible (first | refine HS1.out.mono ?_ | refine HS2.out.mono ?_ | refine HS3.out.mono ?_); rintro e9 w7 ⟨rfl, rfl⟩))
  · have HB8 : Hid (Below w6.heap.size w6 ((w6.alloc (.cells #[.slice a4 L c4] 29)).alloc (.cells #[.int .u64 nv, .int .u32 (R.length : Int), .int .u32 (L : Int), .int .u32 ((moreC 0 E : Nat) : Int)] 133)).drew) := hide (((Below.refl w6.heap.size w6).alloc (Nat.le_refl _) _).alloc (by simp) _).drew
    have HX8 : Hid (Blk ((w6.alloc (.cells #[.slice a4 L c4] 29)).alloc (.cells #[.int .u64 nv, .int .u32 (R.length : Int), .int .u32 (L : Int), .int .u32 ((moreC 0 E : Nat) : Int)] 133)).drew (w6.heap.size + 1) #[.int .u64 nv, .int .u32 (R.length : Int), .int .u32 (L : Int), .int .u32 ((moreC 0 E : Nat) : Int)] 133) := hide (by have := (Blk.new (w6.alloc (.cells #[.slice a4 L c4] 29)) #[.int .u64 nv, .int .u32 (R.length : Int), .int .u32 (L : Int), .int .u32 ((moreC 0 E : Nat) : Int)] 133).drew; simpa using this)
    clear HS1 HS2 HS3 HKb k0 k1 k2 k3 m0 m1
    generalize ((w6.alloc (.cells #[.slice a4 L c4] 29)).alloc (.cells #[.int .u64 nv, .int .u32 (R.length : Int), .int .u32 (L : Int), .int .u32 ((moreC 0 E : Nat) : Int)] 133)).drew = w8 at *
    have HJ := hide (show Jrn w8.drew J F p q nv from HJ6.out.below HB8.out.drew)
    have HX := hide HX8.out.drew
    have HB := hide HB8.out.drew
    obtain ⟨s0, s1, s2, s3, s4⟩ := six HJ.out HX.out
    go_wp2_with fail
    go_region_held3 (fun u => u.cell? ⟨J, 1, none⟩ = some (.int .i64 (p : Int)) ∧ u.cell? ⟨(w6.heap.size + 1), 0, none⟩ = some (.int .u64 nv) ∧ u.cell? ⟨(w6.heap.size + 1), 1, none⟩ = some (.int .u32 (R.length : Int)) ∧ u.cell? ⟨(w6.heap.size + 1), 2, none⟩ = some (.int .u32 (L : Int)) ∧ u.cell? ⟨(w6.heap.size + 1), 3, none⟩ = some (.int .u32 ((moreC 0 E : Nat) : Int))) (first | go_keep | exact six HJ.out HX.out | exact HK9.out) (first
      | (go_at_call 77; refine ((HSec _).out).mono ?_; rintro e9 w9 ⟨g, rfl, ho9, hb9⟩; have HG9 := hide (And.intro ho9 HB.out.size); have HJ := hide (HJ.out.below hb9); have HX := hide (HX.out.below hb9); have HB := hide (HB.out.trans (hb9.mono HB.out.size)); clear ho9 hb9)
      | (go_at_call 75; refine ((HSet _ g _ HB.out HJ.out HG9.out.1 HG9.out.2).out).mono ?_; rintro e9 w10 ⟨rfl, hr10, hk10⟩; have HR10 := hide hr10; have HK9 := hide (six hr10.jr (hk10 (w6.heap.size + 1) #[.int .u64 nv, .int .u32 (R.length : Int), .int .u32 (L : Int), .int .u32 ((moreC 0 E : Nat) : Int)] 133 HX.out (by omega))); clear hr10 hk10))
    all_goals
      go_wp2_with fail
      go_ret
      exact ⟨rfl, HR10.out⟩
  · have HB8 : Hid (Below w6.heap.size w6 ((w6.alloc (.cells #[.slice a4 L c4] 29)).alloc (.cells #[.int .u64 nv, .int .u32 (R.length : Int), .int .u32 (L : Int), .int .u32 ((moreC 0 E : Nat) : Int)] 133)).drew) := hide (((Below.refl w6.heap.size w6).alloc (Nat.le_refl _) _).alloc (by simp) _).drew
    have HX8 : Hid (Blk ((w6.alloc (.cells #[.slice a4 L c4] 29)).alloc (.cells #[.int .u64 nv, .int .u32 (R.length : Int), .int .u32 (L : Int), .int .u32 ((moreC 0 E : Nat) : Int)] 133)).drew (w6.heap.size + 1) #[.int .u64 nv, .int .u32 (R.length : Int), .int .u32 (L : Int), .int .u32 ((moreC 0 E : Nat) : Int)] 133) := hide (by have := (Blk.new (w6.alloc (.cells #[.slice a4 L c4] 29)) #[.int .u64 nv, .int .u32 (R.length : Int), .int .u32 (L : Int), .int .u32 ((moreC 0 E : Nat) : Int)] 133).drew; simpa using this)
    clear HS1 HS2 HS3 HKb k0 k1 k2 k3 m0 m1
    generalize ((w6.alloc (.cells #[.slice a4 L c4] 29)).alloc (.cells #[.int .u64 nv, .int .u32 (R.length : Int), .int .u32 (L : Int), .int .u32 ((moreC 0 E : Nat) : Int)] 133)).drew = w8 at *
    have HJ := hide (show Jrn w8.drew J F p q nv from HJ6.out.below HB8.out.drew)
    have HX := hide HX8.out.drew
    have HB := hide HB8.out.drew
    obtain ⟨s0, s1, s2, s3, s4⟩ := six HJ.out HX.out
    go_wp2_with fail
    go_region_held3 (fun u => u.cell? ⟨J, 1, none⟩ = some (.int .i64 (p : Int)) ∧ u.cell? ⟨(w6.heap.size + 1), 0, none⟩ = some (.int .u64 nv) ∧ u.cell? ⟨(w6.heap.size + 1), 1, none⟩ = some (.int .u32 (R.length : Int)) ∧ u.cell? ⟨(w6.heap.size + 1), 2, none⟩ = some (.int .u32 (L : Int)) ∧ u.cell? ⟨(w6.heap.size + 1), 3, none⟩ = some (.int .u32 ((moreC 0 E : Nat) : Int))) (first | go_keep | exact six HJ.out HX.out | exact HK9.out) (first
      | (go_at_call 77; refine ((HSec _).out).mono ?_; rintro e9 w9 ⟨g, rfl, ho9, hb9⟩; have HG9 := hide (And.intro ho9 HB.out.size); have HJ := hide (HJ.out.below hb9); have HX := hide (HX.out.below hb9); have HB := hide (HB.out.trans (hb9.mono HB.out.size)); clear ho9 hb9)
      | (go_at_call 75; refine ((HSet _ g _ HB.out HJ.out HG9.out.1 HG9.out.2).out).mono ?_; rintro e9 w10 ⟨rfl, hr10, hk10⟩; have HR10 := hide hr10; have HK9 := hide (six hr10.jr (hk10 (w6.heap.size + 1) #[.int .u64 nv, .int .u32 (R.length : Int), .int .u32 (L : Int), .int .u32 ((moreC 0 E : Nat) : Int)] 133 HX.out (by omega))); clear hr10 hk10))
    all_goals
      go_wp2_with fail
      go_ret
      exact ⟨rfl, HR10.out⟩
  · have HB8 : Hid (Below w6.heap.size w6 ((w6.alloc (.cells #[.int .u64 nv, .int .u32 (R.length : Int), .int .u32 (L : Int), .int .u32 ((moreC 0 E : Nat) : Int)] 133)).alloc (.cells #[.slice a4 L c4] 29)).drew) := hide (((Below.refl w6.heap.size w6).alloc (Nat.le_refl _) _).alloc (by simp) _).drew
    have HX8 : Hid (Blk ((w6.alloc (.cells #[.int .u64 nv, .int .u32 (R.length : Int), .int .u32 (L : Int), .int .u32 ((moreC 0 E : Nat) : Int)] 133)).alloc (.cells #[.slice a4 L c4] 29)).drew w6.heap.size #[.int .u64 nv, .int .u32 (R.length : Int), .int .u32 (L : Int), .int .u32 ((moreC 0 E : Nat) : Int)] 133) := hide ((Blk.new w6 #[.int .u64 nv, .int .u32 (R.length : Int), .int .u32 (L : Int), .int .u32 ((moreC 0 E : Nat) : Int)] 133).below ((Below.refl _ _).alloc (Nat.le_refl _) _)).drew
    clear HS1 HS2 HS3 HKb k0 k1 k2 k3 m0 m1
    generalize ((w6.alloc (.cells #[.int .u64 nv, .int .u32 (R.length : Int), .int .u32 (L : Int), .int .u32 ((moreC 0 E : Nat) : Int)] 133)).alloc (.cells #[.slice a4 L c4] 29)).drew = w8 at *
    have HJ := hide (show Jrn w8.drew J F p q nv from HJ6.out.below HB8.out.drew)
    have HX := hide HX8.out.drew
    have HB := hide HB8.out.drew
    obtain ⟨s0, s1, s2, s3, s4⟩ := six HJ.out HX.out
    go_wp2_with fail
    go_region_held3 (fun u => u.cell? ⟨J, 1, none⟩ = some (.int .i64 (p : Int)) ∧ u.cell? ⟨w6.heap.size, 0, none⟩ = some (.int .u64 nv) ∧ u.cell? ⟨w6.heap.size, 1, none⟩ = some (.int .u32 (R.length : Int)) ∧ u.cell? ⟨w6.heap.size, 2, none⟩ = some (.int .u32 (L : Int)) ∧ u.cell? ⟨w6.heap.size, 3, none⟩ = some (.int .u32 ((moreC 0 E : Nat) : Int))) (first | go_keep | exact six HJ.out HX.out | exact HK9.out) (first
      | (go_at_call 77; refine ((HSec _).out).mono ?_; rintro e9 w9 ⟨g, rfl, ho9, hb9⟩; have HG9 := hide (And.intro ho9 HB.out.size); have HJ := hide (HJ.out.below hb9); have HX := hide (HX.out.below hb9); have HB := hide (HB.out.trans (hb9.mono HB.out.size)); clear ho9 hb9)
      | (go_at_call 75; refine ((HSet _ g _ HB.out HJ.out HG9.out.1 HG9.out.2).out).mono ?_; rintro e9 w10 ⟨rfl, hr10, hk10⟩; have HR10 := hide hr10; have HK9 := hide (six hr10.jr (hk10 w6.heap.size #[.int .u64 nv, .int .u32 (R.length : Int), .int .u32 (L : Int), .int .u32 ((moreC 0 E : Nat) : Int)] 133 HX.out (Nat.le_refl _))); clear hr10 hk10))
    all_goals
      go_wp2_with fail
      go_ret
      exact ⟨rfl, HR10.out⟩
end Go.Proofs.YtibkhgmmjhlpmaaGreat.Oct
