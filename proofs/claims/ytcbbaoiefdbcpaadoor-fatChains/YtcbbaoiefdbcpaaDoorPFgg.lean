/- FatChains, for all numbers: the clusters from each one on, others being marked, are what the chapter says; they end, whatever the table; chains that are marked have no cluster twice (no condition). -/
import Derived.Test.YtcbbaoiefdbcpaaDoorPFgcFgf
import Derived.Test.YtcbbaoiefdbcpaaDoorPFgaFgdFge
import Derived.Test.YtcbbaoiefdbcpaaDoorPRisNorFgh
import Derived.Test.YtcbbaoiefdbcpaaDoorPFmm
import Derived.Test.YtcbbaoiefdbcpaaDoorPFcz
import Derived.Test.YtcbbaoiefdbcpaaDoorPSrtFmd
import Derived.Test.YtcbbaoiefdbcpaaDoorRows
import Derived.Test.YtcbbaoiefdbcpaaDoorCards
import Derived.Test.YtcbbaoiefdbcpaaDoorTie
import Derived.WideLaws
import Derived.LaidMore
import Derived.Stop.Joined
import Derived.SevenTiedAt
namespace Go.Proofs.YtcbbaoiefdbcpaaDoor.Oct
open Go.RowKit Go.MapKept Go.ChangeShapes Go.WideShapes Go.ChangeAt

theorem num_bdX (T : List Int) (k i : Nat) : 0 ≤ (numsF T k).getD i 0 ∧ (numsF T k).getD i 0 < 4294967296 := by
  by_cases h : i < k
  · rw [numsF_get _ _ _ h]
    unfold nxt
    omega
  · rw [get_far _ _ (by rw [numsF_len]; omega)]
    omega

theorem LiesC.none (w : World) : LiesC w (.slice none 0 0) [] := ⟨Option.none, 0, rfl, Or.inl rfl⟩

theorem OwnC.atX {w : World} {B n c : Nat} {a : Option Addr} {L : List Int} (h : OwnC w B (.slice a n c) L) (i : Nat) (x : Int) (hx : L[i]? = some x) : ∃ g, a = some ⟨g, 0, Option.none⟩ ∧ w.cell? ⟨g, i, Option.none⟩ = some (.int .i64 x) := by
  rcases h.2 with ⟨_, hn⟩ | ⟨g, cap, cur, e, _⟩
  · have h2 := (List.getElem?_eq_some_iff.1 hx).1
    omega
  · cases e
    refine ⟨g, rfl, ?_⟩
    have := World.ownsRow.cells (g := g) h rfl i (.int .i64 x) (by simp [hx])
    rw [Go.WideShapes.add_plain, Nat.zero_add] at this
    exact this

theorem OwnC.drew {w : World} {B : Nat} {v : Value} {L : List Int} (h : OwnC w B v L) : OwnC w.drew B v L := h

theorem runsF_len (b : Bt) : ∀ (l : List Int) (s : Int) (o : List (Int × Int)), (runsF b l s o).length ≤ o.length + l.length
  | [], _, o => by simp [runsF]
  | c :: l, s, o => by
    rw [runsF]
    split
    · simp
    · have h1 := runsF_len b l (s - min (512 * b.each) s) (addR o (b.at c) (min (512 * b.each) s))
      have h2 := addR_len o (b.at c) (min (512 * b.each) s)
      simp
      omega

theorem LiesC.len {w : World} {v : Value} {L : List Int} (h : LiesC w v L) : ∃ a c, v = .slice a L.length c := by
  obtain ⟨a, c, h, _⟩ := h
  exact ⟨a, c, h⟩

/-- What is appended is the numbers of a slice, wherever they lie. -/
theorem wpList_append_Ct {w : World} {ops : Array Oper} {rest : List Oper} {o : Oper} {a : Act} {Q : Exit → Act → World → Prop} (hgd : o.guard = none) (s x : Operand) (t : TypeId)
    (ho : o.op = .call { callee := .builtin .append, args := #[s, x], argTypes := #[t, t] }) (ht : Tryd.prog.underlying t = some (.slice 2)) (B : Nat) (v : Value) (O : List Int) (hs : a.eval s = v) (hown : OwnC w B v O)
    (y : Value) (zs : List Int) (hx : a.eval x = y) (hl : OwnC w 0 y zs) (hlen : O.length + zs.length ≤ 10000000) (hB : B ≤ w.heap.size)
    (h : ∀ v' w', OwnC w' B v' (O ++ zs) → w.grownBy w' v.ownBlock → wpList Tryd.prog ops Q rest (a.put o.dst v') w') : wpList Tryd.prog ops Q (o :: rest) a w := by
  rcases hl.2 with ⟨hy, hn⟩ | ⟨g, cap, cur, hy, _, hh, hr⟩
  · have hz : zs = [] := List.length_eq_zero_iff.1 hn
    subst hz
    obtain ⟨i, hi, hz0, hz1, hz2⟩ := info_parts info_c64
    have hrun : (Builtin.append_ #[t, t] o.type #[v, .slice none 0 0]).run Tryd.prog w = .ok v w := by
      rcases hown.2 with ⟨rfl, _⟩ | ⟨g, cap, cur, rfl, _, _, hnc, _⟩
      · simp [Builtin.append_, run_underlying ht, sizeOf, typeInfo, hi, Builtin.lenOf, Builtin.firstCells]
      · simp [Builtin.append_, run_underlying ht, sizeOf, typeInfo, hi, Builtin.lenOf, Builtin.firstCells, hnc, storeCells]
    refine wpList_plain hgd fun K hK => ?_
    unfold Oper.wp
    simp [execOp, ho, resolve, invoke, builtin, hs, hx, hy, hrun, Result.andThen]
    exact hK _ _ (h v w (by simpa using hown) (World.grownBy.refl _ _))
  · have hcs : ∀ j z, zs[j]? = some z → w.cell? ⟨g, j, none⟩ = some (.int .i64 z) := by
      intro j z hz
      have h0 := hl
      rw [hy] at h0
      have := World.ownsRow.cells (g := g) h0 rfl j (.int .i64 z) (by simp [hz])
      rw [Go.WideShapes.add_plain, Nat.zero_add] at this
      exact this
    exact wpList_append_Cs hgd s x t ho ht B v O hs hown g zs.length cap zs (by rw [hx, hy]) rfl hcs hlen hB h

set_option maxHeartbeats 16000000 in
set_option maxRecDepth 100000 in
theorem fchains_walk (S E : Int) (a : Option Addr) (cap : Nat) (X : List PX) (r : Bool) (fa : Option Addr) (fcap : Nat) (F : List Int) (size : Int) (w : World) (hX : ∀ o ∈ X, o.B.length ≤ maxLen ∧ Byts o.B) (hl : LiesX w a X) (hn : X.length ≤ maxLen) (hF : LiesC w (.slice fa F.length fcap) F) (hFr : ∀ x ∈ F, -9223372036854775808 ≤ x ∧ x ≤ 9223372036854775807) (hsz : -9223372036854775808 ≤ size ∧ size ≤ 9223372036854775807) (hV : Vars w) :
    Calls Tryd.prog 3 #[.agg #[.int .i64 S, .int .i64 E, .slice a X.length cap, .bool r], .slice fa F.length fcap, .int .i64 size] w fun e w' => e = .returned (.bool true) ∧ Below w.heap.size w w' := by
  obtain ⟨w1, hw1⟩ : ∃ w1, w1 = w.alloc (.cells #[.int .i64 S, .int .i64 E, .slice a X.length cap, .bool r] 24) := ⟨_, rfl⟩
  have hb1 : Below w.heap.size w w1 := by rw [hw1]; exact (Below.refl _ _).alloc (Nat.le_refl _) _
  have hi1 : Blk w1 w.heap.size #[.int .i64 S, .int .i64 E, .slice a X.length cap, .bool r] 24 := by rw [hw1]; exact Blk.new _ _ _
  have HBy := hide (fbytes_any S E a cap X r w1 hX (hl.below hb1) hn)
  have HM := fun u (hu : Vars u) => hide (made_any u hu)
  have HV := hide (hV.below hb1)
  have HB := hide hb1
  have HF := hide (hF.below hb1)
  have HFr := hide hFr
  have HSz := hide hsz
  have hs := sX_says S
  obtain ⟨he1, he2, _⟩ := eX_says E
  have hdx := diskX_all (s := sX S) (e := eX E) (by omega) (by omega) he1 he2 X (fun o ho => (hX o ho).2) r
  obtain ⟨N, hN⟩ : ∃ N, N = 512 * sX S := ⟨_, rfl⟩
  rw [← hN] at HBy hdx
  have HN := hide (show 10240 ≤ N ∧ N ≤ 112640 by omega)
  obtain ⟨d, hd⟩ : ∃ d, d = diskX (sX S) (eX E) X r := ⟨_, rfl⟩
  rw [← hd] at HBy hdx
  have HD := hide hdx
  obtain ⟨n, hne⟩ : ∃ n, n = X.length := ⟨_, rfl⟩
  rw [← hne] at HBy hi1 hw1 ⊢
  obtain ⟨m, hme⟩ : ∃ m, m = F.length := ⟨_, rfl⟩
  rw [← hme] at HF ⊢
  have HMe := hide hme
  have i0 := hi1.cell 0 _ rfl
  have i1 := hi1.cell 1 _ rfl
  have i2 := hi1.cell 2 _ rfl
  have i3 := hi1.cell 3 _ rfl
  rw [hw1] at i0 i1 i2 i3
  have HW1 := hide hw1
  clear hX hl hn hF hFr hsz hV hw1 hb1 hi1 hs he1 he2 hdx hN hd hne hme
  go_enter Tryd.func3, Tryd.ntmps3
  go_wp2_with fail
  rw [← HW1.out]
  refine HBy.out.mono ?_
  clear i0 i1 i2 i3
  rintro e9 w2 ⟨⟨h30, rfl⟩ | ⟨h30, a2, c2, rfl, hs2⟩, hb2⟩
  · have HV := hide (HV.out.below hb2)
    have HB := hide (HB.out.trans (hb2.mono HB.out.size))
    have HMd := HM w2 HV.out
    clear hb2 h30 HBy HM
    go_wp2_with fail
    refine HMd.out.mono ?_
    rintro e9 w3 ⟨rfl, hb3⟩
    have HB := hide (HB.out.trans (hb3.mono HB.out.size))
    clear hb3 HMd
    go_wp2_with fail
    go_ret
    exact ⟨rfl, HB.out⟩
  have HV := hide (HV.out.below hb2)
  have HB := hide (HB.out.trans (hb2.mono HB.out.size))
  have HF := hide (HF.out.below hb2)
  have HS := hide hs2
  clear hb2 h30 HBy hs2
  by_cases hm20 : 20 < m
  · have hd1 : decide ((20 : Int) < (m : Int)) = true := by simp; omega
    have hd2 : decide (20 < m) = true := by simpa using hm20
    have HMd := HM w2 HV.out
    clear HM hm20
    go_wp2_with fail
    refine HMd.out.mono ?_
    rintro e9 w3 ⟨rfl, hb3⟩
    have HB := hide (HB.out.trans (hb3.mono HB.out.size))
    clear hb3 HMd
    go_wp2_with fail
    go_ret
    exact ⟨rfl, HB.out⟩
  have hd1 : decide ((20 : Int) < (m : Int)) = false := by simp; omega
  have hd2 : decide (20 < m) = false := by simpa using hm20
  have HM20 := hide hm20
  clear hm20
  have HOp : Hid (Calls Tryd.prog 6 #[.iface 34 (.slice a2 N c2)] w2 fun e w' => ((opnE d = 0 ∧ ∃ R g, e = .returned (.tuple #[.pointer (some ⟨R, 0, none⟩), .int .i64 0]) ∧ Blk w' R (volC (opnB d) g (opnK d) (opnC d).1 (opnC d).2) 68 ∧ (∀ j, j < opnK d → w'.cell? ⟨g, j, none⟩ = some (.int .u32 ((numsF (secs d (opnB d).ahead (opnB d).long) (opnK d)).getD j 0))) ∧ w2.heap.size ≤ R ∧ w2.heap.size ≤ g) ∨ (opnE d ≠ 0 ∧ e = .returned (.tuple #[.pointer none, .int .i64 (opnE d)]))) ∧ Below w2.heap.size w2 w') := hide (by
    have h := open_any a2 c2 d w2 (by rw [HD.out.1]; have := HN.out; omega) HS.out.le HS.out.none HS.out.lies HD.out.2 HV.out (by rw [HD.out.1]; have := HN.out; omega)
    rw [HD.out.1] at h
    exact h)
  go_wp2_with fail
  refine HOp.out.mono ?_
  clear HOp
  rintro e9 w3 ⟨ho, hb3⟩
  have HV := hide (HV.out.below hb3)
  have HB := hide (HB.out.trans (hb3.mono HB.out.size))
  have HF := hide (HF.out.below hb3)
  have HS := hide (HS.out.below hb3)
  clear hb3
  have HRp : Hid (Calls Tryd.prog 7 #[.slice a2 N c2] w3 fun e w' => ((opnE d = 0 ∧ ∃ v, e = .returned (.agg (rvolC (opnB d) v (opnC d).1 (opnC d).2 0)) ∧ OwnC w' w3.heap.size v (0 :: 0 :: numsF (secs d (opnB d).ahead (opnB d).long) (opnK d))) ∨ (opnE d ≠ 0 ∧ e = .returned (.agg (rvolC bt0 (.slice none 0 0) 0 0 (opnE d))))) ∧ Below w3.heap.size w3 w') := hide (by
    have h := ropen_any a2 c2 d w3 (by rw [HD.out.1]; have := HN.out; omega) HS.out.le HS.out.lies HD.out.2 (by rw [HD.out.1]; have := HN.out; omega)
    rw [HD.out.1] at h
    exact h)
  rcases ho with ⟨hE0, R, g, rfl, hR, hL, hRl, hgl⟩ | ⟨hE0, rfl⟩
  rotate_left
  · obtain ⟨z, hz⟩ : ∃ z, z = opnE d := ⟨_, rfl⟩
    rw [← hz] at hE0 HRp ⊢
    have hzn : (z != 0) = true := by simpa using hE0
    have HZ := hide hE0
    clear hz hE0
    go_wp2_with fail
    refine HRp.out.mono ?_
    clear HRp
    rintro e9 w4 ⟨⟨hE1, _⟩ | ⟨hE1, rfl⟩, hb4⟩
    · exact absurd hE1 HZ.out
    clear hE1
    obtain ⟨w5, hw5⟩ : ∃ w5, w5 = (w4.alloc (.cells #[.int .i64 0, .int .i64 0, .int .i64 0, .int .i64 0, .int .i64 0, .int .i64 0, .int .i64 0, .int .i64 0, .slice none 0 0, .int .i64 0, .int .i64 0, .int .i64 0] 38)).setRow w4.heap.size (rvolC bt0 (.slice none 0 0) 0 0 z) := ⟨_, rfl⟩
    have HZ5 : Hid (Blk (w4.alloc (.cells #[.int .i64 0, .int .i64 0, .int .i64 0, .int .i64 0, .int .i64 0, .int .i64 0, .int .i64 0, .int .i64 0, .slice none 0 0, .int .i64 0, .int .i64 0, .int .i64 0] 38)) w4.heap.size #[.int .i64 0, .int .i64 0, .int .i64 0, .int .i64 0, .int .i64 0, .int .i64 0, .int .i64 0, .int .i64 0, .slice none 0 0, .int .i64 0, .int .i64 0, .int .i64 0] 38) := hide (Blk.new _ _ _)
    have hb5 : Below w4.heap.size w4 w5 := by rw [hw5]; exact setrow_below ((Below.refl _ _).alloc (Nat.le_refl _) _) (Nat.le_refl _)
    have HP := hide (show Blk w5 w4.heap.size (rvolC bt0 (.slice none 0 0) 0 0 z) 38 by rw [hw5]; exact setrow_blk HZ5.out)
    have H1c : Hid ((rvolC bt0 (.slice none 0 0) 0 0 z : Array Value).all (·.oneCell') = true) := hide (by simp [rvolC, Value.oneCell'])
    have H1i : Hid ((Tryd.prog.info? 38).map (·.size) = some (rvolC bt0 (.slice none 0 0) 0 0 z : Array Value).size) := hide (by kernel_rfl)
    have HV := hide ((HV.out.below hb4).below hb5)
    have HB := hide ((HB.out.trans (hb4.mono HB.out.size)).trans (hb5.mono (HB.out.trans (hb4.mono HB.out.size)).size))
    have HW5 := hide hw5
    have HMd := HM w5 HV.out
    clear hb4 hb5 hw5
    go_wp2_with (refine wpList_at (.store 38 (.tmp 11) (.tmp 40)) rfl ?_; refine wpList_store_row rfl 38 (.tmp 11) (.tmp 40) rfl w4.heap.size (rvolC bt0 (.slice none 0 0) 0 0 z) rfl rfl 38 #[.int .i64 0, .int .i64 0, .int .i64 0, .int .i64 0, .int .i64 0, .int .i64 0, .int .i64 0, .int .i64 0, .slice none 0 0, .int .i64 0, .int .i64 0, .int .i64 0] HZ5.out H1i.out (by simp [rvolC]) H1c.out ?_)
    rw [← HW5.out]
    refine HMd.out.mono ?_
    rintro e9 w6 ⟨rfl, hb6⟩
    have HP := hide (HP.out.below hb6)
    have HV := hide (HV.out.below hb6)
    have HB := hide (HB.out.trans (hb6.mono HB.out.size))
    have c11 : w6.cell? ⟨w4.heap.size, 11, none⟩ = some (.int .i64 z) := HP.out.cell 11 _ rfl
    have HMd := HM w6 HV.out
    clear hb6 HM
    go_wp2_with fail
    refine HMd.out.mono ?_
    rintro e9 w7 ⟨rfl, hb7⟩
    have HP := hide (HP.out.below hb7)
    have HB := hide (HB.out.trans (hb7.mono HB.out.size))
    clear c11
    have c11 : w7.cell? ⟨w4.heap.size, 11, none⟩ = some (.int .i64 z) := HP.out.cell 11 _ rfl
    clear hb7 HMd
    go_wp2_with fail
    go_ret
    exact ⟨rfl, HB.out⟩
  have HVol := hide (opnE_vol hE0)
  have HE0 := hide hE0
  obtain ⟨b, hb⟩ : ∃ b, b = opnB d := ⟨_, rfl⟩
  obtain ⟨k, hk⟩ : ∃ k, k = opnK d := ⟨_, rfl⟩
  obtain ⟨f, hf⟩ : ∃ f, f = (opnC d).1 := ⟨_, rfl⟩
  obtain ⟨x, hx⟩ : ∃ x, x = (opnC d).2 := ⟨_, rfl⟩
  rw [← hb, ← hk, ← hf, ← hx] at hR HRp HVol
  rw [← hb, ← hk] at hL
  obtain ⟨T, hT⟩ : ∃ T, T = secs d b.ahead b.long := ⟨_, rfl⟩
  rw [← hT] at hL HRp
  obtain ⟨L, hLe⟩ : ∃ L, L = numsF T k := ⟨_, rfl⟩
  have HLb := hide (fun i => num_bdX T k i)
  have HLl := hide (numsF_len T k)
  rw [← hLe] at hL HRp HLb HLl
  have HFm := hide (chk_says (parB_chk HVol.out.par)).1
  have HKk := hide (show k ≤ 33000 by
    have h1 := HVol.out.clus
    have h2 := Bt.form_says HFm.out
    have h3 := (Bt.clus_says HFm.out).2
    have h4 : 0 ≤ b.clus := (Bt.clus_says HFm.out).1
    have h5 : b.clus * 1 ≤ b.clus * b.each := Int.mul_le_mul_of_nonneg_left (by omega) h4
    have h6 := Bt.form_near HFm.out
    have h7 : 0 ≤ b.data := by unfold Bt.data; omega
    omega)
  have HR := hide hR
  have HL := hide hL
  clear hb hk hf hx hT hLe hR hL hRl hgl hE0
  go_wp2_with fail
  refine HRp.out.mono ?_
  clear HRp
  rintro e9 w4 ⟨⟨hE1, v, rfl, hv⟩ | ⟨hE1, _⟩, hb4⟩
  rotate_left
  · exact absurd HE0.out hE1
  clear hE1
  obtain ⟨w5, hw5⟩ : ∃ w5, w5 = (w4.alloc (.cells #[.int .i64 0, .int .i64 0, .int .i64 0, .int .i64 0, .int .i64 0, .int .i64 0, .int .i64 0, .int .i64 0, .slice none 0 0, .int .i64 0, .int .i64 0, .int .i64 0] 38)).setRow w4.heap.size (rvolC b v f x 0) := ⟨_, rfl⟩
  have HZ5 : Hid (Blk (w4.alloc (.cells #[.int .i64 0, .int .i64 0, .int .i64 0, .int .i64 0, .int .i64 0, .int .i64 0, .int .i64 0, .int .i64 0, .slice none 0 0, .int .i64 0, .int .i64 0, .int .i64 0] 38)) w4.heap.size #[.int .i64 0, .int .i64 0, .int .i64 0, .int .i64 0, .int .i64 0, .int .i64 0, .int .i64 0, .int .i64 0, .slice none 0 0, .int .i64 0, .int .i64 0, .int .i64 0] 38) := hide (Blk.new _ _ _)
  have hb5 : Below w4.heap.size w4 w5 := by rw [hw5]; exact setrow_below ((Below.refl _ _).alloc (Nat.le_refl _) _) (Nat.le_refl _)
  have HP := hide (show Blk w5 w4.heap.size (rvolC b v f x 0) 38 by rw [hw5]; exact setrow_blk HZ5.out)
  have H1c : Hid ((rvolC b v f x 0 : Array Value).all (·.oneCell') = true) := hide (by obtain ⟨av, cv, hve⟩ := hv.len; rw [hve]; simp [rvolC, Value.oneCell'])
  have H1i : Hid ((Tryd.prog.info? 38).map (·.size) = some (rvolC b v f x 0 : Array Value).size) := hide (by kernel_rfl)
  have HV := hide ((HV.out.below hb4).below hb5)
  have HB := hide ((HB.out.trans (hb4.mono HB.out.size)).trans (hb5.mono (HB.out.trans (hb4.mono HB.out.size)).size))
  have HF := hide ((HF.out.below hb4).below hb5)
  have HR := hide ((HR.out.below hb4).below hb5)
  have HL := hide (show ∀ j, j < k → w5.cell? ⟨g, j, none⟩ = some (.int .u32 (L.getD j 0)) from fun j hj => by
    have h := HL.out j hj
    have h4 := (hb4.cell (p := ⟨g, j, none⟩) (lt_of_cell h)).trans h
    exact (hb5.cell (p := ⟨g, j, none⟩) (lt_of_cell h4)).trans h4)
  have HVv := hide (hv.liesC.below hb5)
  have HW5 := hide hw5
  have HMd := HM w5 HV.out
  clear hb4 hb5 hw5 hv HM
  go_wp2_with (refine wpList_at (.store 38 (.tmp 11) (.tmp 40)) rfl ?_; refine wpList_store_row rfl 38 (.tmp 11) (.tmp 40) rfl w4.heap.size (rvolC b v f x 0) rfl rfl 38 #[.int .i64 0, .int .i64 0, .int .i64 0, .int .i64 0, .int .i64 0, .int .i64 0, .int .i64 0, .int .i64 0, .slice none 0 0, .int .i64 0, .int .i64 0, .int .i64 0] HZ5.out H1i.out (by simp [rvolC]) H1c.out ?_)
  rw [← HW5.out]
  obtain ⟨P, hP⟩ : ∃ P, P = w4.heap.size := ⟨_, rfl⟩
  rw [← hP] at HP ⊢
  clear hP
  refine HMd.out.mono ?_
  rintro e9 w6 ⟨rfl, hb6⟩
  have HP := hide (HP.out.below hb6)
  have HB := hide (HB.out.trans (hb6.mono HB.out.size))
  have HF := hide (HF.out.below hb6)
  have HR := hide (HR.out.below hb6)
  have HL := hide (show ∀ j, j < k → w6.cell? ⟨g, j, none⟩ = some (.int .u32 (L.getD j 0)) from fun j hj => (hb6.cell (p := ⟨g, j, none⟩) (lt_of_cell (HL.out j hj))).trans (HL.out j hj))
  have HVv := hide (HVv.out.below hb6)
  have c11 : w6.cell? ⟨P, 11, none⟩ = some (.int .i64 0) := HP.out.cell 11 _ rfl
  obtain ⟨w7, hw7⟩ : ∃ w7, w7 = w6.alloc (.map #[] 0) := ⟨_, rfl⟩
  have hmk : (Instr.makeMap 40 none).run Tryd.prog w6 = .ok (.map (some w6.heap.size)) w7 := by rw [hw7]; rfl
  have HM7 := hide (show MkR w7 w6.heap.size [] by rw [hw7]; exact MkR.made w6)
  have HB7 := hide (show Below w6.heap.size w6 w7 by rw [hw7]; exact (Below.refl _ _).alloc (Nat.le_refl _) _)
  have HS7 := hide (show w7.heap.size = w6.heap.size + 1 by rw [hw7]; simp)
  clear hb6 HMd HS HV hw7 HW5 HW1
  go_wp2_with fail
  clear c11 hmk
  go_loopw [13, 14] (fun mv i wr => ∃ (j : Nat) (M : List Int), j ≤ m ∧ i = .int .i64 (j : Int) ∧ OwnC wr (w6.heap.size + 1) mv M ∧ MkR wr w6.heap.size M ∧ M.Nodup ∧ (∀ a ∈ M, 2 ≤ a ∧ a < (k : Int) + 2) ∧ w6.heap.size + 1 ≤ wr.heap.size ∧ Below w6.heap.size w6 wr) (fun _ i _ => m - (intOf i).toNat)
  case atStart => exact ⟨0, [], by omega, rfl, World.ownsRow_nil _ _ _ _, HM7.out, by simp, by simp, by rw [HS7.out]; exact Nat.le_refl _, HB7.out⟩
  case round =>
    obtain ⟨j, M, hj, rfl, how, hmk, hnd, hin, hsz7, hbw⟩ := hrel
    have hMl : M.length ≤ k := by
      have := nodup_leF k (M.map (fun a => a - 2)) (hnd.map _ (fun p q h e => h (by omega))) (by intro y hy; obtain ⟨a, ha, rfl⟩ := List.mem_map.1 hy; have := hin a ha; omega)
      simpa using this
    have HO := hide how
    have HMk := hide hmk
    have HNd := hide hnd
    have HIn := hide hin
    have HMl := hide hMl
    have HBw := hide hbw
    have HSw := hide hsz7
    clear how hmk hnd hin hMl hbw hsz7
    by_cases hlt : j < m
    · have hltI : (j : Int) < (m : Int) := by omega
      have HFw := hide (HF.out.below HBw.out)
      obtain ⟨cb, co, cc, hve, cj⟩ := HFw.out.at_ (k := j) (by rw [← HMe.out]; exact hlt)
      have ha0 : fa = some ⟨cb, co, none⟩ := by simp at hve; exact hve.1
      subst ha0
      clear hve
      obtain ⟨c, hc⟩ : ∃ c, c = F.getD j 0 := ⟨_, rfl⟩
      rw [← hc] at cj
      have hcm : -9223372036854775808 ≤ c ∧ c ≤ 9223372036854775807 := HFr.out c (by
        have : F.getD j 0 = F[j]'(by rw [← HMe.out]; exact hlt) := by simp [show j < F.length by rw [← HMe.out]; exact hlt]
        rw [hc, this]
        exact List.getElem_mem _)
      have q1 : IntKind.i64.wrap ((j : Int) + 1) = (j : Int) + 1 := by rw [IntKind.wrap_i64]; have := HM20.out; omega
      have HJ := hide hlt
      have HRw := hide (HR.out.below HBw.out)
      have HLw := hide (show ∀ q, q < k → wr.cell? ⟨g, q, none⟩ = some (.int .u32 (L.getD q 0)) from fun q hq => (HBw.out.cell (p := ⟨g, q, none⟩) (lt_of_cell (HL.out q hq))).trans (HL.out q hq))
      have HCh := hide (chain_marks b R g k f x L M c w6.heap.size wr hcm (by have := HKk.out; omega) HRw.out HLw.out HLb.out HMk.out)
      have HRc := fun (u : World) (hu : LiesC u u13 M) (hu2 : LiesC u v (0 :: 0 :: L)) => hide (rchain_any b v u13 k f x L M c u hcm (by have := HKk.out; omega) HLl.out hu2 hu (by have := HKk.out; have := HMl.out; omega) HLb.out)
      have HOk := hide (fun l (h : fol L k (fun c => if c ∈ M then 1 else 0) (k + 1) [] c = (l, 0)) => fol_ok L k (fun c => if c ∈ M then 1 else 0) (k + 1) [] c l h (by simp) (by simp))
      obtain ⟨F0, hF0⟩ : ∃ F0, F0 = fol L k (fun c => if c ∈ M then 1 else 0) (k + 1) [] c := ⟨_, rfl⟩
      rw [← hF0] at HCh HRc HOk
      clear hF0 hcm hlt hj hc
      go_wp2_with fail
      refine HCh.out.mono ?_
      clear HCh
      rintro e9 w8 ⟨hcase, hc8⟩
      have hb8 : Below w6.heap.size w6 w8 := HBw.out.trans (hc8.below w6.heap.size HBw.out.size (fun i hi e => by omega))
      have HB8 := hide hb8
      have HO8 := hide (HO.out.chg hc8 (fun q hq e => by have := (World.ownsRow.lt HO.out q hq).1; omega))
      have HS8 := hide (Nat.le_trans HSw.out hc8.size)
      have HP8 := hide (HP.out.below hb8)
      have HV8 := hide (HVv.out.below hb8)
      have HR8 := hide (HR.out.below hb8)
      have hcb : cb < w6.heap.size := by
        obtain ⟨b9, o9, c9, hve, cj9⟩ := HF.out.at_ (k := j) (by rw [← HMe.out]; exact HJ.out)
        have h0 : cb = b9 := by simp at hve; exact hve.1.1
        rw [h0]
        exact lt_of_cell cj9
      have cj8 : w8.cell? ⟨cb, co + j, none⟩ = some (.int .i64 c) := by
        obtain ⟨b9, o9, c9, hve, cj9⟩ := HF.out.at_ (k := j) (by rw [← HMe.out]; exact HJ.out)
        obtain ⟨b8, o8, c88, hve8, cj88⟩ := HFw.out.at_ (k := j) (by rw [← HMe.out]; exact HJ.out)
        have h1 : w8.cell? ⟨cb, co + j, none⟩ = w6.cell? ⟨cb, co + j, none⟩ := hb8.cell (p := ⟨cb, co + j, none⟩) hcb
        have h2 : wr.cell? ⟨cb, co + j, none⟩ = w6.cell? ⟨cb, co + j, none⟩ := HBw.out.cell (p := ⟨cb, co + j, none⟩) hcb
        rw [h1, ← h2]
        exact cj
      clear hc8 hb8 cj hcb
      have HRd := hide (fun u (hu : Below w8.heap.size w8 u) => HRc u (HO8.out.liesC.below hu) (HV8.out.below hu))
      clear HRc
      rcases hcase with ⟨h0, v1, rfl, hv1, hm8⟩ | ⟨h0, rfl, hm8⟩
      · obtain ⟨l, hl⟩ : ∃ l, l = F0.1 := ⟨_, rfl⟩
        rw [← hl] at hv1 hm8
        have hfl : F0 = (l, 0) := Prod.ext hl.symm h0
        obtain ⟨hnd, hin⟩ := HOk.out l hfl
        have HNl := hide hnd
        have HIl := hide (show ∀ a ∈ l, ¬ a ∈ M ∧ 2 ≤ a ∧ a < (k : Int) + 2 by intro a ha; have h1 := hin a ha; refine ⟨?_, h1.2⟩; intro h; have := h1.1; simp [h] at this)
        have HLn := hide (show l.length ≤ k by
          have := nodup_leF k (l.map (fun a => a - 2)) (hnd.map _ (fun p q h e => h (by omega))) (by intro y hy; obtain ⟨a, ha, rfl⟩ := List.mem_map.1 hy; have := hin a ha; omega)
          simpa using this)
        rw [hfl] at HRd
        obtain ⟨Ln, hLn⟩ : ∃ Ln, Ln = l.length := ⟨_, rfl⟩
        obtain ⟨a1, c1, hv1e⟩ := hv1.len
        rw [← hLn] at hv1e
        subst hv1e
        have HLq := hide hLn
        have HV1 := hide hv1
        have HM8 := hide hm8
        clear h0 hl hfl hnd hin hv1 hm8 HOk hLn
        go_wp2_with fail
        refine wp_region_held_drew (S := fun u => Below w8.heap.size w8 u) (by kernel_rfl) ((Below.refl _ _).drew) (fun _ => ?_)
        refine any_take 0 (some 78) (.agg (rvolC b v f x 0)) rfl rfl (by kernel_rfl) (by kernel_rfl) (by kernel_rfl) (fun _ _ _ h => h) (by rfl) ((Below.refl _ _).drew) ?_ ?_
        · intro u hSu
          have s0 := (HP8.out.below hSu).cell 0 _ rfl
          have s1 := (HP8.out.below hSu).cell 1 _ rfl
          have s2 := (HP8.out.below hSu).cell 2 _ rfl
          have s3 := (HP8.out.below hSu).cell 3 _ rfl
          have s4 := (HP8.out.below hSu).cell 4 _ rfl
          have s5 := (HP8.out.below hSu).cell 5 _ rfl
          have s6 := (HP8.out.below hSu).cell 6 _ rfl
          have s7 := (HP8.out.below hSu).cell 7 _ rfl
          have s8 := (HP8.out.below hSu).cell 8 _ rfl
          have s9 := (HP8.out.below hSu).cell 9 _ rfl
          have s10 := (HP8.out.below hSu).cell 10 _ rfl
          have s11 := (HP8.out.below hSu).cell 11 _ rfl
          have sc := (hSu.cell (p := ⟨cb, co + j, none⟩) (lt_of_cell cj8)).trans cj8
          go_simp
          rfl
        simp only [Act.put, List.setIfInBounds_toArray, List.set_cons_zero, List.set_cons_succ]
        refine any_take 1 (some 79) (.slice (some ⟨cb, co, none⟩) m fcap) rfl rfl (by kernel_rfl) (by kernel_rfl) (by kernel_rfl) (fun _ _ _ h => h) (by rfl) ((Below.refl _ _).drew) ?_ ?_
        · intro u hSu
          have s0 := (HP8.out.below hSu).cell 0 _ rfl
          have s1 := (HP8.out.below hSu).cell 1 _ rfl
          have s2 := (HP8.out.below hSu).cell 2 _ rfl
          have s3 := (HP8.out.below hSu).cell 3 _ rfl
          have s4 := (HP8.out.below hSu).cell 4 _ rfl
          have s5 := (HP8.out.below hSu).cell 5 _ rfl
          have s6 := (HP8.out.below hSu).cell 6 _ rfl
          have s7 := (HP8.out.below hSu).cell 7 _ rfl
          have s8 := (HP8.out.below hSu).cell 8 _ rfl
          have s9 := (HP8.out.below hSu).cell 9 _ rfl
          have s10 := (HP8.out.below hSu).cell 10 _ rfl
          have s11 := (HP8.out.below hSu).cell 11 _ rfl
          have sc := (hSu.cell (p := ⟨cb, co + j, none⟩) (lt_of_cell cj8)).trans cj8
          go_simp
        simp only [Act.put, List.setIfInBounds_toArray, List.set_cons_zero, List.set_cons_succ]
        refine any_take 2 (some 80) (.int .i64 (j : Int)) rfl rfl (by kernel_rfl) (by kernel_rfl) (by kernel_rfl) (fun _ _ _ h => h) (by rfl) ((Below.refl _ _).drew) ?_ ?_
        · intro u hSu
          have s0 := (HP8.out.below hSu).cell 0 _ rfl
          have s1 := (HP8.out.below hSu).cell 1 _ rfl
          have s2 := (HP8.out.below hSu).cell 2 _ rfl
          have s3 := (HP8.out.below hSu).cell 3 _ rfl
          have s4 := (HP8.out.below hSu).cell 4 _ rfl
          have s5 := (HP8.out.below hSu).cell 5 _ rfl
          have s6 := (HP8.out.below hSu).cell 6 _ rfl
          have s7 := (HP8.out.below hSu).cell 7 _ rfl
          have s8 := (HP8.out.below hSu).cell 8 _ rfl
          have s9 := (HP8.out.below hSu).cell 9 _ rfl
          have s10 := (HP8.out.below hSu).cell 10 _ rfl
          have s11 := (HP8.out.below hSu).cell 11 _ rfl
          have sc := (hSu.cell (p := ⟨cb, co + j, none⟩) (lt_of_cell cj8)).trans cj8
          go_simp
        simp only [Act.put, List.setIfInBounds_toArray, List.set_cons_zero, List.set_cons_succ]
        refine any_take 3 (some 81) (.pointer (some ⟨cb, co + j, none⟩)) rfl rfl (by kernel_rfl) (by kernel_rfl) (by kernel_rfl) (fun _ _ _ h => h) (by rfl) ((Below.refl _ _).drew) ?_ ?_
        · intro u hSu
          have s0 := (HP8.out.below hSu).cell 0 _ rfl
          have s1 := (HP8.out.below hSu).cell 1 _ rfl
          have s2 := (HP8.out.below hSu).cell 2 _ rfl
          have s3 := (HP8.out.below hSu).cell 3 _ rfl
          have s4 := (HP8.out.below hSu).cell 4 _ rfl
          have s5 := (HP8.out.below hSu).cell 5 _ rfl
          have s6 := (HP8.out.below hSu).cell 6 _ rfl
          have s7 := (HP8.out.below hSu).cell 7 _ rfl
          have s8 := (HP8.out.below hSu).cell 8 _ rfl
          have s9 := (HP8.out.below hSu).cell 9 _ rfl
          have s10 := (HP8.out.below hSu).cell 10 _ rfl
          have s11 := (HP8.out.below hSu).cell 11 _ rfl
          have sc := (hSu.cell (p := ⟨cb, co + j, none⟩) (lt_of_cell cj8)).trans cj8
          go_simp
        simp only [Act.put, List.setIfInBounds_toArray, List.set_cons_zero, List.set_cons_succ]
        refine any_take 4 (some 82) (.int .i64 c) rfl rfl (by kernel_rfl) (by kernel_rfl) (by kernel_rfl) (fun _ _ _ h => h) (by rfl) ((Below.refl _ _).drew) ?_ ?_
        · intro u hSu
          have s0 := (HP8.out.below hSu).cell 0 _ rfl
          have s1 := (HP8.out.below hSu).cell 1 _ rfl
          have s2 := (HP8.out.below hSu).cell 2 _ rfl
          have s3 := (HP8.out.below hSu).cell 3 _ rfl
          have s4 := (HP8.out.below hSu).cell 4 _ rfl
          have s5 := (HP8.out.below hSu).cell 5 _ rfl
          have s6 := (HP8.out.below hSu).cell 6 _ rfl
          have s7 := (HP8.out.below hSu).cell 7 _ rfl
          have s8 := (HP8.out.below hSu).cell 8 _ rfl
          have s9 := (HP8.out.below hSu).cell 9 _ rfl
          have s10 := (HP8.out.below hSu).cell 10 _ rfl
          have s11 := (HP8.out.below hSu).cell 11 _ rfl
          have sc := (hSu.cell (p := ⟨cb, co + j, none⟩) (lt_of_cell cj8)).trans cj8
          go_simp
        simp only [Act.put, List.setIfInBounds_toArray, List.set_cons_zero, List.set_cons_succ]
        refine any_take 5 (some 83) (u13) rfl rfl (by kernel_rfl) (by kernel_rfl) (by kernel_rfl) (fun _ _ _ h => h) (by rfl) ((Below.refl _ _).drew) ?_ ?_
        · intro u hSu
          have s0 := (HP8.out.below hSu).cell 0 _ rfl
          have s1 := (HP8.out.below hSu).cell 1 _ rfl
          have s2 := (HP8.out.below hSu).cell 2 _ rfl
          have s3 := (HP8.out.below hSu).cell 3 _ rfl
          have s4 := (HP8.out.below hSu).cell 4 _ rfl
          have s5 := (HP8.out.below hSu).cell 5 _ rfl
          have s6 := (HP8.out.below hSu).cell 6 _ rfl
          have s7 := (HP8.out.below hSu).cell 7 _ rfl
          have s8 := (HP8.out.below hSu).cell 8 _ rfl
          have s9 := (HP8.out.below hSu).cell 9 _ rfl
          have s10 := (HP8.out.below hSu).cell 10 _ rfl
          have s11 := (HP8.out.below hSu).cell 11 _ rfl
          have sc := (hSu.cell (p := ⟨cb, co + j, none⟩) (lt_of_cell cj8)).trans cj8
          go_simp
        simp only [Act.put, List.setIfInBounds_toArray, List.set_cons_zero, List.set_cons_succ]
        refine wpAnyH_ready (rs := [6]) (by kernel_rfl) (by simp) ?_
        refine AllReadyH.cons (i := 6) rfl (fun K hK => ?_) AllReadyH.nil
        go_simp
        refine ((HRd.out _ (Below.refl _ _).drew).out).mono ?_
        rintro e9 w9 ⟨⟨h9, v2, rfl, hv2⟩ | ⟨h9, _⟩, hb9⟩
        rotate_left
        · exact absurd rfl h9
        clear h9
        obtain ⟨a2v, c2v, hv2e⟩ := hv2.len
        rw [show ((l, (0 : Int)).1).length = Ln from HLq.out.symm] at hv2e
        subst hv2e
        have HV2 := hide (show OwnC w9 w8.heap.size (.slice a2v Ln c2v) l from hv2)
        have HB9 := hide ((Below.refl w8.heap.size w8).drew.trans hb9)
        clear hv2 hb9
        go_simp
        refine hK.out _ _ (HB9.out) (fun _ => ?_)
        clear hK K
        try simp only [Act.put, List.setIfInBounds_toArray, List.set_cons_zero, List.set_cons_succ]
        refine any_take 7 (some 77) (.tuple #[.slice a2v Ln c2v, .int .i64 0]) rfl rfl (by kernel_rfl) (by kernel_rfl) (by kernel_rfl) (fun _ _ _ h => h) (by rfl) (HB9.out) ?_ ?_
        · intro u hSu
          have s0 := (HP8.out.below hSu).cell 0 _ rfl
          have s1 := (HP8.out.below hSu).cell 1 _ rfl
          have s2 := (HP8.out.below hSu).cell 2 _ rfl
          have s3 := (HP8.out.below hSu).cell 3 _ rfl
          have s4 := (HP8.out.below hSu).cell 4 _ rfl
          have s5 := (HP8.out.below hSu).cell 5 _ rfl
          have s6 := (HP8.out.below hSu).cell 6 _ rfl
          have s7 := (HP8.out.below hSu).cell 7 _ rfl
          have s8 := (HP8.out.below hSu).cell 8 _ rfl
          have s9 := (HP8.out.below hSu).cell 9 _ rfl
          have s10 := (HP8.out.below hSu).cell 10 _ rfl
          have s11 := (HP8.out.below hSu).cell 11 _ rfl
          have sc := (hSu.cell (p := ⟨cb, co + j, none⟩) (lt_of_cell cj8)).trans cj8
          go_simp
        simp only [Act.put, List.setIfInBounds_toArray, List.set_cons_zero, List.set_cons_succ]
        refine any_take 8 (some 85) (.slice a2v Ln c2v) rfl rfl (by kernel_rfl) (by kernel_rfl) (by kernel_rfl) (fun _ _ _ h => h) (by rfl) (HB9.out) ?_ ?_
        · intro u hSu
          have s0 := (HP8.out.below hSu).cell 0 _ rfl
          have s1 := (HP8.out.below hSu).cell 1 _ rfl
          have s2 := (HP8.out.below hSu).cell 2 _ rfl
          have s3 := (HP8.out.below hSu).cell 3 _ rfl
          have s4 := (HP8.out.below hSu).cell 4 _ rfl
          have s5 := (HP8.out.below hSu).cell 5 _ rfl
          have s6 := (HP8.out.below hSu).cell 6 _ rfl
          have s7 := (HP8.out.below hSu).cell 7 _ rfl
          have s8 := (HP8.out.below hSu).cell 8 _ rfl
          have s9 := (HP8.out.below hSu).cell 9 _ rfl
          have s10 := (HP8.out.below hSu).cell 10 _ rfl
          have s11 := (HP8.out.below hSu).cell 11 _ rfl
          have sc := (hSu.cell (p := ⟨cb, co + j, none⟩) (lt_of_cell cj8)).trans cj8
          go_simp
        simp only [Act.put, List.setIfInBounds_toArray, List.set_cons_zero, List.set_cons_succ]
        refine any_take 9 (some 86) (.int .i64 0) rfl rfl (by kernel_rfl) (by kernel_rfl) (by kernel_rfl) (fun _ _ _ h => h) (by rfl) (HB9.out) ?_ ?_
        · intro u hSu
          have s0 := (HP8.out.below hSu).cell 0 _ rfl
          have s1 := (HP8.out.below hSu).cell 1 _ rfl
          have s2 := (HP8.out.below hSu).cell 2 _ rfl
          have s3 := (HP8.out.below hSu).cell 3 _ rfl
          have s4 := (HP8.out.below hSu).cell 4 _ rfl
          have s5 := (HP8.out.below hSu).cell 5 _ rfl
          have s6 := (HP8.out.below hSu).cell 6 _ rfl
          have s7 := (HP8.out.below hSu).cell 7 _ rfl
          have s8 := (HP8.out.below hSu).cell 8 _ rfl
          have s9 := (HP8.out.below hSu).cell 9 _ rfl
          have s10 := (HP8.out.below hSu).cell 10 _ rfl
          have s11 := (HP8.out.below hSu).cell 11 _ rfl
          have sc := (hSu.cell (p := ⟨cb, co + j, none⟩) (lt_of_cell cj8)).trans cj8
          go_simp
        simp only [Act.put, List.setIfInBounds_toArray, List.set_cons_zero, List.set_cons_succ]
        refine any_take 10 (some 17) (.slice a2v Ln c2v) rfl rfl (by kernel_rfl) (by kernel_rfl) (by kernel_rfl) (fun _ _ _ h => h) (by rfl) (HB9.out) ?_ ?_
        · intro u hSu
          have s0 := (HP8.out.below hSu).cell 0 _ rfl
          have s1 := (HP8.out.below hSu).cell 1 _ rfl
          have s2 := (HP8.out.below hSu).cell 2 _ rfl
          have s3 := (HP8.out.below hSu).cell 3 _ rfl
          have s4 := (HP8.out.below hSu).cell 4 _ rfl
          have s5 := (HP8.out.below hSu).cell 5 _ rfl
          have s6 := (HP8.out.below hSu).cell 6 _ rfl
          have s7 := (HP8.out.below hSu).cell 7 _ rfl
          have s8 := (HP8.out.below hSu).cell 8 _ rfl
          have s9 := (HP8.out.below hSu).cell 9 _ rfl
          have s10 := (HP8.out.below hSu).cell 10 _ rfl
          have s11 := (HP8.out.below hSu).cell 11 _ rfl
          have sc := (hSu.cell (p := ⟨cb, co + j, none⟩) (lt_of_cell cj8)).trans cj8
          go_simp
        simp only [Act.put, List.setIfInBounds_toArray, List.set_cons_zero, List.set_cons_succ]
        refine any_take 11 (some 18) (.int .i64 0) rfl rfl (by kernel_rfl) (by kernel_rfl) (by kernel_rfl) (fun _ _ _ h => h) (by rfl) (HB9.out) ?_ ?_
        · intro u hSu
          have s0 := (HP8.out.below hSu).cell 0 _ rfl
          have s1 := (HP8.out.below hSu).cell 1 _ rfl
          have s2 := (HP8.out.below hSu).cell 2 _ rfl
          have s3 := (HP8.out.below hSu).cell 3 _ rfl
          have s4 := (HP8.out.below hSu).cell 4 _ rfl
          have s5 := (HP8.out.below hSu).cell 5 _ rfl
          have s6 := (HP8.out.below hSu).cell 6 _ rfl
          have s7 := (HP8.out.below hSu).cell 7 _ rfl
          have s8 := (HP8.out.below hSu).cell 8 _ rfl
          have s9 := (HP8.out.below hSu).cell 9 _ rfl
          have s10 := (HP8.out.below hSu).cell 10 _ rfl
          have s11 := (HP8.out.below hSu).cell 11 _ rfl
          have sc := (hSu.cell (p := ⟨cb, co + j, none⟩) (lt_of_cell cj8)).trans cj8
          go_simp
        simp only [Act.put, List.setIfInBounds_toArray, List.set_cons_zero, List.set_cons_succ]
        refine wpAnyH_done (by kernel_rfl) ?_ _
        have HV1 := hide (HV1.out.below HB9.out)
        have HM9 := hide (HM8.out.below HB9.out)
        have HO9 := hide (HO8.out.below HB9.out)
        have HBz := hide (HB8.out.trans (HB9.out.mono HB8.out.size))
        have HP9 := hide (HP8.out.below HB9.out)
        have HR9 := hide (HR8.out.below HB9.out)
        have hsz9 : w6.heap.size + 1 ≤ w9.heap.size := Nat.le_trans HS8.out HB9.out.size
        have HS9 := hide hsz9
        clear hsz9 cj8 HRd
        have q5 : IntKind.i64.wrap ((Ln : Int)) = (Ln : Int) := by rw [IntKind.wrap_i64]; have := HLq.out; have := HLn.out; have := HKk.out; omega
        go_wp2_with fail
        go_loopw [19] (fun i wr2 => ∃ q : Nat, q ≤ Ln ∧ i = .int .i64 (q : Int) ∧ Below w9.heap.size w9 wr2) (fun i _ => Ln - (intOf i).toNat)
        case atStart => exact ⟨0, by omega, rfl, Below.refl _ _⟩
        case round =>
          obtain ⟨q, hq, rfl, hbq⟩ := hrel
          have HBq := hide hbq
          have HVa := hide (HV1.out.below hbq)
          have HVb := hide (HV2.out.below hbq)
          have HOq := hide (HO9.out.below hbq)
          clear hbq
          by_cases hql : q < Ln
          · have hqI : (q : Int) < (Ln : Int) := by omega
            have q6 : IntKind.i64.wrap ((q : Int) + 1) = (q : Int) + 1 := by rw [IntKind.wrap_i64]; have := HLq.out; have := HLn.out; have := HKk.out; omega
            have hqq : q < l.length := by rw [← HLq.out]; exact hql
            obtain ⟨z, hz⟩ : ∃ z, z = l[q] := ⟨_, rfl⟩
            have hzm : z ∈ l := by rw [hz]; exact List.getElem_mem _
            have hznM : ¬ z ∈ M := (HIl.out z hzm).1
            have hdz : decide (z ∈ M) = false := by simpa using hznM
            obtain ⟨g1, rfl, k1⟩ := HVa.out.atX q z (by rw [List.getElem?_eq_getElem hqq, hz])
            obtain ⟨g2, rfl, k2⟩ := HVb.out.atX q z (by rw [List.getElem?_eq_getElem hqq, hz])
            have HIn2 : ∀ u, LiesC u u13 M → Hid (Calls Tryd.prog 10 #[u13, .int .i64 z] u fun e w' => e = .returned (.bool false) ∧ w' = u) := fun u hu => hide (by have h := rin_any u13 M z u (by have := HMl.out; have := HKk.out; omega) hu; rw [hdz] at h; exact h)
            have HQ := hide (And.intro hq hql)
            clear hq hql hqq hz hzm hznM hdz
            go_wp2_with fail
            refine wp_region_held_drew (S := fun u => Below wr.heap.size wr u) (by kernel_rfl) ((Below.refl _ _).drew) (fun _ => ?_)
            refine any_take 0 (some 103) (.slice (some ⟨g1, 0, none⟩) Ln c1) rfl rfl (by kernel_rfl) (by kernel_rfl) (by kernel_rfl) (fun _ _ _ h => h) (by rfl) ((Below.refl _ _).drew) ?_ ?_
            · intro u hSu
              have s1 := (hSu.cell (p := ⟨g1, q, none⟩) (lt_of_cell k1)).trans k1
              have s2 := (hSu.cell (p := ⟨g2, q, none⟩) (lt_of_cell k2)).trans k2
              go_simp
            simp only [Act.put, List.setIfInBounds_toArray, List.set_cons_zero, List.set_cons_succ]
            refine any_take 1 (some 104) (.int .i64 (q : Int)) rfl rfl (by kernel_rfl) (by kernel_rfl) (by kernel_rfl) (fun _ _ _ h => h) (by rfl) ((Below.refl _ _).drew) ?_ ?_
            · intro u hSu
              have s1 := (hSu.cell (p := ⟨g1, q, none⟩) (lt_of_cell k1)).trans k1
              have s2 := (hSu.cell (p := ⟨g2, q, none⟩) (lt_of_cell k2)).trans k2
              go_simp
            simp only [Act.put, List.setIfInBounds_toArray, List.set_cons_zero, List.set_cons_succ]
            refine any_take 2 (some 105) (.pointer (some ⟨g1, q, none⟩)) rfl rfl (by kernel_rfl) (by kernel_rfl) (by kernel_rfl) (fun _ _ _ h => h) (by rfl) ((Below.refl _ _).drew) ?_ ?_
            · intro u hSu
              have s1 := (hSu.cell (p := ⟨g1, q, none⟩) (lt_of_cell k1)).trans k1
              have s2 := (hSu.cell (p := ⟨g2, q, none⟩) (lt_of_cell k2)).trans k2
              go_simp
            simp only [Act.put, List.setIfInBounds_toArray, List.set_cons_zero, List.set_cons_succ]
            refine any_take 3 (some 106) (.int .i64 z) rfl rfl (by kernel_rfl) (by kernel_rfl) (by kernel_rfl) (fun _ _ _ h => h) (by rfl) ((Below.refl _ _).drew) ?_ ?_
            · intro u hSu
              have s1 := (hSu.cell (p := ⟨g1, q, none⟩) (lt_of_cell k1)).trans k1
              have s2 := (hSu.cell (p := ⟨g2, q, none⟩) (lt_of_cell k2)).trans k2
              go_simp
            simp only [Act.put, List.setIfInBounds_toArray, List.set_cons_zero, List.set_cons_succ]
            refine any_take 4 (some 107) (.slice (some ⟨g2, 0, none⟩) Ln c2v) rfl rfl (by kernel_rfl) (by kernel_rfl) (by kernel_rfl) (fun _ _ _ h => h) (by rfl) ((Below.refl _ _).drew) ?_ ?_
            · intro u hSu
              have s1 := (hSu.cell (p := ⟨g1, q, none⟩) (lt_of_cell k1)).trans k1
              have s2 := (hSu.cell (p := ⟨g2, q, none⟩) (lt_of_cell k2)).trans k2
              go_simp
            simp only [Act.put, List.setIfInBounds_toArray, List.set_cons_zero, List.set_cons_succ]
            refine any_take 5 (some 108) (.int .i64 (q : Int)) rfl rfl (by kernel_rfl) (by kernel_rfl) (by kernel_rfl) (fun _ _ _ h => h) (by rfl) ((Below.refl _ _).drew) ?_ ?_
            · intro u hSu
              have s1 := (hSu.cell (p := ⟨g1, q, none⟩) (lt_of_cell k1)).trans k1
              have s2 := (hSu.cell (p := ⟨g2, q, none⟩) (lt_of_cell k2)).trans k2
              go_simp
            simp only [Act.put, List.setIfInBounds_toArray, List.set_cons_zero, List.set_cons_succ]
            refine any_take 6 (some 109) (.pointer (some ⟨g2, q, none⟩)) rfl rfl (by kernel_rfl) (by kernel_rfl) (by kernel_rfl) (fun _ _ _ h => h) (by rfl) ((Below.refl _ _).drew) ?_ ?_
            · intro u hSu
              have s1 := (hSu.cell (p := ⟨g1, q, none⟩) (lt_of_cell k1)).trans k1
              have s2 := (hSu.cell (p := ⟨g2, q, none⟩) (lt_of_cell k2)).trans k2
              go_simp
            simp only [Act.put, List.setIfInBounds_toArray, List.set_cons_zero, List.set_cons_succ]
            refine any_take 7 (some 110) (.int .i64 z) rfl rfl (by kernel_rfl) (by kernel_rfl) (by kernel_rfl) (fun _ _ _ h => h) (by rfl) ((Below.refl _ _).drew) ?_ ?_
            · intro u hSu
              have s1 := (hSu.cell (p := ⟨g1, q, none⟩) (lt_of_cell k1)).trans k1
              have s2 := (hSu.cell (p := ⟨g2, q, none⟩) (lt_of_cell k2)).trans k2
              go_simp
            simp only [Act.put, List.setIfInBounds_toArray, List.set_cons_zero, List.set_cons_succ]
            refine any_take 8 (some 111) (.bool false) rfl rfl (by kernel_rfl) (by kernel_rfl) (by kernel_rfl) (fun _ _ _ h => h) (by rfl) ((Below.refl _ _).drew) ?_ ?_
            · intro u hSu
              have s1 := (hSu.cell (p := ⟨g1, q, none⟩) (lt_of_cell k1)).trans k1
              have s2 := (hSu.cell (p := ⟨g2, q, none⟩) (lt_of_cell k2)).trans k2
              go_simp
            simp only [Act.put, List.setIfInBounds_toArray, List.set_cons_zero, List.set_cons_succ]
            refine any_take 9 (some 112) (.bool false) rfl rfl (by kernel_rfl) (by kernel_rfl) (by kernel_rfl) (fun _ _ _ h => h) (by rfl) ((Below.refl _ _).drew) ?_ ?_
            · intro u hSu
              have s1 := (hSu.cell (p := ⟨g1, q, none⟩) (lt_of_cell k1)).trans k1
              have s2 := (hSu.cell (p := ⟨g2, q, none⟩) (lt_of_cell k2)).trans k2
              go_simp
            simp only [Act.put, List.setIfInBounds_toArray, List.set_cons_zero, List.set_cons_succ]
            refine any_take 10 (some 113) (u13) rfl rfl (by kernel_rfl) (by kernel_rfl) (by kernel_rfl) (fun _ _ _ h => h) (by rfl) ((Below.refl _ _).drew) ?_ ?_
            · intro u hSu
              have s1 := (hSu.cell (p := ⟨g1, q, none⟩) (lt_of_cell k1)).trans k1
              have s2 := (hSu.cell (p := ⟨g2, q, none⟩) (lt_of_cell k2)).trans k2
              go_simp
            simp only [Act.put, List.setIfInBounds_toArray, List.set_cons_zero, List.set_cons_succ]
            refine any_take 11 (some 114) (.slice (some ⟨g1, 0, none⟩) Ln c1) rfl rfl (by kernel_rfl) (by kernel_rfl) (by kernel_rfl) (fun _ _ _ h => h) (by rfl) ((Below.refl _ _).drew) ?_ ?_
            · intro u hSu
              have s1 := (hSu.cell (p := ⟨g1, q, none⟩) (lt_of_cell k1)).trans k1
              have s2 := (hSu.cell (p := ⟨g2, q, none⟩) (lt_of_cell k2)).trans k2
              go_simp
            simp only [Act.put, List.setIfInBounds_toArray, List.set_cons_zero, List.set_cons_succ]
            refine any_take 12 (some 115) (.int .i64 (q : Int)) rfl rfl (by kernel_rfl) (by kernel_rfl) (by kernel_rfl) (fun _ _ _ h => h) (by rfl) ((Below.refl _ _).drew) ?_ ?_
            · intro u hSu
              have s1 := (hSu.cell (p := ⟨g1, q, none⟩) (lt_of_cell k1)).trans k1
              have s2 := (hSu.cell (p := ⟨g2, q, none⟩) (lt_of_cell k2)).trans k2
              go_simp
            simp only [Act.put, List.setIfInBounds_toArray, List.set_cons_zero, List.set_cons_succ]
            refine any_take 13 (some 116) (.pointer (some ⟨g1, q, none⟩)) rfl rfl (by kernel_rfl) (by kernel_rfl) (by kernel_rfl) (fun _ _ _ h => h) (by rfl) ((Below.refl _ _).drew) ?_ ?_
            · intro u hSu
              have s1 := (hSu.cell (p := ⟨g1, q, none⟩) (lt_of_cell k1)).trans k1
              have s2 := (hSu.cell (p := ⟨g2, q, none⟩) (lt_of_cell k2)).trans k2
              go_simp
            simp only [Act.put, List.setIfInBounds_toArray, List.set_cons_zero, List.set_cons_succ]
            refine any_take 14 (some 117) (.int .i64 z) rfl rfl (by kernel_rfl) (by kernel_rfl) (by kernel_rfl) (fun _ _ _ h => h) (by rfl) ((Below.refl _ _).drew) ?_ ?_
            · intro u hSu
              have s1 := (hSu.cell (p := ⟨g1, q, none⟩) (lt_of_cell k1)).trans k1
              have s2 := (hSu.cell (p := ⟨g2, q, none⟩) (lt_of_cell k2)).trans k2
              go_simp
            simp only [Act.put, List.setIfInBounds_toArray, List.set_cons_zero, List.set_cons_succ]
            refine wpAnyH_ready (rs := [15]) (by kernel_rfl) (by simp) ?_
            refine AllReadyH.cons (i := 15) rfl (fun K hK => ?_) AllReadyH.nil
            go_simp
            refine ((HIn2 _ (HOq.out.liesC.below (Below.refl _ _).drew)).out).mono ?_
            rintro e9 x2 ⟨rfl, h2⟩
            rw [h2]
            clear h2
            go_simp
            refine hK.out _ _ ((Below.refl _ _).drew) (fun _ => ?_)
            clear hK K
            try simp only [Act.put, List.setIfInBounds_toArray, List.set_cons_zero, List.set_cons_succ]
            refine any_take 16 (some 119) (.bool false) rfl rfl (by kernel_rfl) (by kernel_rfl) (by kernel_rfl) (fun _ _ _ h => h) (by rfl) ((Below.refl _ _).drew) ?_ ?_
            · intro u hSu
              have s1 := (hSu.cell (p := ⟨g1, q, none⟩) (lt_of_cell k1)).trans k1
              have s2 := (hSu.cell (p := ⟨g2, q, none⟩) (lt_of_cell k2)).trans k2
              go_simp
            simp only [Act.put, List.setIfInBounds_toArray, List.set_cons_zero, List.set_cons_succ]
            refine wpAnyH_done (by kernel_rfl) ?_ _
            go_wp2_with fail
            go_roundw
            case rel => exact ⟨q + 1, by have := HQ.out; omega, by push_cast; rfl, HBq.out.drew⟩
            case measure => have := HQ.out; simp [intOf]; omega
          · obtain rfl : q = Ln := by omega
            have hnlq : ¬ ((q : Int) < (q : Int)) := by omega
            clear hq hql
            have HMq := hide (HM9.out.below HBq.out)
            have HPq := hide (HP9.out.below HBq.out)
            have HRq := hide (HR9.out.below HBq.out)
            have HBz2 := hide (HBz.out.trans (HBq.out.mono HBz.out.size))
            have HSq := hide (Nat.le_trans HS9.out HBq.out.size)
            have HRn := hide (fun c hc => show (0 : Int) ≤ c ∧ c ≤ 100000 by have := (HIl.out c hc).2; have := HKk.out; omega)
            have HRu := fun (u : World) (hu : Below wr.heap.size wr u) => hide (runs_any b R g k f x l (.slice a1 q c1) size u HFm.out (HRq.out.below hu) (HVa.out.liesC.below hu) HRn.out (by have := HLn.out; have := HKk.out; omega) HSz.out)
            have HRr := fun (u : World) (hu : Below wr.heap.size wr u) => hide (rruns_any b l (.slice a2v q c2v) size u HFm.out (HVb.out.liesC.below hu) HRn.out (by have := HLn.out; have := HKk.out; omega) HSz.out)
            obtain ⟨RR, hRR⟩ : ∃ RR, RR = runsF b l size [] := ⟨_, rfl⟩
            have hRl : RR.length ≤ 40000 := by
              have h := runsF_len b l size []
              rw [← hRR] at h
              have := HLn.out
              have := HKk.out
              simp at h
              omega
            rw [← hRR] at HRu HRr
            have HRl := hide hRl
            clear hRR hRl
            go_wp2_with fail
            refine wp_region_held_drew (S := fun u => Below wr.heap.size wr u) (by kernel_rfl) ((Below.refl _ _).drew) (fun _ => ?_)
            refine any_take 0 (some 120) (.int .i64 0) rfl rfl (by kernel_rfl) (by kernel_rfl) (by kernel_rfl) (fun _ _ _ h => h) (by rfl) ((Below.refl _ _).drew) ?_ ?_
            · intro u hSu
              have s0 := (HPq.out.below hSu).cell 0 _ rfl
              have s1 := (HPq.out.below hSu).cell 1 _ rfl
              have s2 := (HPq.out.below hSu).cell 2 _ rfl
              have s3 := (HPq.out.below hSu).cell 3 _ rfl
              have s4 := (HPq.out.below hSu).cell 4 _ rfl
              have s5 := (HPq.out.below hSu).cell 5 _ rfl
              have s6 := (HPq.out.below hSu).cell 6 _ rfl
              have s7 := (HPq.out.below hSu).cell 7 _ rfl
              go_simp
            simp only [Act.put, List.setIfInBounds_toArray, List.set_cons_zero, List.set_cons_succ]
            refine any_take 1 (some 121) (.bool true) rfl rfl (by kernel_rfl) (by kernel_rfl) (by kernel_rfl) (fun _ _ _ h => h) (by rfl) ((Below.refl _ _).drew) ?_ ?_
            · intro u hSu
              have s0 := (HPq.out.below hSu).cell 0 _ rfl
              have s1 := (HPq.out.below hSu).cell 1 _ rfl
              have s2 := (HPq.out.below hSu).cell 2 _ rfl
              have s3 := (HPq.out.below hSu).cell 3 _ rfl
              have s4 := (HPq.out.below hSu).cell 4 _ rfl
              have s5 := (HPq.out.below hSu).cell 5 _ rfl
              have s6 := (HPq.out.below hSu).cell 6 _ rfl
              have s7 := (HPq.out.below hSu).cell 7 _ rfl
              go_simp
            simp only [Act.put, List.setIfInBounds_toArray, List.set_cons_zero, List.set_cons_succ]
            refine any_take 2 (some 122) (.bool true) rfl rfl (by kernel_rfl) (by kernel_rfl) (by kernel_rfl) (fun _ _ _ h => h) (by rfl) ((Below.refl _ _).drew) ?_ ?_
            · intro u hSu
              have s0 := (HPq.out.below hSu).cell 0 _ rfl
              have s1 := (HPq.out.below hSu).cell 1 _ rfl
              have s2 := (HPq.out.below hSu).cell 2 _ rfl
              have s3 := (HPq.out.below hSu).cell 3 _ rfl
              have s4 := (HPq.out.below hSu).cell 4 _ rfl
              have s5 := (HPq.out.below hSu).cell 5 _ rfl
              have s6 := (HPq.out.below hSu).cell 6 _ rfl
              have s7 := (HPq.out.below hSu).cell 7 _ rfl
              go_simp
            simp only [Act.put, List.setIfInBounds_toArray, List.set_cons_zero, List.set_cons_succ]
            refine any_take 3 (some 123) (.pointer (some ⟨R, 0, none⟩)) rfl rfl (by kernel_rfl) (by kernel_rfl) (by kernel_rfl) (fun _ _ _ h => h) (by rfl) ((Below.refl _ _).drew) ?_ ?_
            · intro u hSu
              have s0 := (HPq.out.below hSu).cell 0 _ rfl
              have s1 := (HPq.out.below hSu).cell 1 _ rfl
              have s2 := (HPq.out.below hSu).cell 2 _ rfl
              have s3 := (HPq.out.below hSu).cell 3 _ rfl
              have s4 := (HPq.out.below hSu).cell 4 _ rfl
              have s5 := (HPq.out.below hSu).cell 5 _ rfl
              have s6 := (HPq.out.below hSu).cell 6 _ rfl
              have s7 := (HPq.out.below hSu).cell 7 _ rfl
              go_simp
            simp only [Act.put, List.setIfInBounds_toArray, List.set_cons_zero, List.set_cons_succ]
            refine any_take 4 (some 124) (.slice a1 q c1) rfl rfl (by kernel_rfl) (by kernel_rfl) (by kernel_rfl) (fun _ _ _ h => h) (by rfl) ((Below.refl _ _).drew) ?_ ?_
            · intro u hSu
              have s0 := (HPq.out.below hSu).cell 0 _ rfl
              have s1 := (HPq.out.below hSu).cell 1 _ rfl
              have s2 := (HPq.out.below hSu).cell 2 _ rfl
              have s3 := (HPq.out.below hSu).cell 3 _ rfl
              have s4 := (HPq.out.below hSu).cell 4 _ rfl
              have s5 := (HPq.out.below hSu).cell 5 _ rfl
              have s6 := (HPq.out.below hSu).cell 6 _ rfl
              have s7 := (HPq.out.below hSu).cell 7 _ rfl
              go_simp
            simp only [Act.put, List.setIfInBounds_toArray, List.set_cons_zero, List.set_cons_succ]
            refine any_take 5 (some 125) (.int .i64 size) rfl rfl (by kernel_rfl) (by kernel_rfl) (by kernel_rfl) (fun _ _ _ h => h) (by rfl) ((Below.refl _ _).drew) ?_ ?_
            · intro u hSu
              have s0 := (HPq.out.below hSu).cell 0 _ rfl
              have s1 := (HPq.out.below hSu).cell 1 _ rfl
              have s2 := (HPq.out.below hSu).cell 2 _ rfl
              have s3 := (HPq.out.below hSu).cell 3 _ rfl
              have s4 := (HPq.out.below hSu).cell 4 _ rfl
              have s5 := (HPq.out.below hSu).cell 5 _ rfl
              have s6 := (HPq.out.below hSu).cell 6 _ rfl
              have s7 := (HPq.out.below hSu).cell 7 _ rfl
              go_simp
            simp only [Act.put, List.setIfInBounds_toArray, List.set_cons_zero, List.set_cons_succ]
            refine any_take 7 (some 127) (.pointer (some ⟨P, 0, none⟩)) rfl rfl (by kernel_rfl) (by kernel_rfl) (by kernel_rfl) (fun _ _ _ h => h) (by rfl) ((Below.refl _ _).drew) ?_ ?_
            · intro u hSu
              have s0 := (HPq.out.below hSu).cell 0 _ rfl
              have s1 := (HPq.out.below hSu).cell 1 _ rfl
              have s2 := (HPq.out.below hSu).cell 2 _ rfl
              have s3 := (HPq.out.below hSu).cell 3 _ rfl
              have s4 := (HPq.out.below hSu).cell 4 _ rfl
              have s5 := (HPq.out.below hSu).cell 5 _ rfl
              have s6 := (HPq.out.below hSu).cell 6 _ rfl
              have s7 := (HPq.out.below hSu).cell 7 _ rfl
              go_simp
            simp only [Act.put, List.setIfInBounds_toArray, List.set_cons_zero, List.set_cons_succ]
            refine any_take 8 (some 128) (.agg b.cs) rfl rfl (by kernel_rfl) (by kernel_rfl) (by kernel_rfl) (fun _ _ _ h => h) (by rfl) ((Below.refl _ _).drew) ?_ ?_
            · intro u hSu
              have s0 := (HPq.out.below hSu).cell 0 _ rfl
              have s1 := (HPq.out.below hSu).cell 1 _ rfl
              have s2 := (HPq.out.below hSu).cell 2 _ rfl
              have s3 := (HPq.out.below hSu).cell 3 _ rfl
              have s4 := (HPq.out.below hSu).cell 4 _ rfl
              have s5 := (HPq.out.below hSu).cell 5 _ rfl
              have s6 := (HPq.out.below hSu).cell 6 _ rfl
              have s7 := (HPq.out.below hSu).cell 7 _ rfl
              go_simp
              exact ⟨rfl, rfl, rfl, rfl, rfl, rfl, rfl, rfl⟩
            simp only [Act.put, List.setIfInBounds_toArray, List.set_cons_zero, List.set_cons_succ]
            refine any_take 9 (some 129) (.slice a2v q c2v) rfl rfl (by kernel_rfl) (by kernel_rfl) (by kernel_rfl) (fun _ _ _ h => h) (by rfl) ((Below.refl _ _).drew) ?_ ?_
            · intro u hSu
              have s0 := (HPq.out.below hSu).cell 0 _ rfl
              have s1 := (HPq.out.below hSu).cell 1 _ rfl
              have s2 := (HPq.out.below hSu).cell 2 _ rfl
              have s3 := (HPq.out.below hSu).cell 3 _ rfl
              have s4 := (HPq.out.below hSu).cell 4 _ rfl
              have s5 := (HPq.out.below hSu).cell 5 _ rfl
              have s6 := (HPq.out.below hSu).cell 6 _ rfl
              have s7 := (HPq.out.below hSu).cell 7 _ rfl
              go_simp
            simp only [Act.put, List.setIfInBounds_toArray, List.set_cons_zero, List.set_cons_succ]
            refine any_take 10 (some 130) (.int .i64 size) rfl rfl (by kernel_rfl) (by kernel_rfl) (by kernel_rfl) (fun _ _ _ h => h) (by rfl) ((Below.refl _ _).drew) ?_ ?_
            · intro u hSu
              have s0 := (HPq.out.below hSu).cell 0 _ rfl
              have s1 := (HPq.out.below hSu).cell 1 _ rfl
              have s2 := (HPq.out.below hSu).cell 2 _ rfl
              have s3 := (HPq.out.below hSu).cell 3 _ rfl
              have s4 := (HPq.out.below hSu).cell 4 _ rfl
              have s5 := (HPq.out.below hSu).cell 5 _ rfl
              have s6 := (HPq.out.below hSu).cell 6 _ rfl
              have s7 := (HPq.out.below hSu).cell 7 _ rfl
              go_simp
            simp only [Act.put, List.setIfInBounds_toArray, List.set_cons_zero, List.set_cons_succ]
            refine wpAnyH_ready (rs := [6]) (by kernel_rfl) (by simp) ?_
            refine AllReadyH.cons (i := 6) rfl (fun K hK => ?_) AllReadyH.nil
            go_simp
            refine ((HRu _ (Below.refl _ _).drew).out).mono ?_
            rintro e9 x1 ⟨⟨r1, rfl, ho1⟩, hb1⟩
            obtain ⟨ar1, cr1, hr1, hl1, _⟩ := ho1.form
            obtain ⟨rn, hrn⟩ : ∃ rn, rn = RR.length := ⟨_, rfl⟩
            rw [← hrn] at hr1
            subst hr1
            have HR1 := hide hl1
            have HX1 := hide ((Below.refl wr.heap.size wr).drew.trans hb1)
            have HRN := hide hrn
            clear ho1 hl1 hb1 hrn
            go_simp
            refine hK.out _ _ (HX1.out) (fun _ => ?_)
            clear hK K
            try simp only [Act.put, List.setIfInBounds_toArray, List.set_cons_zero, List.set_cons_succ]
            refine wpAnyH_ready (rs := [11]) (by kernel_rfl) (by simp) ?_
            refine AllReadyH.cons (i := 11) rfl (fun K hK => ?_) AllReadyH.nil
            go_simp
            refine ((HRr _ HX1.out).out).mono ?_
            rintro e9 x2 ⟨⟨r2, rfl, ho2⟩, hb2⟩
            obtain ⟨ar2, cr2, hr2, hl2, _⟩ := ho2.form
            rw [← HRN.out] at hr2
            subst hr2
            have HR2 := hide hl2
            have HX2 := hide (HX1.out.trans (hb2.mono HX1.out.size))
            have HSm : Hid (Calls Tryd.prog 11 #[.slice ar1 rn cr1, .slice ar2 rn cr2] x2 fun e w' => e = .returned (.bool true) ∧ Below x2.heap.size x2 w') := hide (by have h := same_any x2 ar1 ar2 cr1 cr2 RR RR (HR1.out.below hb2) hl2 (by have := HRl.out; omega); rw [← HRN.out] at h; simpa using h)
            clear ho2 hl2 hb2
            go_simp
            refine hK.out _ _ (HX2.out) (fun _ => ?_)
            clear hK K
            try simp only [Act.put, List.setIfInBounds_toArray, List.set_cons_zero, List.set_cons_succ]
            refine wpAnyH_ready (rs := [12]) (by kernel_rfl) (by simp) ?_
            refine AllReadyH.cons (i := 12) rfl (fun K hK => ?_) AllReadyH.nil
            go_simp
            refine (HSm.out).mono ?_
            rintro e9 x3 ⟨rfl, hb3⟩
            have HX3 := hide (HX2.out.trans (hb3.mono HX2.out.size))
            clear hb3 HSm
            go_simp
            refine hK.out _ _ (HX3.out) (fun _ => ?_)
            clear hK K
            try simp only [Act.put, List.setIfInBounds_toArray, List.set_cons_zero, List.set_cons_succ]
            refine any_take 13 (some 133) (.bool false) rfl rfl (by kernel_rfl) (by kernel_rfl) (by kernel_rfl) (fun _ _ _ h => h) (by rfl) (HX3.out) ?_ ?_
            · intro u hSu
              have s0 := (HPq.out.below hSu).cell 0 _ rfl
              have s1 := (HPq.out.below hSu).cell 1 _ rfl
              have s2 := (HPq.out.below hSu).cell 2 _ rfl
              have s3 := (HPq.out.below hSu).cell 3 _ rfl
              have s4 := (HPq.out.below hSu).cell 4 _ rfl
              have s5 := (HPq.out.below hSu).cell 5 _ rfl
              have s6 := (HPq.out.below hSu).cell 6 _ rfl
              have s7 := (HPq.out.below hSu).cell 7 _ rfl
              go_simp
            simp only [Act.put, List.setIfInBounds_toArray, List.set_cons_zero, List.set_cons_succ]
            refine any_take 14 (some 134) (.bool false) rfl rfl (by kernel_rfl) (by kernel_rfl) (by kernel_rfl) (fun _ _ _ h => h) (by rfl) (HX3.out) ?_ ?_
            · intro u hSu
              have s0 := (HPq.out.below hSu).cell 0 _ rfl
              have s1 := (HPq.out.below hSu).cell 1 _ rfl
              have s2 := (HPq.out.below hSu).cell 2 _ rfl
              have s3 := (HPq.out.below hSu).cell 3 _ rfl
              have s4 := (HPq.out.below hSu).cell 4 _ rfl
              have s5 := (HPq.out.below hSu).cell 5 _ rfl
              have s6 := (HPq.out.below hSu).cell 6 _ rfl
              have s7 := (HPq.out.below hSu).cell 7 _ rfl
              go_simp
            simp only [Act.put, List.setIfInBounds_toArray, List.set_cons_zero, List.set_cons_succ]
            refine wpAnyH_done (by kernel_rfl) ?_ _
            have HO3 := hide (HOq.out.below HX3.out)
            have HV3 := hide (HVb.out.below HX3.out)
            have HM3 := hide (HMq.out.below HX3.out)
            have HB3 := hide (HBz2.out.trans (HX3.out.mono HBz2.out.size))
            have HS3 := hide (Nat.le_trans HSq.out HX3.out.size)
            go_wp2_with (at_builtin; refine wpList_append_Ct rfl (.tmp 135) (.tmp 136) 25 rfl Tryd.underlying25 (w6.heap.size + 1) _ M rfl (by exact HO3.out) _ l rfl (by exact HV3.out.mono (Nat.zero_le _)) (by have := HMl.out; have := HLn.out; have := HKk.out; omega) HS3.out ?_; intro v5 w11 ho5 hg5; have HO5 := hide ho5; have HM5 := hide (HM3.out.same (hg5.block _ HM3.out.lt (fun e => by have := (World.ownsRow.lt HO3.out _ e.symm).1; omega))); have HB5 := hide (HB3.out.grown hg5 HB3.out.size (fun q hq => by have := (World.ownsRow.lt HO3.out q hq).1; omega)); have HS5 := hide (Nat.le_trans HS3.out hg5.size); clear ho5 hg5)
            go_roundw
            case rel =>
              refine ⟨j + 1, M ++ l, by have := HJ.out; omega, by push_cast; rfl, HO5.out, HM5.out, ?_, ?_, HS5.out, HB5.out⟩
              · exact List.nodup_append.2 ⟨HNd.out, HNl.out, fun p hp q hq e => (HIl.out q hq).1 (e ▸ hp)⟩
              · intro a ha
                rcases List.mem_append.1 ha with h | h
                · exact HIn.out a h
                · exact (HIl.out a h).2
            case measure => have := HJ.out; simp [intOf]; omega
      · obtain ⟨z0, hz0⟩ : ∃ z0, z0 = F0.2 := ⟨_, rfl⟩
        rw [← hz0] at h0 HRd ⊢
        have hzb : (z0 == 0) = false := by simpa using h0
        have hzd : decide (z0 = 0) = false := by simpa using h0
        have HZ0 := hide h0
        have HM8 := hide hm8
        clear h0 hz0 hm8 HOk
        go_wp2_with fail
        refine wp_region_held_drew (S := fun u => Below w8.heap.size w8 u) (by kernel_rfl) ((Below.refl _ _).drew) (fun _ => ?_)
        refine any_take 0 (some 78) (.agg (rvolC b v f x 0)) rfl rfl (by kernel_rfl) (by kernel_rfl) (by kernel_rfl) (fun _ _ _ h => h) (by rfl) ((Below.refl _ _).drew) ?_ ?_
        · intro u hSu
          have s0 := (HP8.out.below hSu).cell 0 _ rfl
          have s1 := (HP8.out.below hSu).cell 1 _ rfl
          have s2 := (HP8.out.below hSu).cell 2 _ rfl
          have s3 := (HP8.out.below hSu).cell 3 _ rfl
          have s4 := (HP8.out.below hSu).cell 4 _ rfl
          have s5 := (HP8.out.below hSu).cell 5 _ rfl
          have s6 := (HP8.out.below hSu).cell 6 _ rfl
          have s7 := (HP8.out.below hSu).cell 7 _ rfl
          have s8 := (HP8.out.below hSu).cell 8 _ rfl
          have s9 := (HP8.out.below hSu).cell 9 _ rfl
          have s10 := (HP8.out.below hSu).cell 10 _ rfl
          have s11 := (HP8.out.below hSu).cell 11 _ rfl
          have sc := (hSu.cell (p := ⟨cb, co + j, none⟩) (lt_of_cell cj8)).trans cj8
          go_simp
          rfl
        simp only [Act.put, List.setIfInBounds_toArray, List.set_cons_zero, List.set_cons_succ]
        refine any_take 1 (some 79) (.slice (some ⟨cb, co, none⟩) m fcap) rfl rfl (by kernel_rfl) (by kernel_rfl) (by kernel_rfl) (fun _ _ _ h => h) (by rfl) ((Below.refl _ _).drew) ?_ ?_
        · intro u hSu
          have s0 := (HP8.out.below hSu).cell 0 _ rfl
          have s1 := (HP8.out.below hSu).cell 1 _ rfl
          have s2 := (HP8.out.below hSu).cell 2 _ rfl
          have s3 := (HP8.out.below hSu).cell 3 _ rfl
          have s4 := (HP8.out.below hSu).cell 4 _ rfl
          have s5 := (HP8.out.below hSu).cell 5 _ rfl
          have s6 := (HP8.out.below hSu).cell 6 _ rfl
          have s7 := (HP8.out.below hSu).cell 7 _ rfl
          have s8 := (HP8.out.below hSu).cell 8 _ rfl
          have s9 := (HP8.out.below hSu).cell 9 _ rfl
          have s10 := (HP8.out.below hSu).cell 10 _ rfl
          have s11 := (HP8.out.below hSu).cell 11 _ rfl
          have sc := (hSu.cell (p := ⟨cb, co + j, none⟩) (lt_of_cell cj8)).trans cj8
          go_simp
        simp only [Act.put, List.setIfInBounds_toArray, List.set_cons_zero, List.set_cons_succ]
        refine any_take 2 (some 80) (.int .i64 (j : Int)) rfl rfl (by kernel_rfl) (by kernel_rfl) (by kernel_rfl) (fun _ _ _ h => h) (by rfl) ((Below.refl _ _).drew) ?_ ?_
        · intro u hSu
          have s0 := (HP8.out.below hSu).cell 0 _ rfl
          have s1 := (HP8.out.below hSu).cell 1 _ rfl
          have s2 := (HP8.out.below hSu).cell 2 _ rfl
          have s3 := (HP8.out.below hSu).cell 3 _ rfl
          have s4 := (HP8.out.below hSu).cell 4 _ rfl
          have s5 := (HP8.out.below hSu).cell 5 _ rfl
          have s6 := (HP8.out.below hSu).cell 6 _ rfl
          have s7 := (HP8.out.below hSu).cell 7 _ rfl
          have s8 := (HP8.out.below hSu).cell 8 _ rfl
          have s9 := (HP8.out.below hSu).cell 9 _ rfl
          have s10 := (HP8.out.below hSu).cell 10 _ rfl
          have s11 := (HP8.out.below hSu).cell 11 _ rfl
          have sc := (hSu.cell (p := ⟨cb, co + j, none⟩) (lt_of_cell cj8)).trans cj8
          go_simp
        simp only [Act.put, List.setIfInBounds_toArray, List.set_cons_zero, List.set_cons_succ]
        refine any_take 3 (some 81) (.pointer (some ⟨cb, co + j, none⟩)) rfl rfl (by kernel_rfl) (by kernel_rfl) (by kernel_rfl) (fun _ _ _ h => h) (by rfl) ((Below.refl _ _).drew) ?_ ?_
        · intro u hSu
          have s0 := (HP8.out.below hSu).cell 0 _ rfl
          have s1 := (HP8.out.below hSu).cell 1 _ rfl
          have s2 := (HP8.out.below hSu).cell 2 _ rfl
          have s3 := (HP8.out.below hSu).cell 3 _ rfl
          have s4 := (HP8.out.below hSu).cell 4 _ rfl
          have s5 := (HP8.out.below hSu).cell 5 _ rfl
          have s6 := (HP8.out.below hSu).cell 6 _ rfl
          have s7 := (HP8.out.below hSu).cell 7 _ rfl
          have s8 := (HP8.out.below hSu).cell 8 _ rfl
          have s9 := (HP8.out.below hSu).cell 9 _ rfl
          have s10 := (HP8.out.below hSu).cell 10 _ rfl
          have s11 := (HP8.out.below hSu).cell 11 _ rfl
          have sc := (hSu.cell (p := ⟨cb, co + j, none⟩) (lt_of_cell cj8)).trans cj8
          go_simp
        simp only [Act.put, List.setIfInBounds_toArray, List.set_cons_zero, List.set_cons_succ]
        refine any_take 4 (some 82) (.int .i64 c) rfl rfl (by kernel_rfl) (by kernel_rfl) (by kernel_rfl) (fun _ _ _ h => h) (by rfl) ((Below.refl _ _).drew) ?_ ?_
        · intro u hSu
          have s0 := (HP8.out.below hSu).cell 0 _ rfl
          have s1 := (HP8.out.below hSu).cell 1 _ rfl
          have s2 := (HP8.out.below hSu).cell 2 _ rfl
          have s3 := (HP8.out.below hSu).cell 3 _ rfl
          have s4 := (HP8.out.below hSu).cell 4 _ rfl
          have s5 := (HP8.out.below hSu).cell 5 _ rfl
          have s6 := (HP8.out.below hSu).cell 6 _ rfl
          have s7 := (HP8.out.below hSu).cell 7 _ rfl
          have s8 := (HP8.out.below hSu).cell 8 _ rfl
          have s9 := (HP8.out.below hSu).cell 9 _ rfl
          have s10 := (HP8.out.below hSu).cell 10 _ rfl
          have s11 := (HP8.out.below hSu).cell 11 _ rfl
          have sc := (hSu.cell (p := ⟨cb, co + j, none⟩) (lt_of_cell cj8)).trans cj8
          go_simp
        simp only [Act.put, List.setIfInBounds_toArray, List.set_cons_zero, List.set_cons_succ]
        refine any_take 5 (some 83) (u13) rfl rfl (by kernel_rfl) (by kernel_rfl) (by kernel_rfl) (fun _ _ _ h => h) (by rfl) ((Below.refl _ _).drew) ?_ ?_
        · intro u hSu
          have s0 := (HP8.out.below hSu).cell 0 _ rfl
          have s1 := (HP8.out.below hSu).cell 1 _ rfl
          have s2 := (HP8.out.below hSu).cell 2 _ rfl
          have s3 := (HP8.out.below hSu).cell 3 _ rfl
          have s4 := (HP8.out.below hSu).cell 4 _ rfl
          have s5 := (HP8.out.below hSu).cell 5 _ rfl
          have s6 := (HP8.out.below hSu).cell 6 _ rfl
          have s7 := (HP8.out.below hSu).cell 7 _ rfl
          have s8 := (HP8.out.below hSu).cell 8 _ rfl
          have s9 := (HP8.out.below hSu).cell 9 _ rfl
          have s10 := (HP8.out.below hSu).cell 10 _ rfl
          have s11 := (HP8.out.below hSu).cell 11 _ rfl
          have sc := (hSu.cell (p := ⟨cb, co + j, none⟩) (lt_of_cell cj8)).trans cj8
          go_simp
        simp only [Act.put, List.setIfInBounds_toArray, List.set_cons_zero, List.set_cons_succ]
        refine wpAnyH_ready (rs := [6]) (by kernel_rfl) (by simp) ?_
        refine AllReadyH.cons (i := 6) rfl (fun K hK => ?_) AllReadyH.nil
        go_simp
        refine ((HRd.out _ (Below.refl _ _).drew).out).mono ?_
        rintro e9 w9 ⟨⟨h9, _⟩ | ⟨h9, rfl⟩, hb9⟩
        · exact absurd h9 HZ0.out
        clear h9
        have HB9 := hide ((Below.refl w8.heap.size w8).drew.trans hb9)
        clear hb9
        go_simp
        refine hK.out _ _ (HB9.out) (fun _ => ?_)
        clear hK K
        try simp only [Act.put, List.setIfInBounds_toArray, List.set_cons_zero, List.set_cons_succ]
        refine any_take 7 (some 77) (.tuple #[.slice none 0 0, .int .i64 z0]) rfl rfl (by kernel_rfl) (by kernel_rfl) (by kernel_rfl) (fun _ _ _ h => h) (by rfl) (HB9.out) ?_ ?_
        · intro u hSu
          have s0 := (HP8.out.below hSu).cell 0 _ rfl
          have s1 := (HP8.out.below hSu).cell 1 _ rfl
          have s2 := (HP8.out.below hSu).cell 2 _ rfl
          have s3 := (HP8.out.below hSu).cell 3 _ rfl
          have s4 := (HP8.out.below hSu).cell 4 _ rfl
          have s5 := (HP8.out.below hSu).cell 5 _ rfl
          have s6 := (HP8.out.below hSu).cell 6 _ rfl
          have s7 := (HP8.out.below hSu).cell 7 _ rfl
          have s8 := (HP8.out.below hSu).cell 8 _ rfl
          have s9 := (HP8.out.below hSu).cell 9 _ rfl
          have s10 := (HP8.out.below hSu).cell 10 _ rfl
          have s11 := (HP8.out.below hSu).cell 11 _ rfl
          have sc := (hSu.cell (p := ⟨cb, co + j, none⟩) (lt_of_cell cj8)).trans cj8
          go_simp
        simp only [Act.put, List.setIfInBounds_toArray, List.set_cons_zero, List.set_cons_succ]
        refine any_take 8 (some 85) (.slice none 0 0) rfl rfl (by kernel_rfl) (by kernel_rfl) (by kernel_rfl) (fun _ _ _ h => h) (by rfl) (HB9.out) ?_ ?_
        · intro u hSu
          have s0 := (HP8.out.below hSu).cell 0 _ rfl
          have s1 := (HP8.out.below hSu).cell 1 _ rfl
          have s2 := (HP8.out.below hSu).cell 2 _ rfl
          have s3 := (HP8.out.below hSu).cell 3 _ rfl
          have s4 := (HP8.out.below hSu).cell 4 _ rfl
          have s5 := (HP8.out.below hSu).cell 5 _ rfl
          have s6 := (HP8.out.below hSu).cell 6 _ rfl
          have s7 := (HP8.out.below hSu).cell 7 _ rfl
          have s8 := (HP8.out.below hSu).cell 8 _ rfl
          have s9 := (HP8.out.below hSu).cell 9 _ rfl
          have s10 := (HP8.out.below hSu).cell 10 _ rfl
          have s11 := (HP8.out.below hSu).cell 11 _ rfl
          have sc := (hSu.cell (p := ⟨cb, co + j, none⟩) (lt_of_cell cj8)).trans cj8
          go_simp
        simp only [Act.put, List.setIfInBounds_toArray, List.set_cons_zero, List.set_cons_succ]
        refine any_take 9 (some 86) (.int .i64 z0) rfl rfl (by kernel_rfl) (by kernel_rfl) (by kernel_rfl) (fun _ _ _ h => h) (by rfl) (HB9.out) ?_ ?_
        · intro u hSu
          have s0 := (HP8.out.below hSu).cell 0 _ rfl
          have s1 := (HP8.out.below hSu).cell 1 _ rfl
          have s2 := (HP8.out.below hSu).cell 2 _ rfl
          have s3 := (HP8.out.below hSu).cell 3 _ rfl
          have s4 := (HP8.out.below hSu).cell 4 _ rfl
          have s5 := (HP8.out.below hSu).cell 5 _ rfl
          have s6 := (HP8.out.below hSu).cell 6 _ rfl
          have s7 := (HP8.out.below hSu).cell 7 _ rfl
          have s8 := (HP8.out.below hSu).cell 8 _ rfl
          have s9 := (HP8.out.below hSu).cell 9 _ rfl
          have s10 := (HP8.out.below hSu).cell 10 _ rfl
          have s11 := (HP8.out.below hSu).cell 11 _ rfl
          have sc := (hSu.cell (p := ⟨cb, co + j, none⟩) (lt_of_cell cj8)).trans cj8
          go_simp
        simp only [Act.put, List.setIfInBounds_toArray, List.set_cons_zero, List.set_cons_succ]
        refine any_take 10 (some 17) (.slice none 0 0) rfl rfl (by kernel_rfl) (by kernel_rfl) (by kernel_rfl) (fun _ _ _ h => h) (by rfl) (HB9.out) ?_ ?_
        · intro u hSu
          have s0 := (HP8.out.below hSu).cell 0 _ rfl
          have s1 := (HP8.out.below hSu).cell 1 _ rfl
          have s2 := (HP8.out.below hSu).cell 2 _ rfl
          have s3 := (HP8.out.below hSu).cell 3 _ rfl
          have s4 := (HP8.out.below hSu).cell 4 _ rfl
          have s5 := (HP8.out.below hSu).cell 5 _ rfl
          have s6 := (HP8.out.below hSu).cell 6 _ rfl
          have s7 := (HP8.out.below hSu).cell 7 _ rfl
          have s8 := (HP8.out.below hSu).cell 8 _ rfl
          have s9 := (HP8.out.below hSu).cell 9 _ rfl
          have s10 := (HP8.out.below hSu).cell 10 _ rfl
          have s11 := (HP8.out.below hSu).cell 11 _ rfl
          have sc := (hSu.cell (p := ⟨cb, co + j, none⟩) (lt_of_cell cj8)).trans cj8
          go_simp
        simp only [Act.put, List.setIfInBounds_toArray, List.set_cons_zero, List.set_cons_succ]
        refine any_take 11 (some 18) (.int .i64 z0) rfl rfl (by kernel_rfl) (by kernel_rfl) (by kernel_rfl) (fun _ _ _ h => h) (by rfl) (HB9.out) ?_ ?_
        · intro u hSu
          have s0 := (HP8.out.below hSu).cell 0 _ rfl
          have s1 := (HP8.out.below hSu).cell 1 _ rfl
          have s2 := (HP8.out.below hSu).cell 2 _ rfl
          have s3 := (HP8.out.below hSu).cell 3 _ rfl
          have s4 := (HP8.out.below hSu).cell 4 _ rfl
          have s5 := (HP8.out.below hSu).cell 5 _ rfl
          have s6 := (HP8.out.below hSu).cell 6 _ rfl
          have s7 := (HP8.out.below hSu).cell 7 _ rfl
          have s8 := (HP8.out.below hSu).cell 8 _ rfl
          have s9 := (HP8.out.below hSu).cell 9 _ rfl
          have s10 := (HP8.out.below hSu).cell 10 _ rfl
          have s11 := (HP8.out.below hSu).cell 11 _ rfl
          have sc := (hSu.cell (p := ⟨cb, co + j, none⟩) (lt_of_cell cj8)).trans cj8
          go_simp
        simp only [Act.put, List.setIfInBounds_toArray, List.set_cons_zero, List.set_cons_succ]
        refine wpAnyH_done (by kernel_rfl) ?_ _
        have HM9 := hide (HM8.out.below HB9.out)
        have HO9 := hide (HO8.out.below HB9.out)
        have HBz := hide (HB8.out.trans (HB9.out.mono HB8.out.size))
        have HS9 := hide (Nat.le_trans HS8.out HB9.out.size)
        clear cj8 HRd
        go_wp2_with fail
        go_loopw [19] (fun i wr2 => i = .int .i64 0 ∧ wr2 = w9) (fun i _ => 0)
        case atStart => exact ⟨rfl, rfl⟩
        case round =>
          obtain ⟨rfl, hwr⟩ := hrel
          rw [hwr]
          clear hwr
          go_wp2_with fail
          refine wp_region_held_drew (S := fun u => Below w9.heap.size w9 u) (by kernel_rfl) ((Below.refl _ _).drew) (fun _ => ?_)
          refine any_take 0 (some 120) (.int .i64 z0) rfl rfl (by kernel_rfl) (by kernel_rfl) (by kernel_rfl) (fun _ _ _ h => h) (by rfl) ((Below.refl _ _).drew) ?_ ?_
          · intro u hSu
            go_simp
          simp only [Act.put, List.setIfInBounds_toArray, List.set_cons_zero, List.set_cons_succ]
          refine any_take 1 (some 121) (.bool false) rfl rfl (by kernel_rfl) (by kernel_rfl) (by kernel_rfl) (fun _ _ _ h => h) (by rfl) ((Below.refl _ _).drew) ?_ ?_
          · intro u hSu
            go_simp
          simp only [Act.put, List.setIfInBounds_toArray, List.set_cons_zero, List.set_cons_succ]
          refine any_take 2 (some 122) (.bool false) rfl rfl (by kernel_rfl) (by kernel_rfl) (by kernel_rfl) (fun _ _ _ h => h) (by rfl) ((Below.refl _ _).drew) ?_ ?_
          · intro u hSu
            go_simp
          simp only [Act.put, List.setIfInBounds_toArray, List.set_cons_zero, List.set_cons_succ]
          refine any_skip 3 (some 123) rfl rfl (by kernel_rfl) (by kernel_rfl) (by kernel_rfl) (fun _ _ _ h => h) (by rfl) ((Below.refl _ _).drew) ?_
          simp only [Act.put, List.setIfInBounds_toArray, List.set_cons_zero, List.set_cons_succ]
          refine any_skip 4 (some 124) rfl rfl (by kernel_rfl) (by kernel_rfl) (by kernel_rfl) (fun _ _ _ h => h) (by rfl) ((Below.refl _ _).drew) ?_
          simp only [Act.put, List.setIfInBounds_toArray, List.set_cons_zero, List.set_cons_succ]
          refine any_skip 5 (some 125) rfl rfl (by kernel_rfl) (by kernel_rfl) (by kernel_rfl) (fun _ _ _ h => h) (by rfl) ((Below.refl _ _).drew) ?_
          simp only [Act.put, List.setIfInBounds_toArray, List.set_cons_zero, List.set_cons_succ]
          refine any_skip 6 (some 126) rfl rfl (by kernel_rfl) (by kernel_rfl) (by kernel_rfl) (fun _ _ _ h => h) (by rfl) ((Below.refl _ _).drew) ?_
          simp only [Act.put, List.setIfInBounds_toArray, List.set_cons_zero, List.set_cons_succ]
          refine any_skip 7 (some 127) rfl rfl (by kernel_rfl) (by kernel_rfl) (by kernel_rfl) (fun _ _ _ h => h) (by rfl) ((Below.refl _ _).drew) ?_
          simp only [Act.put, List.setIfInBounds_toArray, List.set_cons_zero, List.set_cons_succ]
          refine any_skip 8 (some 128) rfl rfl (by kernel_rfl) (by kernel_rfl) (by kernel_rfl) (fun _ _ _ h => h) (by rfl) ((Below.refl _ _).drew) ?_
          simp only [Act.put, List.setIfInBounds_toArray, List.set_cons_zero, List.set_cons_succ]
          refine any_skip 9 (some 129) rfl rfl (by kernel_rfl) (by kernel_rfl) (by kernel_rfl) (fun _ _ _ h => h) (by rfl) ((Below.refl _ _).drew) ?_
          simp only [Act.put, List.setIfInBounds_toArray, List.set_cons_zero, List.set_cons_succ]
          refine any_skip 10 (some 130) rfl rfl (by kernel_rfl) (by kernel_rfl) (by kernel_rfl) (fun _ _ _ h => h) (by rfl) ((Below.refl _ _).drew) ?_
          simp only [Act.put, List.setIfInBounds_toArray, List.set_cons_zero, List.set_cons_succ]
          refine any_skip 11 (some 131) rfl rfl (by kernel_rfl) (by kernel_rfl) (by kernel_rfl) (fun _ _ _ h => h) (by rfl) ((Below.refl _ _).drew) ?_
          simp only [Act.put, List.setIfInBounds_toArray, List.set_cons_zero, List.set_cons_succ]
          refine any_skip 12 (some 132) rfl rfl (by kernel_rfl) (by kernel_rfl) (by kernel_rfl) (fun _ _ _ h => h) (by rfl) ((Below.refl _ _).drew) ?_
          simp only [Act.put, List.setIfInBounds_toArray, List.set_cons_zero, List.set_cons_succ]
          refine any_skip 13 (some 133) rfl rfl (by kernel_rfl) (by kernel_rfl) (by kernel_rfl) (fun _ _ _ h => h) (by rfl) ((Below.refl _ _).drew) ?_
          simp only [Act.put, List.setIfInBounds_toArray, List.set_cons_zero, List.set_cons_succ]
          refine any_take 14 (some 134) (.bool false) rfl rfl (by kernel_rfl) (by kernel_rfl) (by kernel_rfl) (fun _ _ _ h => h) (by rfl) ((Below.refl _ _).drew) ?_ ?_
          · intro u hSu
            go_simp
          simp only [Act.put, List.setIfInBounds_toArray, List.set_cons_zero, List.set_cons_succ]
          refine wpAnyH_done (by kernel_rfl) ?_ _
          have HO3 := hide (HO9.out.drew)
          have HM3 := hide (HM9.out.below (Below.refl w9.heap.size w9).drew)
          have HB3 := hide HBz.out.drew
          have HS3 : Hid (w6.heap.size + 1 ≤ w9.drew.heap.size) := hide HS9.out
          have HN3 := hide (show OwnC w9.drew 0 (.slice none 0 0) [] from World.ownsRow_nil _ _ _ _)
          go_wp2_with (at_builtin; refine wpList_append_Ct rfl (.tmp 135) (.tmp 136) 25 rfl Tryd.underlying25 (w6.heap.size + 1) _ M rfl (by exact HO3.out) _ [] rfl (by exact HN3.out) (by have := HMl.out; have := HKk.out; simp; omega) HS3.out ?_; intro v5 w11 ho5 hg5; have HO5 := hide (show OwnC w11 (w6.heap.size + 1) v5 M by rw [List.append_nil] at ho5; exact ho5); have HM5 := hide (HM3.out.same (hg5.block _ HM3.out.lt (fun e => by have := (World.ownsRow.lt HO3.out _ e.symm).1; omega))); have HB5 := hide (HB3.out.grown hg5 HB3.out.size (fun q hq => by have := (World.ownsRow.lt HO3.out q hq).1; omega)); have HS5 := hide (Nat.le_trans HS3.out hg5.size); clear ho5 hg5)
          go_roundw
          case rel => exact ⟨j + 1, M, by have := HJ.out; omega, by push_cast; rfl, HO5.out, HM5.out, HNd.out, HIn.out, HS5.out, HB5.out⟩
          case measure => have := HJ.out; simp [intOf]; omega
    · obtain rfl : j = m := by omega
      have hnlt : ¬ ((j : Int) < (j : Int)) := by omega
      obtain ⟨es, clock, hbm, _, _, _, _, hesz⟩ := HMk.out
      obtain ⟨am, cm, hme⟩ := HO.out.len
      obtain ⟨Mn, hMn⟩ : ∃ Mn, Mn = M.length := ⟨_, rfl⟩
      rw [← hMn] at hesz hme
      subst hme
      have hgi : (Builtin.len_ #[40] 3 #[.map (some w6.heap.size)]).run Tryd.prog wr = .ok (.int .i64 (Mn : Int)) wr := by
        rw [run_len_map (P := Tryd.prog) (w := wr) 40 3 w6.heap.size es clock (by kernel_rfl) hbm, hesz]
        rfl
      have HBf := hide (HB.out.trans (HBw.out.mono HB.out.size))
      clear hMn hlt hj
      go_wp2_with fail
      go_ret
      exact ⟨rfl, HBf.out⟩

set_option maxRecDepth 100000 in
theorem fatChains_door (os : Os) (args : Array Value) : laidMetH Tryd.prog Rows.fatChainsRow.laid ((World.doorLaid Tryd.prog 400 os).forCall (fun _ _ => 0) ⟨#[], args, []⟩).memory :=
  laidMetH_of_parts3 (fuel := 8) (laidMet_of_run' 8 (by kernel_rfl) (by kernel_rfl)) (by kernel_rfl) (by kernel_rfl)

set_option maxRecDepth 100000 in
theorem fatChains_lifted (os : Os) (started : os.Started) (H : Type) (enc : TypeId × Value → H) :
    ReturnsInHanded {} Tryd.checked os 3 .any (fun w args => (Rows.fatChainsSpec.pre enc Tryd.prog Tryd.f3 [] false w args ∧ laidMetH Tryd.prog Rows.fatChainsRow.laid w) ∧ sizedMet enc Tryd.prog Tryd.f3 (OpenSpec.ofChange Rows.fatChainsSpec) false w args) (Rows.fatChainsSpec.post enc Tryd.prog Tryd.f3 false true false false) := by
  refine returnsInHanded_of_change_and (C := Tryd.checked) (X := (fun w _ => laidMetH Tryd.prog Rows.fatChainsRow.laid w)) (fun _ _ _ hh h => h.of_heap hh) own started (by kernel_rfl) Tryd.func3
    (ChangeSpec.witness_shaped (enc := enc) (C := Tryd.checked) (os := os) (X := (fun w _ => laidMetH Tryd.prog Rows.fatChainsRow.laid w)) false (World.doorLaid Tryd.prog 400 os) #[.agg #[.int .i64 0, .int .i64 0, .slice none 0 0, .bool false], .slice none 0 0, .int .i64 0] 8 rfl (World.shaped_of_RefB (by kernel_rfl) (by kernel_rfl)) (by kernel_rfl) (by kernel_rfl) (by kernel_rfl) (fatChains_door os _)) ?_
  intro W base args ds gs before hval0 hW _ hsz0 hL _
  have hval : ∀ (j : Nat) t v, Tryd.f3.params[j]? = some t → args[j]? = some v → Value.okWide Tryd.prog W .any base t v := hval0
  have hW' := hW
  obtain ⟨p, q, hA0, hV, rfl, hfz, hnd⟩ := hW
  have hA : DataW.TrodAll enc Tryd.prog W 0 (fun _ => true) true Tryd.f3.params.toList args.toList ds p := hA0
  rw [Tryd.params3] at hA hval
  obtain ⟨v0, vs0, d0, ds0, p0, q0, hargs0, rfl, rfl, h0, r0⟩ := trodAll_cons hA
  obtain ⟨v1, vs1, d1, ds1, p1, q1, hargs1, rfl, rfl, h1, r1⟩ := trodAll_cons r0
  obtain ⟨v2, vs2, d2, ds2, p2, q2, hargs2, rfl, rfl, h2, r2⟩ := trodAll_cons r1
  obtain ⟨rfl, rfl, rfl⟩ := trodAll_nil r2
  subst hargs2
  subst hargs1
  obtain rfl : args = #[v0, v1, v2] := by cases args; simp_all
  obtain ⟨rfl, rfl⟩ := trodVars_none hV
  simp only [List.append_nil] at hW'
  have hlt0 : ∀ x ∈ p0, x.block < W.heap.size := fun x hx => by simpa using hW'.lt x (by simp [hx])
  have hlt1 : ∀ x ∈ p1, x.block < W.heap.size := fun x hx => by simpa using hW'.lt x (by simp [hx])
  obtain ⟨s0, e0, a0, cap0, l0, t0, rfl, hn0, hf0, hl0⟩ := open_fdisk (hval 0 24 v0 rfl rfl) h0
  obtain ⟨a1, cap1, l1, rfl, hn1, hr1, hc1⟩ := open_i64r (hval 1 25 v1 rfl rfl) h1
  obtain ⟨x2, rfl, rfl, rfl, w2⟩ := open_int Tryd.underlying2 (hval 2 2 v2 rfl rfl) h2
  clear hA0
  refine (fchains_walk s0 e0 a0 cap0 l0 t0 a1 cap1 l1 x2 W hf0 hl0 hn0 hc1 hr1 (wf_i64 w2) (of_laid hL)).mono fun e W' ⟨he, hb⟩ => ?_
  subst he
  refine ⟨_, rfl, _, _, _, [], (p0 ++ (p1 ++ ([] ++ []))), [], hW', ?_, ?_, rfl, hb.frame _, fun h => by cases h⟩
  · exact trodAll_cons_mk (shut_bool Tryd.underlying4 _) trodAll_mk0
  · exact trodAll_cons_mk (Below.trod laidOut (by kernel_rfl) (of_decide_eq_true (by kernel_rfl)) h0 hb hlt0) (trodAll_cons_mk (Below.trod laidOut (by kernel_rfl) (of_decide_eq_true (by kernel_rfl)) h1 hb hlt1) (trodAll_cons_mk (shut_int Tryd.underlying2 w2) (trodAll_mk0)))

theorem fatChains_row : Rows.FatChainsSaid :=
  OpenClaim.holds_of_wide 3 Tryd.f3 rfl rfl rfl rfl rfl rfl rfl ⟨rfl, rfl, rfl, rfl, rfl⟩ rfl rfl rfl rfl rfl (by kernel_rfl) Tryd.func3 (by kernel_rfl)
    (of_decide_eq_true (by kernel_rfl)) (by unfold Func.isWrapper; first | (rw [if_pos (by decide +kernel)]; kernel_rfl) | (rw [if_neg (by decide +kernel)]; exact ⟨rfl, rfl⟩))
    (fun os started H enc _ => fatChains_lifted os started H enc)

theorem fatChains_holds : Rows.FatChainsCardSaid :=
  Claim7.holds_tied_plain_at .later [] [.data, .data] true (true, "fefacc8d4801222f181f7213c5d837171c562d51096889b759b133e5af4e6ea2") false
    fatChains_row (fun _ h => by cases h) (by kernel_rfl) (fun _ h => by cases h) fatChains_row_tie rfl ⟨rfl, rfl⟩ (by kernel_rfl) rfl
    (fun f fn hf hfn => by
      obtain rfl : f = 3 := Option.some.inj ((show Tryd.prog.funcNamed "fettle/fettlelaw16.FatChains" = some 3 by kernel_rfl).symm.trans hf) |>.symm
      obtain rfl : fn = Tryd.f3 := (Option.some.inj (Tryd.func3.symm.trans hfn)).symm
      exact ⟨by kernel_rfl, fun j t ht => by
        rw [Tryd.params3] at ht
        have hm : t ∈ [24, 25, 2] := by simpa using Array.mem_of_getElem? ht
        have hall : ([24, 25, 2].all fun u => !Tryd.prog.wantsStandIn u) = true := by kernel_rfl
        exact (show Tryd.prog.wantsStandIn t = false by simpa using List.all_eq_true.1 hall t hm)⟩)
    (by kernel_rfl)
end Go.Proofs.YtcbbaoiefdbcpaaDoor.Oct
