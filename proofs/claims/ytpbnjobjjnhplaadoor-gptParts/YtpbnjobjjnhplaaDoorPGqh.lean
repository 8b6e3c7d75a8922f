/- The program's Parse of a disk of any bytes. -/
import Derived.Test.YtpbnjobjjnhplaaDoorPGqg
namespace Go.Proofs.YtpbnjobjjnhplaaDoor.Oct
open Go.RowKit

theorem ret_src {fn : Func} {p u : Tmp} (hr : fn.results = #[.cell p 83, .tmp u]) (tmps : Array Value) (w : World) (R : Nat) (x y z : Value)
    (hp : tmps.getD p undef = .pointer (some ⟨R, 0, none⟩)) (hz : tmps.getD u undef = z) (hk : Blk w R #[x, y] 83) :
    (results fn tmps).run Tryd.prog w = .ok (.tuple #[.agg #[x, y], z]) w := by
  rw [results_cell_tmp hr, hp, hz]
  simp only [asAddr, Sem.run_pure, Result.andThen_ok]
  rw [run_loadVar_row w R 83 83 _ (0, 0) _ hk Tryd.underlying83 rfl (by kernel_rfl)]
  rfl

/-- Is it a disk that may have a table? -/
def fitG (n : Nat) : Bool := decide (n % 512 = 0 ∧ 3072 ≤ n)

set_option maxHeartbeats 4000000 in
set_option maxRecDepth 100000 in
theorem from_yes (a : Option Addr) (n cap : Nat) (w : World) (hn : n ≤ 1000000000) (h1 : n % 512 = 0) (h2 : 3072 ≤ n) :
    Calls Tryd.prog 36 #[.iface 41 (.slice a n cap)] w fun e w' => e = .returned (.tuple #[.agg #[.iface 41 (.slice a n cap), .int .i64 ((n / 512 : Nat) : Int)], .int .i64 0]) ∧ Below w.heap.size w w' := by
  have hmS : ∀ (u : World) (a : Option Addr) (n c : Nat), (method 285 41 (.slice a n c) "Size").run Tryd.prog u = .ok (125, .slice a n c) u := fun u a n c => by kernel_rfl
  have HS := fun u => hide (msize_any a n cap u)
  have e1 : wrap64 ((n : Int).tmod 512) = 0 := by
    rw [Int.tmod_eq_emod_of_nonneg (by omega)]
    unfold wrap64
    omega
  have e2 : wrap64 ((n : Int).tdiv 512) = ((n / 512 : Nat) : Int) := by
    rw [Int.tdiv_eq_ediv_of_nonneg (by omega)]
    unfold wrap64
    omega
  have e4 : (n : Int) % 512 = 0 := by omega
  have e3 : ¬ (n : Int) < 3072 := by omega
  obtain ⟨q, hq⟩ : ∃ q : Int, q = ((n / 512 : Nat) : Int) := ⟨_, rfl⟩
  have e5 : (n : Int) / 512 = q := by omega
  have e6 : wrap64 q = q := by unfold wrap64; omega
  rw [← hq] at e2 ⊢
  clear hq h1 h2 hn e2
  go_enter Tryd.func36, Tryd.ntmps36
  go_wp2_with (go_at_call 125; refine (HS _).out.mono ?_; rintro e9 w2 ⟨rfl, h2⟩; have h2 := h2.symm; subst h2)
  exact bodyPost_ret (ret_src rfl _ _ w.heap.size _ _ _ rfl rfl (Blk.new _ _ _)) rfl ⟨rfl, (Below.refl _ _).alloc (Nat.le_refl _) _⟩

set_option maxHeartbeats 4000000 in
set_option maxRecDepth 100000 in
theorem from_no (a : Option Addr) (n cap : Nat) (w : World) (hn : n ≤ 1000000000) (h : ¬ (n % 512 = 0 ∧ 3072 ≤ n)) :
    Calls Tryd.prog 36 #[.iface 41 (.slice a n cap)] w fun e w' => e = .returned (.tuple #[.agg #[.nilIface, .int .i64 0], .int .i64 4]) ∧ Below w.heap.size w w' := by
  have hmS : ∀ (u : World) (a : Option Addr) (n c : Nat), (method 285 41 (.slice a n c) "Size").run Tryd.prog u = .ok (125, .slice a n c) u := fun u a n c => by kernel_rfl
  have HS := fun u => hide (msize_any a n cap u)
  by_cases h1 : n % 512 = 0
  · have e4 : (n : Int) % 512 = 0 := by omega
    have e3 : (n : Int) < 3072 := by omega
    clear h hn h1
    go_enter Tryd.func36, Tryd.ntmps36
    go_wp2_with (go_at_call 125; refine (HS _).out.mono ?_; rintro e9 w2 ⟨rfl, h2⟩; have h2 := h2.symm; subst h2)
    exact bodyPost_ret (ret_src rfl _ _ w.heap.size _ _ _ rfl rfl (Blk.new _ _ _)) rfl ⟨rfl, (Below.refl _ _).alloc (Nat.le_refl _) _⟩
  · have e4 : ((n : Int) % 512 != 0) = true := by have : ¬ (n : Int) % 512 = 0 := by omega
                                                  simpa using this
    have e5 : wrap64 ((n : Int) % 512) = (n : Int) % 512 := by unfold wrap64; omega
    clear h hn h1
    go_enter Tryd.func36, Tryd.ntmps36
    go_wp2_with (go_at_call 125; refine (HS _).out.mono ?_; rintro e9 w2 ⟨rfl, h2⟩; have h2 := h2.symm; subst h2)
    exact bodyPost_ret (ret_src rfl _ _ w.heap.size _ _ _ rfl rfl (Blk.new _ _ _)) rfl ⟨rfl, (Below.refl _ _).alloc (Nat.le_refl _) _⟩

set_option maxHeartbeats 1000000 in
theorem from_nil (w : World) : Calls Tryd.prog 36 #[.nilIface] w fun e w' => e = .returned (.tuple #[.agg #[.nilIface, .int .i64 0], .int .i64 2]) ∧ Below w.heap.size w w' := by
  go_enter Tryd.func36, Tryd.ntmps36
  go_wp2_with fail
  exact bodyPost_ret (ret_src rfl _ _ w.heap.size _ _ _ rfl rfl (Blk.new _ _ _)) rfl ⟨rfl, (Below.refl _ _).alloc (Nat.le_refl _) _⟩

/-- What Parse answers of a disk. -/
def ParsedG (d : List Int) (e : Ending) (w' : World) : Prop := ∃ a c, e = .returned (.tuple #[.agg ((parG d).cells (.slice a (parG d).L.length c)).toArray, .int .i64 (errG d)]) ∧ LiesEn w' a (parG d).L

theorem alloc_src {u : World} {x y : Value} {C : Array Value} : Blk ((u.alloc (.cells C 83)).setRow u.heap.size #[x, y]) u.heap.size #[x, y] 83 ∧ Below u.heap.size u ((u.alloc (.cells C 83)).setRow u.heap.size #[x, y]) :=
  ⟨setRow_blk (Blk.new _ _ _) _, setrow_belowG ((Below.refl _ _).alloc (Nat.le_refl _) _) (Nat.le_refl _)⟩

theorem LiesEn.away {w : World} {a : Option Addr} {L : List E4} {R : Nat} {C : Array Value} (h : LiesEn w a L) (hne : ∀ x, a = some x → x.block ≠ R) : LiesEn (w.setRow R C) a L := by
  rcases h with h | ⟨b, off, rfl, hb, hc⟩
  · exact Or.inl h
  · refine Or.inr ⟨b, off, rfl, by simpa using hb, fun k x hk j u hj => ?_⟩
    rw [cell_setRow_other _ _ _ _ (show b ≠ R from hne ⟨b, off, none⟩ rfl)]
    exact hc k x hk j u hj

set_option maxHeartbeats 4000000 in
set_option maxRecDepth 100000 in
/-- Where from says no. -/
theorem Parse_bad (x : Value) (k : Int) (hk : k = 2 ∨ k = 4) (w : World) (hf : ∀ u, Calls Tryd.prog 36 #[x] u fun e w' => e = .returned (.tuple #[.agg #[.nilIface, .int .i64 0], .int .i64 k]) ∧ Below u.heap.size u w') :
    Calls Tryd.prog 13 #[x] w fun e w' => e = .returned (.tuple #[.agg z22, .int .i64 k]) ∧ Below w.heap.size w w' := by
  have HF := fun u => hide (hf u)
  have hne : (k != 0) = true := by rcases hk with rfl | rfl <;> decide
  obtain ⟨R, hR⟩ : ∃ R, R = w.heap.size := ⟨_, rfl⟩
  obtain ⟨w1, hw1⟩ : ∃ w1, w1 = w.alloc (.cells z22 25) := ⟨_, rfl⟩
  have hb1 : Below w.heap.size w w1 := by rw [hw1]; exact (Below.refl _ _).alloc (Nat.le_refl _) _
  have HK1 := hide (show Blk w1 R z22 25 by rw [hw1, hR]; exact Blk.new _ _ _)
  have HB1 := hide hb1
  have HR := hide hR
  have HW1 := hide hw1
  have HZo := hide z22_one
  have HLe := hide (show w.heap.size ≤ R by rw [hR]; exact Nat.le_refl _)
  clear hf hk hR hw1 hb1
  go_enter Tryd.func13, Tryd.ntmps13
  go_upto_region 1 with fail
  rw [← HW1.out, ← HR.out]
  go_upto_region 2 with (go_at_call 36; refine (HF _).out.mono ?_; rintro e9 w2 ⟨rfl, h2⟩; have HK2 := hide (HK1.out.below h2); have HB2 := hide (HB1.out.trans (h2.mono HB1.out.size)); clear h2)
  have HK3 := hide (HK2.out.below ((Below.refl _ _).alloc (Nat.le_refl _) (.cells #[.nilIface, .int .i64 0] 83)))
  have HB3 := hide (HB2.out.alloc HB2.out.size (.cells #[.nilIface, .int .i64 0] 83))
  go_wp2_with (first | (refine wpList_isop (.build 25 #[]) rfl ?_; refine wpList_exec rfl (exec_build rfl (by kernel_rfl) z22_built) ?_) | (refine wpList_isop (.store 25 (.tmp 2) (.tmp 13)) rfl ?_; refine wpList_store_row rfl 25 (.tmp 2) (.tmp 13) rfl R z22 rfl rfl 25 _ HK3.out (by kernel_rfl) rfl HZo.out ?_))
  refine bodyPost_ret (ret_tb rfl _ _ R z22 z22_size _ rfl rfl (setRow_blk HK3.out _)) rfl ⟨?_, setrow_belowG HB3.out HLe.out⟩
  rfl

theorem parG_id (d : List Int) (h1 : d.length % 512 = 0) (h2 : 3072 ≤ d.length) : (parG d).id.length = 16 := by
  unfold parG
  split
  · exact decG_id (secD_len (by omega))
  · rfl

set_option maxHeartbeats 4000000 in
set_option maxRecDepth 100000 in
theorem Parse_ok (hSS : SortSays) (b off cap : Nat) (d : List Int) (w : World) (hm : d.length % 512 = 0) (h6 : 3072 ≤ d.length) (hd : d.length ≤ 500000000) (hcap : d.length ≤ cap) (hb : Byts d) (hl : Lies w (some ⟨b, off, none⟩) d) (hV : VarG w) :
    Calls Tryd.prog 13 #[.iface 41 (.slice (some ⟨b, off, none⟩) d.length cap)] w fun e w' => ParsedG d e w' ∧ Below w.heap.size w w' := by
  have HF := fun u => hide (from_yes (some ⟨b, off, none⟩) d.length cap u (by omega) hm h6)
  have HP := fun u hu hv => hide (sparse_any hSS b off cap d u hm h6 hd hcap hb hu hv)
  unfold srcV at HP
  have hid := parG_id d hm h6
  unfold ParsedG
  obtain ⟨PT, hPT⟩ : ∃ P, P = parG d := ⟨_, rfl⟩
  obtain ⟨ER, hER⟩ : ∃ E, E = errG d := ⟨_, rfl⟩
  rw [← hPT] at HP hid ⊢
  rw [← hER] at HP ⊢
  obtain ⟨s, hs⟩ : ∃ s : Int, s = ((d.length / 512 : Nat) : Int) := ⟨_, rfl⟩
  rw [← hs] at HF HP
  obtain ⟨n, hn⟩ : ∃ n, n = d.length := ⟨_, rfl⟩
  rw [← hn] at HF HP ⊢
  have HId := hide hid
  obtain ⟨R, hR⟩ : ∃ R, R = w.heap.size := ⟨_, rfl⟩
  obtain ⟨w1, hw1⟩ : ∃ w1, w1 = w.alloc (.cells z22 25) := ⟨_, rfl⟩
  have hb1 : Below w.heap.size w w1 := by rw [hw1]; exact (Below.refl _ _).alloc (Nat.le_refl _) _
  have HK1 := hide (show Blk w1 R z22 25 by rw [hw1, hR]; exact Blk.new _ _ _)
  have HB1 := hide hb1
  have HR := hide hR
  have HW1 := hide hw1
  have HL0 := hide hl
  have HV0 := hide hV
  have HLe := hide (show w.heap.size ≤ R by rw [hR]; exact Nat.le_refl _)
  clear hSS hm h6 hd hcap hb hl hV hid hPT hER hs hn hR hw1 hb1
  go_enter Tryd.func13, Tryd.ntmps13
  go_upto_region 1 with fail
  rw [← HW1.out, ← HR.out]
  go_upto_region 2 with (go_at_call 36; refine (HF _).out.mono ?_; rintro e9 w2 ⟨rfl, h2⟩; have HK2 := hide (HK1.out.below h2); have HB2 := hide (HB1.out.trans (h2.mono HB1.out.size)); clear h2)
  have hb3 : Below w2.heap.size w2 (w2.alloc (.cells #[.iface 41 (.slice (some ⟨b, off, none⟩) n cap), .int .i64 s] 83)) := (Below.refl _ _).alloc (Nat.le_refl _) _
  have hk3 := Blk.new w2 #[.iface 41 (.slice (some ⟨b, off, none⟩) n cap), .int .i64 s] 83
  have HK3 := hide (HK2.out.below hb3)
  have HB3 := hide (HB2.out.trans (hb3.mono HB2.out.size))
  obtain ⟨w3, hw3⟩ : ∃ x, x = w2.alloc (.cells #[.iface 41 (.slice (some ⟨b, off, none⟩) n cap), .int .i64 s] 83) := ⟨_, rfl⟩
  obtain ⟨X, hX⟩ : ∃ X, X = w2.heap.size := ⟨_, rfl⟩
  rw [← hw3] at hk3 HK3 HB3 ⊢
  rw [← hX] at hk3 ⊢
  have HX := hide hk3
  have HLx := hide (show R < w3.heap.size from HK3.out.lt)
  clear hb3 hk3 hw3 hX
  have HPx := hide (HP _ (HL0.out.below HB3.out) (HV0.out.below HB3.out)).out
  go_upto_region 4 with fail
  go_wp2_with (first | (refine wpList_isop (.load 83 (.tmp 4)) rfl ?_; refine wpList_exec rfl (exec_ld rfl rfl (loadS HX.out)) ?_) | (go_at_call 37; refine HPx.out.mono ?_; rintro e9 w4 ⟨⟨a, c, rfl, hli, hfa⟩, h4⟩; have HLi := hide hli; have HFa := hide hfa; have HK4 := hide (HK3.out.below h4); have HB4 := hide (HB3.out.trans (h4.mono HB3.out.size)); obtain ⟨CC, hCC⟩ : ∃ C, C = (PT.cells (.slice a PT.L.length c)).toArray := ⟨_, rfl⟩; have HCs := hide (show CC.size = 22 by rw [hCC]; exact tb_size HId.out); have HCo := hide (show CC.all (·.oneCell') = true by rw [hCC]; exact tb_oneG _ _ _ _); rw [← hCC]; have HCC := hide hCC; clear hli hfa h4 hCC) | (refine wpList_isop (.store 25 (.tmp 2) (.tmp 17)) rfl ?_; refine wpList_store_row rfl 25 (.tmp 2) (.tmp 17) rfl R CC rfl rfl 25 _ HK4.out (by rw [HCs.out]; kernel_rfl) (by rw [HCs.out]; kernel_rfl) HCo.out ?_))
  refine bodyPost_ret (ret_tb rfl _ _ R CC HCs.out _ rfl rfl (setRow_blk HK4.out _)) rfl ⟨⟨a, c, ?_, ?_⟩, setrow_belowG HB4.out HLe.out⟩
  · rw [HCC.out]
    rfl
  · exact LiesEn.away HLi.out (fun x hx => by have := HFa.out x hx; have := HLx.out; omega)
end Go.Proofs.YtpbnjobjjnhplaaDoor.Oct
