/- Open of any partition of a sector at least: the volume, or which error. -/
import Derived.Test.YtcbbaoiefdbcpaaDoorPFca
import Derived.Test.YtcbbaoiefdbcpaaDoorPFov
namespace Go.Proofs.YtcbbaoiefdbcpaaDoor.Oct
open Go.RowKit

set_option maxHeartbeats 8000000 in
set_option maxRecDepth 100000 in
theorem open_a (a : Option Addr) (cap m : Nat) (w : World) (ck : Int) (hne : ck ≠ 0) (HO : Hid (Calls Tryd.prog 22 #[.iface 34 (.slice a m cap)] w fun e w' => e = .returned (.tuple #[.agg bt0.cs, .int .i64 ck]) ∧ Below w.heap.size w w')) :
    Calls Tryd.prog 6 #[.iface 34 (.slice a m cap)] w fun e w' => e = .returned (.tuple #[.pointer none, .int .i64 ck]) ∧ Below w.heap.size w w' := by
  have hck : (ck != 0) = true := by simpa using hne
  clear hne
  go_enter Tryd.func6, Tryd.ntmps6
  go_wp2_with fail
  refine HO.out.mono ?_
  rintro e9 w2 ⟨rfl, hb2⟩
  have hb3 : Below w2.heap.size w2 (w2.alloc (.cells bt0.cs 63)) := (Below.refl _ _).alloc (Nat.le_refl _) _
  have HB3 := hide (hb2.trans (hb3.mono hb2.size))
  clear hb2 hb3 HO
  go_wp2_with fail
  go_ret2
  exact ⟨rfl, HB3.out⟩

set_option maxHeartbeats 8000000 in
set_option maxRecDepth 100000 in
theorem open_b (a : Option Addr) (cap : Nat) (d : List Int) (b : Bt) (f x z : Int) (w : World) (hd : d.length ≤ 1000000000) (hcap : d.length ≤ cap) (hno : a = none → cap = 0) (hl : Lies w a d) (hbd : Byts d) (hV : Vars w) (hvp : parB (secs d 0 1) = (b, 0)) (hvz : b.secs * 512 ≤ d.length) (hvc : b.copy = 0 ∨ secs d b.copy 1 = secs d 0 1) (hvn : parC (secs d b.info 1) = (f, x, z)) (hz : z ≠ 0) :
    Calls Tryd.prog 6 #[.iface 34 (.slice a d.length cap)] w fun e w' => e = .returned (.tuple #[.pointer none, .int .i64 z]) ∧ Below w.heap.size w w' := by
  have hk := parB_chk hvp
  obtain ⟨hfo, h1c, h2c, _⟩ := chk_says hk
  have hfs := Bt.form_says hfo
  obtain ⟨hcl0, hcl1⟩ := Bt.clus_says hfo
  obtain ⟨hda, htl⟩ := chk_data hk
  have hcl : 0 ≤ b.clus * b.each := Int.mul_nonneg hcl0 (by omega)
  have hsz := hvz
  have htb : b.tabs = 1 ∨ b.tabs = 2 := by omega
  have hlt : b.long ≤ b.tabs * b.long := by rcases htb with e | e <;> rw [e] <;> omega
  have hlt2 : b.tabs = 2 → b.tabs * b.long = b.long + b.long := fun e => by rw [e]; omega
  have hln := secs_len (d := d) (s := b.ahead) (n := b.long) (by omega) (by omega) (by omega)
  have HO := hide (oboot_ok a cap d b w hd hcap hno hl hbd hV (by omega) hvp hsz hvc)
  have HC := fun u hu hv => hide (counts_any a cap d b f x z u hd hcap hno hu hbd hv (by omega) (by omega) hvn)
  have HD := hide hl
  have HV := hide hV
  have hzd : (z != 0) = true := by simpa using hz
  obtain ⟨m, hm⟩ : ∃ m, m = d.length := ⟨_, rfl⟩
  rw [← hm] at HO HC ⊢
  clear hd hcap hno hl hbd hV hvp hvz hvc hvn hz hk hfo h1c h2c hfs hcl0 hcl1 hda htl hcl hsz htb hlt hlt2 hln hm
  go_enter Tryd.func6, Tryd.ntmps6
  go_wp2_with fail
  refine HO.out.mono ?_
  rintro e9 w2 ⟨rfl, hb2⟩
  obtain ⟨w3, hw3⟩ : ∃ w3, w3 = w2.alloc (.cells #[.int .i64 b.each, .int .i64 b.ahead, .int .i64 b.tabs, .int .i64 b.secs, .int .i64 b.long, .int .i64 b.root, .int .i64 b.info, .int .i64 b.copy] 63) := ⟨_, rfl⟩
  have hb3 : Below w2.heap.size w2 w3 := by rw [hw3]; exact (Below.refl _ _).alloc (Nat.le_refl _) _
  have HI3 := hide (show Blk w3 w2.heap.size #[.int .i64 b.each, .int .i64 b.ahead, .int .i64 b.tabs, .int .i64 b.secs, .int .i64 b.long, .int .i64 b.root, .int .i64 b.info, .int .i64 b.copy] 63 by rw [hw3]; exact Blk.new _ _ _)
  have HD3 := hide ((HD.out.below hb2).below hb3)
  have HV3 := hide ((HV.out.below hb2).below hb3)
  have HB3 := hide (hb2.trans (hb3.mono hb2.size))
  have hs23 : w.heap.size ≤ w2.heap.size := hb2.size
  have HW3 := hide hw3
  have HS23 := hide hs23
  clear hb2 hb3 hw3 hs23 HO
  have hc0 := cells_of (Blk.new w2 b.cs 63)
  obtain ⟨c0, c1, c2, c3, c4, c5, c6, c7⟩ := hc0
  go_wp2_with fail
  clear c0 c1 c2 c3 c4 c5 c6 c7
  rw [← HW3.out]
  refine ((HC w3 HD3.out HV3.out).out).mono ?_
  rintro e9 w4 ⟨rfl, hb4⟩
  have hb5 : Below w4.heap.size w4 (w4.alloc (.cells #[.int .i64 f, .int .i64 x] 66)) := (Below.refl _ _).alloc (Nat.le_refl _) _
  have HB5 := hide ((HB3.out.trans (hb4.mono HB3.out.size)).trans (hb5.mono (HB3.out.trans (hb4.mono HB3.out.size)).size))
  clear hb4 hb5 HC HV HV3
  go_wp2_with fail
  go_ret2
  exact ⟨rfl, HB5.out⟩

set_option maxHeartbeats 8000000 in
set_option maxRecDepth 100000 in
theorem open_c (a : Option Addr) (cap : Nat) (d : List Int) (b : Bt) (f x : Int) (w : World) (hd : d.length ≤ 1000000000) (hcap : d.length ≤ cap) (hno : a = none → cap = 0) (hl : Lies w a d) (hbd : Byts d) (hV : Vars w) (hvp : parB (secs d 0 1) = (b, 0)) (hvz : b.secs * 512 ≤ d.length) (hvc : b.copy = 0 ∨ secs d b.copy 1 = secs d 0 1) (hvn : parC (secs d b.info 1) = (f, x, 0)) (ht0 : ¬ b.tabs = 1) (hvt : secs d (b.ahead + b.long) b.long ≠ secs d b.ahead b.long) :
    Calls Tryd.prog 6 #[.iface 34 (.slice a d.length cap)] w fun e w' => e = .returned (.tuple #[.pointer none, .int .i64 11]) ∧ Below w.heap.size w w' := by
  have hk := parB_chk hvp
  obtain ⟨hfo, h1c, h2c, _⟩ := chk_says hk
  have hfs := Bt.form_says hfo
  obtain ⟨hcl0, hcl1⟩ := Bt.clus_says hfo
  obtain ⟨hda, htl⟩ := chk_data hk
  have hcl : 0 ≤ b.clus * b.each := Int.mul_nonneg hcl0 (by omega)
  have hsz := hvz
  have htb : b.tabs = 1 ∨ b.tabs = 2 := by omega
  have hlt : b.long ≤ b.tabs * b.long := by rcases htb with e | e <;> rw [e] <;> omega
  have hlt2 : b.tabs = 2 → b.tabs * b.long = b.long + b.long := fun e => by rw [e]; omega
  have hln := secs_len (d := d) (s := b.ahead) (n := b.long) (by omega) (by omega) (by omega)
  have HO := hide (oboot_ok a cap d b w hd hcap hno hl hbd hV (by omega) hvp hsz hvc)
  have HC := fun u hu hv => hide (counts_ok a cap d b f x u hd hcap hno hu hbd hv (by omega) (by omega) hvn)
  have HT := fun u hu => hide (table_bad a cap d b u hd hcap hno hu hbd (by omega) (by omega) (by omega) ht0 ⟨by have := hlt2 (htb.resolve_left ht0); omega, hvt⟩)
  have HD := hide hl
  have HV := hide hV
  obtain ⟨m, hm⟩ : ∃ m, m = d.length := ⟨_, rfl⟩
  rw [← hm] at HO HC HT ⊢
  clear hd hcap hno hl hbd hV hvp hvz hvc hvn ht0 hvt hk hfo h1c h2c hfs hcl0 hcl1 hda htl hcl hsz htb hlt hlt2 hln hm
  go_enter Tryd.func6, Tryd.ntmps6
  go_wp2_with fail
  refine HO.out.mono ?_
  rintro e9 w2 ⟨rfl, hb2⟩
  obtain ⟨w3, hw3⟩ : ∃ w3, w3 = w2.alloc (.cells #[.int .i64 b.each, .int .i64 b.ahead, .int .i64 b.tabs, .int .i64 b.secs, .int .i64 b.long, .int .i64 b.root, .int .i64 b.info, .int .i64 b.copy] 63) := ⟨_, rfl⟩
  have hb3 : Below w2.heap.size w2 w3 := by rw [hw3]; exact (Below.refl _ _).alloc (Nat.le_refl _) _
  have HI3 := hide (show Blk w3 w2.heap.size #[.int .i64 b.each, .int .i64 b.ahead, .int .i64 b.tabs, .int .i64 b.secs, .int .i64 b.long, .int .i64 b.root, .int .i64 b.info, .int .i64 b.copy] 63 by rw [hw3]; exact Blk.new _ _ _)
  have HD3 := hide ((HD.out.below hb2).below hb3)
  have HV3 := hide ((HV.out.below hb2).below hb3)
  have HB3 := hide (hb2.trans (hb3.mono hb2.size))
  have hs23 : w.heap.size ≤ w2.heap.size := hb2.size
  have HW3 := hide hw3
  have HS23 := hide hs23
  clear hb2 hb3 hw3 hs23 HO
  have hc0 := cells_of (Blk.new w2 b.cs 63)
  obtain ⟨c0, c1, c2, c3, c4, c5, c6, c7⟩ := hc0
  go_wp2_with fail
  clear c0 c1 c2 c3 c4 c5 c6 c7
  rw [← HW3.out]
  refine ((HC w3 HD3.out HV3.out).out).mono ?_
  rintro e9 w4 ⟨rfl, hb4⟩
  obtain ⟨w5, hw5⟩ : ∃ w5, w5 = w4.alloc (.cells #[.int .i64 f, .int .i64 x] 66) := ⟨_, rfl⟩
  have hb5 : Below w4.heap.size w4 w5 := by rw [hw5]; exact (Below.refl _ _).alloc (Nat.le_refl _) _
  have HI5 := hide ((HI3.out.below hb4).below hb5)
  have HC5 := hide (show Blk w5 w4.heap.size #[.int .i64 f, .int .i64 x] 66 by rw [hw5]; exact Blk.new _ _ _)
  have HD5 := hide ((HD3.out.below hb4).below hb5)
  have HB5 := hide ((HB3.out.trans (hb4.mono HB3.out.size)).trans (hb5.mono (HB3.out.trans (hb4.mono HB3.out.size)).size))
  have hc5 : ∀ i v, #[.int .i64 b.each, .int .i64 b.ahead, .int .i64 b.tabs, .int .i64 b.secs, .int .i64 b.long, .int .i64 b.root, .int .i64 b.info, .int .i64 b.copy][i]? = some v → (w4.alloc (.cells #[.int .i64 f, .int .i64 x] 66)).cell? ⟨w2.heap.size, i, none⟩ = some v := fun i v hv => by rw [← hw5]; exact HI5.out.cell i v hv
  have HW5 := hide hw5
  clear hb4 hb5 hw5 HC HV HV3
  have c0 := hc5 0 _ rfl
  have c1 := hc5 1 _ rfl
  have c2 := hc5 2 _ rfl
  have c3 := hc5 3 _ rfl
  have c4 := hc5 4 _ rfl
  have c5 := hc5 5 _ rfl
  have c6 := hc5 6 _ rfl
  have c7 := hc5 7 _ rfl
  go_wp2_with fail
  clear c0 c1 c2 c3 c4 c5 c6 c7 hc5
  rw [← HW5.out]
  refine ((HT w5 HD5.out).out).mono ?_
  rintro e9 w6 ⟨rfl, hb6⟩
  have HB6 := hide (HB5.out.trans (hb6.mono HB5.out.size))
  clear hb6 HT
  go_wp2_with fail
  go_ret2
  exact ⟨rfl, HB6.out⟩

set_option maxHeartbeats 8000000 in
set_option maxRecDepth 100000 in
theorem open_d (a : Option Addr) (cap : Nat) (d : List Int) (b : Bt) (k : Nat) (f x : Int) (w : World) (hd : d.length ≤ 1000000000) (hcap : d.length ≤ cap) (hno : a = none → cap = 0) (hl : Lies w a d) (hbd : Byts d) (hV : Vars w) (hvp : parB (secs d 0 1) = (b, 0)) (hvz : b.secs * 512 ≤ d.length) (hvc : b.copy = 0 ∨ secs d b.copy 1 = secs d 0 1) (hvn : parC (secs d b.info 1) = (f, x, 0)) (hvt : b.tabs = 1 ∨ secs d (b.ahead + b.long) b.long = secs d b.ahead b.long) (hcu0 : b.clus = (k : Int)) (hfr : f ≠ 4294967295 ∧ f ≠ frees (numsF (secs d b.ahead b.long) k) k) :
    Calls Tryd.prog 6 #[.iface 34 (.slice a d.length cap)] w fun e w' => e = .returned (.tuple #[.pointer none, .int .i64 23]) ∧ Below w.heap.size w w' := by
  have hk := parB_chk hvp
  obtain ⟨hfo, h1c, h2c, _⟩ := chk_says hk
  have hfs := Bt.form_says hfo
  obtain ⟨hcl0, hcl1⟩ := Bt.clus_says hfo
  obtain ⟨hda, htl⟩ := chk_data hk
  have hcl : 0 ≤ b.clus * b.each := Int.mul_nonneg hcl0 (by omega)
  have hsz := hvz
  have hcu := hcu0
  have htb : b.tabs = 1 ∨ b.tabs = 2 := by omega
  have hlt : b.long ≤ b.tabs * b.long := by rcases htb with e | e <;> rw [e] <;> omega
  have hlt2 : b.tabs = 2 → b.tabs * b.long = b.long + b.long := fun e => by rw [e]; omega
  have hln := secs_len (d := d) (s := b.ahead) (n := b.long) (by omega) (by omega) (by omega)
  have HO := hide (oboot_ok a cap d b w hd hcap hno hl hbd hV (by omega) hvp hsz hvc)
  have HC := fun u hu hv => hide (counts_ok a cap d b f x u hd hcap hno hu hbd hv (by omega) (by omega) hvn)
  have HT := fun u hu => hide (table_ok a cap d b u hd hcap hno hu hbd (by omega) (by omega) (by omega) (by
    rcases hvt with e | e
    · exact Or.inl e
    · rcases htb with e2 | e2
      · exact Or.inl e2
      · exact Or.inr ⟨by have := hlt2 e2; omega, e⟩))
  have HN : ∀ (u : World) (y : Option Addr) (c : Nat), Lies u y (secs d b.ahead b.long) → Hid (Calls Tryd.prog 25 #[.agg #[.int .i64 b.each, .int .i64 b.ahead, .int .i64 b.tabs, .int .i64 b.secs, .int .i64 b.long, .int .i64 b.root, .int .i64 b.info, .int .i64 b.copy], .slice y (b.long * 512).toNat c] u fun e w' => (∃ g, e = .returned (.slice (some ⟨g, 0, none⟩) k k) ∧ u.heap.size ≤ g ∧ OwnU w' u.heap.size (.slice (some ⟨g, 0, none⟩) k k) (numsF (secs d b.ahead b.long) k)) ∧ Below u.heap.size u w') := fun u y c hu => hide (by
    have h := numbers_any b y c k (secs d b.ahead b.long) u (Bt.form_near hfo).1 hcu (by omega) hu (hbd.secs _ _) (by rw [hln]; unfold maxLen; omega) (by rw [hln]; omega)
    rw [hln] at h
    exact h)
  have HF := fun R g u hR hL => hide (free_any b R g k f x (numsF (secs d b.ahead b.long) k) u (numsF_len _ _) (by omega) hR hL)
  obtain ⟨NL, hNL⟩ : ∃ NL, NL = numsF (secs d b.ahead b.long) k := ⟨_, rfl⟩
  have hNl : NL.length = k := by rw [hNL]; exact numsF_len _ _
  rw [← hNL] at HN HF hfr
  obtain ⟨TB, hTB⟩ : ∃ TB, TB = secs d b.ahead b.long := ⟨_, rfl⟩
  rw [← hTB] at HT HN
  have HD := hide hl
  have HV := hide hV
  have HNl := hide hNl
  obtain ⟨m, hm⟩ : ∃ m, m = d.length := ⟨_, rfl⟩
  rw [← hm] at HO HC HT ⊢
  obtain ⟨z, hz⟩ : ∃ z, z = (b.long * 512).toNat := ⟨_, rfl⟩
  rw [← hz] at HT HN
  obtain ⟨fr, hfrE⟩ : ∃ fr, fr = frees NL k := ⟨_, rfl⟩
  rw [← hfrE] at HF hfr
  clear hcu0 hvp hvz hvc hvn hvt hfrE hd hcap hno hl hbd hV hk hfo h1c h2c hfs hcl0 hcl1 hda htl hcl hsz hcu htb hlt hlt2 hln hNL hTB hm hz hNl
  go_enter Tryd.func6, Tryd.ntmps6
  go_wp2_with fail
  refine HO.out.mono ?_
  rintro e9 w2 ⟨rfl, hb2⟩
  obtain ⟨w3, hw3⟩ : ∃ w3, w3 = w2.alloc (.cells #[.int .i64 b.each, .int .i64 b.ahead, .int .i64 b.tabs, .int .i64 b.secs, .int .i64 b.long, .int .i64 b.root, .int .i64 b.info, .int .i64 b.copy] 63) := ⟨_, rfl⟩
  have hb3 : Below w2.heap.size w2 w3 := by rw [hw3]; exact (Below.refl _ _).alloc (Nat.le_refl _) _
  have HI3 := hide (show Blk w3 w2.heap.size #[.int .i64 b.each, .int .i64 b.ahead, .int .i64 b.tabs, .int .i64 b.secs, .int .i64 b.long, .int .i64 b.root, .int .i64 b.info, .int .i64 b.copy] 63 by rw [hw3]; exact Blk.new _ _ _)
  have HD3 := hide ((HD.out.below hb2).below hb3)
  have HV3 := hide ((HV.out.below hb2).below hb3)
  have HB3 := hide (hb2.trans (hb3.mono hb2.size))
  have hs23 : w.heap.size ≤ w2.heap.size := hb2.size
  have HW3 := hide hw3
  have HS23 := hide hs23
  clear hb2 hb3 hw3 hs23 HO
  have hc0 := cells_of (Blk.new w2 b.cs 63)
  obtain ⟨c0, c1, c2, c3, c4, c5, c6, c7⟩ := hc0
  go_wp2_with fail
  clear c0 c1 c2 c3 c4 c5 c6 c7
  rw [← HW3.out]
  refine ((HC w3 HD3.out HV3.out).out).mono ?_
  rintro e9 w4 ⟨rfl, hb4⟩
  obtain ⟨w5, hw5⟩ : ∃ w5, w5 = w4.alloc (.cells #[.int .i64 f, .int .i64 x] 66) := ⟨_, rfl⟩
  have hb5 : Below w4.heap.size w4 w5 := by rw [hw5]; exact (Below.refl _ _).alloc (Nat.le_refl _) _
  have HI5 := hide ((HI3.out.below hb4).below hb5)
  have HC5 := hide (show Blk w5 w4.heap.size #[.int .i64 f, .int .i64 x] 66 by rw [hw5]; exact Blk.new _ _ _)
  have HD5 := hide ((HD3.out.below hb4).below hb5)
  have HB5 := hide ((HB3.out.trans (hb4.mono HB3.out.size)).trans (hb5.mono (HB3.out.trans (hb4.mono HB3.out.size)).size))
  have hc5 : ∀ i v, #[.int .i64 b.each, .int .i64 b.ahead, .int .i64 b.tabs, .int .i64 b.secs, .int .i64 b.long, .int .i64 b.root, .int .i64 b.info, .int .i64 b.copy][i]? = some v → (w4.alloc (.cells #[.int .i64 f, .int .i64 x] 66)).cell? ⟨w2.heap.size, i, none⟩ = some v := fun i v hv => by rw [← hw5]; exact HI5.out.cell i v hv
  have HW5 := hide hw5
  clear hb4 hb5 hw5 HC HV HV3
  have c0 := hc5 0 _ rfl
  have c1 := hc5 1 _ rfl
  have c2 := hc5 2 _ rfl
  have c3 := hc5 3 _ rfl
  have c4 := hc5 4 _ rfl
  have c5 := hc5 5 _ rfl
  have c6 := hc5 6 _ rfl
  have c7 := hc5 7 _ rfl
  go_wp2_with fail
  clear c0 c1 c2 c3 c4 c5 c6 c7 hc5
  rw [← HW5.out]
  refine ((HT w5 HD5.out).out).mono ?_
  rintro e9 w6 ⟨⟨a6, cc6, rfl, hl6⟩, hb6⟩
  have HL6 := hide hl6
  have HI6 := hide (HI5.out.below hb6)
  have HC6 := hide (HC5.out.below hb6)
  have HB6 := hide (HB5.out.trans (hb6.mono HB5.out.size))
  clear hl6 hb6 HT
  have HN6 := HN w6.drew a6 cc6 HL6.out.drew
  have HI := hide HI6.out.drew
  have HCc := hide HC6.out.drew
  have HB := hide HB6.out.drew
  have sall : w6.cell? ⟨w2.heap.size, 0, none⟩ = some (.int .i64 b.each) ∧ w6.cell? ⟨w2.heap.size, 1, none⟩ = some (.int .i64 b.ahead) ∧ w6.cell? ⟨w2.heap.size, 2, none⟩ = some (.int .i64 b.tabs) ∧ w6.cell? ⟨w2.heap.size, 3, none⟩ = some (.int .i64 b.secs) ∧ w6.cell? ⟨w2.heap.size, 4, none⟩ = some (.int .i64 b.long) ∧ w6.cell? ⟨w2.heap.size, 5, none⟩ = some (.int .i64 b.root) ∧ w6.cell? ⟨w2.heap.size, 6, none⟩ = some (.int .i64 b.info) ∧ w6.cell? ⟨w2.heap.size, 7, none⟩ = some (.int .i64 b.copy) ∧ w6.cell? ⟨w4.heap.size, 0, none⟩ = some (.int .i64 f) ∧ w6.cell? ⟨w4.heap.size, 1, none⟩ = some (.int .i64 x) := ⟨HI6.out.cell 0 _ rfl, HI6.out.cell 1 _ rfl, HI6.out.cell 2 _ rfl, HI6.out.cell 3 _ rfl, HI6.out.cell 4 _ rfl, HI6.out.cell 5 _ rfl, HI6.out.cell 6 _ rfl, HI6.out.cell 7 _ rfl, HC6.out.cell 0 _ rfl, HC6.out.cell 1 _ rfl⟩
  obtain ⟨e0, e1, e2, e3, e4, e5, e6, e7, e8, e10⟩ := sall
  have hsb : w6.drew.cell? ⟨w2.heap.size, 0, none⟩ = some (.int .i64 b.each) ∧ w6.drew.cell? ⟨w2.heap.size, 1, none⟩ = some (.int .i64 b.ahead) ∧ w6.drew.cell? ⟨w2.heap.size, 2, none⟩ = some (.int .i64 b.tabs) ∧ w6.drew.cell? ⟨w2.heap.size, 3, none⟩ = some (.int .i64 b.secs) ∧ w6.drew.cell? ⟨w2.heap.size, 4, none⟩ = some (.int .i64 b.long) ∧ w6.drew.cell? ⟨w2.heap.size, 5, none⟩ = some (.int .i64 b.root) ∧ w6.drew.cell? ⟨w2.heap.size, 6, none⟩ = some (.int .i64 b.info) ∧ w6.drew.cell? ⟨w2.heap.size, 7, none⟩ = some (.int .i64 b.copy) ∧ w6.drew.cell? ⟨w4.heap.size, 0, none⟩ = some (.int .i64 f) ∧ w6.drew.cell? ⟨w4.heap.size, 1, none⟩ = some (.int .i64 x) := ⟨HI.out.cell 0 _ rfl, HI.out.cell 1 _ rfl, HI.out.cell 2 _ rfl, HI.out.cell 3 _ rfl, HI.out.cell 4 _ rfl, HI.out.cell 5 _ rfl, HI.out.cell 6 _ rfl, HI.out.cell 7 _ rfl, HCc.out.cell 0 _ rfl, HCc.out.cell 1 _ rfl⟩
  go_wp2_with fail
  go_region_held3 (fun u => u.cell? ⟨w2.heap.size, 0, none⟩ = some (.int .i64 b.each) ∧ u.cell? ⟨w2.heap.size, 1, none⟩ = some (.int .i64 b.ahead) ∧ u.cell? ⟨w2.heap.size, 2, none⟩ = some (.int .i64 b.tabs) ∧ u.cell? ⟨w2.heap.size, 3, none⟩ = some (.int .i64 b.secs) ∧ u.cell? ⟨w2.heap.size, 4, none⟩ = some (.int .i64 b.long) ∧ u.cell? ⟨w2.heap.size, 5, none⟩ = some (.int .i64 b.root) ∧ u.cell? ⟨w2.heap.size, 6, none⟩ = some (.int .i64 b.info) ∧ u.cell? ⟨w2.heap.size, 7, none⟩ = some (.int .i64 b.copy) ∧ u.cell? ⟨w4.heap.size, 0, none⟩ = some (.int .i64 f) ∧ u.cell? ⟨w4.heap.size, 1, none⟩ = some (.int .i64 x)) (first | go_keep | exact hsb | exact hsc) (first | (go_at_call 25; refine (HN6.out).mono ?_; rintro e9 w8 ⟨⟨g8, rfl, hg8, ho8⟩, hb8⟩; have HI8 := hide (HI.out.below hb8); have HC8 := hide (HCc.out.below hb8); have HB8 := hide (HB.out.trans (hb8.mono HB.out.size)); have HO8 := hide ho8; have HG8 := hide hg8; have hsc : w8.cell? ⟨w2.heap.size, 0, none⟩ = some (.int .i64 b.each) ∧ w8.cell? ⟨w2.heap.size, 1, none⟩ = some (.int .i64 b.ahead) ∧ w8.cell? ⟨w2.heap.size, 2, none⟩ = some (.int .i64 b.tabs) ∧ w8.cell? ⟨w2.heap.size, 3, none⟩ = some (.int .i64 b.secs) ∧ w8.cell? ⟨w2.heap.size, 4, none⟩ = some (.int .i64 b.long) ∧ w8.cell? ⟨w2.heap.size, 5, none⟩ = some (.int .i64 b.root) ∧ w8.cell? ⟨w2.heap.size, 6, none⟩ = some (.int .i64 b.info) ∧ w8.cell? ⟨w2.heap.size, 7, none⟩ = some (.int .i64 b.copy) ∧ w8.cell? ⟨w4.heap.size, 0, none⟩ = some (.int .i64 f) ∧ w8.cell? ⟨w4.heap.size, 1, none⟩ = some (.int .i64 x) := ⟨HI8.out.cell 0 _ rfl, HI8.out.cell 1 _ rfl, HI8.out.cell 2 _ rfl, HI8.out.cell 3 _ rfl, HI8.out.cell 4 _ rfl, HI8.out.cell 5 _ rfl, HI8.out.cell 6 _ rfl, HI8.out.cell 7 _ rfl, HC8.out.cell 0 _ rfl, HC8.out.cell 1 _ rfl⟩; clear hb8 ho8 hg8))
  all_goals
    obtain ⟨w9, hw9⟩ : ∃ w9, w9 = w8.alloc (.cells (volC b g8 k f x) 68) := ⟨_, rfl⟩
    have hb9 : Below w8.heap.size w8 w9 := by rw [hw9]; exact (Below.refl _ _).alloc (Nat.le_refl _) _
    have HR9 := hide (show Blk w9 w8.heap.size (volC b g8 k f x) 68 by rw [hw9]; exact Blk.new _ _ _)
    have HC9 := hide (HC8.out.below hb9)
    have HO9 := hide (show ∀ j, j < k → w9.cell? ⟨g8, j, none⟩ = some (.int .u32 (NL.getD j 0)) from fun j hj => (HO8.out.below hb9).cell j (by rw [HNl.out]; exact hj))
    have HB9 := hide (HB8.out.trans (hb9.mono HB8.out.size))
    have hg9 : w.heap.size ≤ g8 := Nat.le_trans HB.out.size HG8.out
    have hR9 : w.heap.size ≤ w8.heap.size := HB8.out.size
    have HG := hide (And.intro hR9 hg9)
    have e11 := HC9.out.cell 0 _ rfl
    rw [← hw9]
    clear hw9 hb9 hg9 hR9 e0 e1 e2 e3 e4 e5 e6 e7 e8 e10 hsb hsc
    have hq : (f != 4294967295) = true := by simpa using hfr.1
    have hf3 : (f != fr) = true := by simpa using hfr.2
    have HF9 := HF w8.heap.size g8 w9.drew HR9.out.drew HO9.out
    clear hfr HF
    have e12 : w9.drew.cell? ⟨w4.heap.size, 0, none⟩ = some (.int .i64 f) := e11
    go_wp2_with fail
    go_region_held3 (fun u => u.cell? ⟨w4.heap.size, 0, none⟩ = some (.int .i64 f)) (first | go_keep | exact e12) (first | (go_at_call 26; refine (HF9.out).mono ?_; rintro e9 w10 ⟨rfl, h10⟩; rw [h10]; clear h10))
    all_goals
      go_wp2_with fail
      go_ret2
      exact ⟨rfl, HB9.out.drew⟩

/-- What a partition that is a volume says: its first sector, how many clusters, its counts. -/
def opnB (d : List Int) : Bt := (parB (secs d 0 1)).1
def opnK (d : List Int) : Nat := (opnB d).clus.toNat
def opnC (d : List Int) : Int × Int := ((parC (secs d (opnB d).info 1)).1, (parC (secs d (opnB d).info 1)).2.1)

/-- Why a partition of a sector at least is no volume (0: it is one). -/
def opnE (d : List Int) : Int :=
  if (parB (secs d 0 1)).2 ≠ 0 then (parB (secs d 0 1)).2
  else if (d.length : Int) < (opnB d).secs * 512 then 4
  else if (opnB d).copy ≠ 0 ∧ secs d (opnB d).copy 1 ≠ secs d 0 1 then 11
  else if (parC (secs d (opnB d).info 1)).2.2 ≠ 0 then (parC (secs d (opnB d).info 1)).2.2
  else if (opnB d).tabs ≠ 1 ∧ secs d ((opnB d).ahead + (opnB d).long) (opnB d).long ≠ secs d (opnB d).ahead (opnB d).long then 11
  else if (opnC d).1 ≠ 4294967295 ∧ (opnC d).1 ≠ frees (numsF (secs d (opnB d).ahead (opnB d).long) (opnK d)) (opnK d) then 23
  else 0

theorem opnE_vol {d : List Int} (h : opnE d = 0) : Vol d (opnB d) (opnK d) (opnC d).1 (opnC d).2 := by
  unfold opnE at h
  split at h
  · rename_i h1; exact absurd h h1
  rename_i h1
  split at h
  · cases h
  rename_i h2
  split at h
  · cases h
  rename_i h3
  split at h
  · rename_i h4; exact absurd h h4
  rename_i h4
  split at h
  · cases h
  rename_i h5
  split at h
  · cases h
  rename_i h6
  have h1' : (parB (secs d 0 1)).2 = 0 := by simpa using h1
  have hpar : parB (secs d 0 1) = (opnB d, 0) := Prod.ext rfl h1'
  refine ⟨hpar, Int.not_lt.1 h2, ?_, ?_, ?_, ?_, ?_⟩
  · by_cases hc : (opnB d).copy = 0
    · exact Or.inl hc
    · right
      by_cases he : secs d (opnB d).copy 1 = secs d 0 1
      · exact he
      · exact absurd ⟨hc, he⟩ h3
  · have h4' : (parC (secs d (opnB d).info 1)).2.2 = 0 := Decidable.not_not.1 h4
    exact Prod.ext rfl (Prod.ext rfl h4')
  · by_cases hc : (opnB d).tabs = 1
    · exact Or.inl hc
    · right
      by_cases he : secs d ((opnB d).ahead + (opnB d).long) (opnB d).long = secs d (opnB d).ahead (opnB d).long
      · exact he
      · exact absurd ⟨hc, he⟩ h5
  · have h9 := (chk_says (parB_chk hpar)).2.1
    unfold opnK
    omega
  · by_cases hc : (opnC d).1 = 4294967295
    · exact Or.inl hc
    · right
      by_cases he : (opnC d).1 = frees (numsF (secs d (opnB d).ahead (opnB d).long) (opnK d)) (opnK d)
      · exact he
      · exact absurd ⟨hc, he⟩ h6

theorem open_any (a : Option Addr) (cap : Nat) (d : List Int) (w : World) (hd : d.length ≤ 1000000000) (hcap : d.length ≤ cap) (hno : a = none → cap = 0) (hl : Lies w a d) (hbd : Byts d) (hV : Vars w) (h0 : 512 ≤ d.length) :
    Calls Tryd.prog 6 #[.iface 34 (.slice a d.length cap)] w fun e w' => ((opnE d = 0 ∧ ∃ R g, e = .returned (.tuple #[.pointer (some ⟨R, 0, none⟩), .int .i64 0]) ∧ Blk w' R (volC (opnB d) g (opnK d) (opnC d).1 (opnC d).2) 68 ∧ (∀ j, j < opnK d → w'.cell? ⟨g, j, none⟩ = some (.int .u32 ((numsF (secs d (opnB d).ahead (opnB d).long) (opnK d)).getD j 0))) ∧ w.heap.size ≤ R ∧ w.heap.size ≤ g) ∨ (opnE d ≠ 0 ∧ e = .returned (.tuple #[.pointer none, .int .i64 (opnE d)]))) ∧ Below w.heap.size w w' := by
  by_cases hE : opnE d = 0
  · exact (open_ok a cap d _ _ _ _ w hd hcap hno hl hbd hV (opnE_vol hE)).mono fun e w' ⟨h1, h2⟩ => ⟨Or.inl ⟨hE, h1⟩, h2⟩
  · refine Calls.mono (R := fun e w' => e = .returned (.tuple #[.pointer none, .int .i64 (opnE d)]) ∧ Below w.heap.size w w') ?_ (fun e w' ⟨h1, h2⟩ => ⟨Or.inr ⟨hE, h1⟩, h2⟩)
    by_cases h1 : (parB (secs d 0 1)).2 = 0
    rotate_left
    · have hx : opnE d = (parB (secs d 0 1)).2 := by unfold opnE; rw [if_pos h1]
      rw [hx]
      exact open_a a cap d.length w _ h1 (hide (oboot_a a cap d (parB (secs d 0 1)).1 w hd hcap hno hl hbd hV h0 _ rfl h1))
    have hp : parB (secs d 0 1) = (opnB d, 0) := Prod.ext rfl h1
    by_cases h2 : (d.length : Int) < (opnB d).secs * 512
    · have hx : opnE d = 4 := by unfold opnE; rw [if_neg (not_not_intro h1)]; exact if_pos h2
      rw [hx]
      exact open_a a cap d.length w 4 (by decide) (hide (oboot_b a cap d (opnB d) w hd hcap hno hl hbd hV h0 hp h2))
    by_cases h3 : (opnB d).copy ≠ 0 ∧ secs d (opnB d).copy 1 ≠ secs d 0 1
    · have hx : opnE d = 11 := by unfold opnE; rw [if_neg (not_not_intro h1), if_neg h2]; exact if_pos h3
      rw [hx]
      exact open_a a cap d.length w 11 (by decide) (hide (oboot_c a cap d (opnB d) w hd hcap hno hl hbd hV h0 hp (by omega) h3))
    have h3' : (opnB d).copy = 0 ∨ secs d (opnB d).copy 1 = secs d 0 1 := by
      by_cases hc : (opnB d).copy = 0
      · exact Or.inl hc
      · right
        by_cases he : secs d (opnB d).copy 1 = secs d 0 1
        · exact he
        · exact absurd ⟨hc, he⟩ h3
    by_cases h4 : (parC (secs d (opnB d).info 1)).2.2 = 0
    rotate_left
    · have hx : opnE d = (parC (secs d (opnB d).info 1)).2.2 := by unfold opnE; rw [if_neg (not_not_intro h1), if_neg h2, if_neg h3]; exact if_pos h4
      rw [hx]
      exact open_b a cap d (opnB d) _ _ _ w hd hcap hno hl hbd hV hp (by omega) h3' rfl h4
    have hp4 : parC (secs d (opnB d).info 1) = ((opnC d).1, (opnC d).2, 0) := Prod.ext rfl (Prod.ext rfl h4)
    by_cases h5 : (opnB d).tabs ≠ 1 ∧ secs d ((opnB d).ahead + (opnB d).long) (opnB d).long ≠ secs d (opnB d).ahead (opnB d).long
    · have hx : opnE d = 11 := by unfold opnE; rw [if_neg (not_not_intro h1), if_neg h2, if_neg h3, if_neg (not_not_intro h4)]; exact if_pos h5
      rw [hx]
      exact open_c a cap d (opnB d) _ _ w hd hcap hno hl hbd hV hp (by omega) h3' hp4 h5.1 h5.2
    have h5' : (opnB d).tabs = 1 ∨ secs d ((opnB d).ahead + (opnB d).long) (opnB d).long = secs d (opnB d).ahead (opnB d).long := by
      by_cases hc : (opnB d).tabs = 1
      · exact Or.inl hc
      · right
        by_cases he : secs d ((opnB d).ahead + (opnB d).long) (opnB d).long = secs d (opnB d).ahead (opnB d).long
        · exact he
        · exact absurd ⟨hc, he⟩ h5
    by_cases h6 : (opnC d).1 ≠ 4294967295 ∧ (opnC d).1 ≠ frees (numsF (secs d (opnB d).ahead (opnB d).long) (opnK d)) (opnK d)
    · have hx : opnE d = 23 := by unfold opnE; rw [if_neg (not_not_intro h1), if_neg h2, if_neg h3, if_neg (not_not_intro h4), if_neg h5]; exact if_pos h6
      rw [hx]
      exact open_d a cap d (opnB d) (opnK d) _ _ w hd hcap hno hl hbd hV hp (by omega) h3' hp4 h5' (by have := (chk_says (parB_chk hp)).2.1; unfold opnK; omega) h6
    · exact absurd (by unfold opnE; rw [if_neg (not_not_intro h1), if_neg h2, if_neg h3, if_neg (not_not_intro h4), if_neg h5]; exact if_neg h6) hE
end Go.Proofs.YtcbbaoiefdbcpaaDoor.Oct
