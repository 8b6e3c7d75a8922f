/- A header read off a disk. -/
import Derived.Test.YtpbnjobjjnhplaaDoorPGprGps
import Derived.Great.BuildSlice
import Derived.Test.YtpbnjobjjnhplaaDoorPGpuGpx
namespace Go.Proofs.YtpbnjobjjnhplaaDoor.Oct
open Go.RowKit

/-- A slice literal of one entry. -/
theorem wpList_buildEnt {ops : Array Oper} {rest : List Oper} {o : Oper} {a : Act} {w : World} {Q : Exit → Act → World → Prop} (hg : o.guard = none) (t : TypeId) (ht : Tryd.prog.underlying t = some (.slice 66)) (parts : Array (Nat × Operand)) (ho : o.op = .buildSlice t 1 parts)
    (zs : Array Value) (hs : zs.size = 114) (hp : (parts.map fun (i, x) => (i, a.eval x)).toList = [(0, .agg zs)])
    (h : wpList Tryd.prog ops Q rest (a.put o.dst (.slice (some ⟨w.heap.size, 0, none⟩) 1 1)) (w.alloc (.cells zs 66))) : wpList Tryd.prog ops Q (o :: rest) a w := by
  obtain ⟨i, hi, hz0, hz1, hz2⟩ := info_parts infoG
  refine wpList_buildSlice hg t 66 1 parts ho zs i (.agg Tryd.zeroCells66) ht hi hz0 (by rw [hz1]; decide) (by rw [hz1]; decide) ?_ h
  rw [hp, hz1]
  have hf := Go.Great.fill_whole (s := 114) (by decide) [Value.agg zs] ((Array.range (1 * 114)).map ((Value.agg Tryd.zeroCells66).cells[· % (Value.agg Tryd.zeroCells66).cells.size]!)) (by intro v hv; simp at hv; rw [hv]; exact hs) (by simp)
  have e : (([Value.agg zs].zipIdx 0).map fun x => (x.2, x.1)) = [(0, Value.agg zs)] := rfl
  rw [e] at hf
  rw [hf]
  simp [Value.cells]

set_option maxHeartbeats 8000000 in
set_option maxRecDepth 100000 in
theorem decodeList_any (b off cap n : Nat) (l : List Int) (w : World) (hlen : l.length = 128 * n) (hn : n ≤ 128) (hcap : 128 * n ≤ cap) (hcm : cap ≤ maxLen) (hb : Byts l) (hl : Lies w (some ⟨b, off, none⟩) l) :
    Calls Tryd.prog 71 #[.slice (some ⟨b, off, none⟩) (128 * n) cap] w fun e w' => (∃ v, e = .returned v ∧ OwnG w' w.heap.size v (entsOf l n)) ∧ Below w.heap.size w w' := by
  obtain ⟨N, hN⟩ : ∃ N, N = 128 * n := ⟨_, rfl⟩
  have HE := fun (k : Nat) (hk : k < n) (u : World) (hu : Lies u (some ⟨b, off, none⟩) l) => hide (decodeEntry_any b (off + 128 * k) (cap - 128 * k) ((l.drop (128 * k)).take 128) u (by rw [List.length_take, List.length_drop]; omega) (by omega) (by omega) ((hb.drop _).take _) (seg_lies hu (128 * k) 128))
  have HOk := fun (k : Nat) (hk : k < n) => hide (entOf_ok ((l.drop (128 * k)).take 128) (by rw [List.length_take, List.length_drop]; omega))
  rw [← hN] at hcap ⊢
  have HL := hide hl
  have HN := hide hN
  have HCap := hide (And.intro hcap hcm)
  have hNs : N ≤ 16384 := by omega
  unfold maxLen at hcm
  clear hlen hb hl hN
  go_enter Tryd.func71, Tryd.ntmps71
  go_wp2_with fail
  go_loopw [3, 4] (fun v i wr => ∃ k : Nat, k ≤ n ∧ i = .int .i64 ((128 * k : Nat) : Int) ∧ OwnG wr w.heap.size v (entsOf l k) ∧ Below w.heap.size w wr) (fun _ i _ => N - (intOf i).toNat)
  case atStart => exact ⟨0, by omega, by simp, OwnG.nil _ _, Below.refl _ _⟩
  case round =>
    obtain ⟨k, hk, rfl, how, hbe⟩ := hrel
    have HOw := hide how
    have HBe := hide hbe
    clear how hbe
    obtain ⟨p, hp⟩ : ∃ p, p = 128 * k := ⟨_, rfl⟩
    have HP := hide hp
    rw [← hp]
    by_cases hlt : k < n
    case neg =>
      obtain rfl : k = n := by omega
      have hpN : p = N := by rw [hp, HN.out]
      rw [hpN]
      clear hp hpN
      go_wp2_with fail
      go_ret
      exact ⟨⟨_, rfl, HOw.out⟩, HBe.out⟩
    have hC := HE k hlt
    have HZo := HOk k hlt
    have HSuc := hide (entsOf_succ l k)
    have HLen := hide (entsOf_len l k)
    rw [← hp] at hC HZo HSuc
    obtain ⟨z, hz⟩ : ∃ z, z = entOf ((l.drop p).take 128) := ⟨_, rfl⟩
    rw [← hz] at hC HZo HSuc
    obtain ⟨zs, hzs⟩ : ∃ zs, zs = z.cells.toArray := ⟨_, rfl⟩
    rw [← hzs] at hC
    have HZs := hide hzs
    have p1 : (p : Int) < (N : Int) := by have := HN.out; omega
    have e1 : IntKind.i64.wrap ((p : Int) + 128) = ((p + 128 : Nat) : Int) := by rw [IntKind.wrap_i64]; omega
    have p2 : ¬ (cap : Int) < ((p + 128 : Nat) : Int) := by have := HCap.out.1; have := HN.out; omega
    have p3 : ¬ ((p + 128 : Nat) : Int) < (p : Int) := by omega
    have HL1 := hide (HL.out.below HBe.out)
    clear hp hz hzs
    go_wp2_with fail
    refine (hC _ HL1.out).out.mono ?_
    rintro e9 w5 ⟨rfl, h5⟩
    have HO5 := hide (OwnG.below HOw.out h5)
    have HB5 := hide (HBe.out.trans (h5.mono HBe.out.size))
    clear h5 HOw HBe
    have hb6 : Below w5.heap.size w5 (w5.alloc (.cells zs 66)) := (Below.refl _ _).alloc (Nat.le_refl _) _
    have HO6 := hide (OwnG.below HO5.out hb6)
    have HB6 := hide (HB5.out.trans (hb6.mono HB5.out.size))
    have HN6 := hide (Blk.new w5 zs 66)
    have HLn := hide (show (entsOf l k).length + 1 ≤ 10000000 by rw [HLen.out]; omega)
    have HSz := hide (show zs.size = 114 by rw [HZs.out]; exact E4.cells_len HZo.out)
    obtain ⟨w6, hw6⟩ : ∃ w6, w6 = w5.alloc (.cells zs 66) := ⟨_, rfl⟩
    obtain ⟨X, hX⟩ : ∃ X, X = w5.heap.size := ⟨_, rfl⟩
    rw [← hw6] at HO6 HB6 HN6
    rw [← hX] at HN6
    have HW6 := hide hw6
    have HX := hide hX
    have HLb := hide (show w5.heap.size ≤ w6.heap.size by rw [hw6]; exact hb6.size)
    clear hb6 hw6 hX
    go_wp2_with (first | (refine wpList_isop (.buildSlice 23 1 #[(0, .tmp 17)]) rfl ?_; refine wpList_buildEnt rfl 23 Tryd.underlying23 _ rfl zs HSz.out (by kernel_rfl) ?_; rw [← HW6.out, ← HX.out]) | (refine wpList_isop (.call { callee := .builtin .append, args := #[.tmp 11, .tmp 18], argTypes := #[23, 23] }) rfl ?_; refine wpList_append_En rfl (.tmp 11) (.tmp 18) 23 rfl Tryd.underlying23 w.heap.size _ _ rfl HO6.out X 1 z HZo.out rfl ?_ HLn.out HB6.out.size ?_; (· intro j u hj; exact HN6.out.cell j u (by rw [HZs.out]; simpa using hj)); intro v8 w8 h8 g8; have HO8 := hide h8; have HB8 := hide (HB6.out.grown g8 HB6.out.size (fun g hg => OwnG.baseG HO6.out g hg)); clear h8 g8))
    go_roundw
    case rel => exact ⟨k + 1, by omega, by rw [show ((p : Int) + 128) = ((128 * (k + 1) : Nat) : Int) by have := HP.out; omega], by rw [HSuc.out]; exact HO8.out, HB8.out⟩
    case measure => simp [intOf]; have := HN.out; have := HP.out; omega
end Go.Proofs.YtpbnjobjjnhplaaDoor.Oct

namespace Go.Proofs.YtpbnjobjjnhplaaDoor.Oct
open Go.RowKit

theorem hd_size {h : Hd} (hid : h.id.length = 16) : h.cells.toArray.size = 23 := by
  unfold Hd.cells
  simp only [List.size_toArray, List.length_append, List.length_map, hid, List.length_cons, List.length_nil]

/-- The zero header's cells. -/
abbrev z23 : Array Value := #[.int .i64 0, .int .i64 0, .int .u8 0, .int .u8 0, .int .u8 0, .int .u8 0, .int .u8 0, .int .u8 0, .int .u8 0, .int .u8 0, .int .u8 0, .int .u8 0, .int .u8 0, .int .u8 0, .int .u8 0, .int .u8 0, .int .u8 0, .int .u8 0, .int .i64 0, .int .u32 0, .int .i64 0, .int .i64 0, .int .i64 0]

theorem own_at {w : World} {B : Nat} {v : Value} {l : List Int} (h : Own w B v l) (hn : l ≠ []) : ∃ g c, v = .slice (some ⟨g, 0, none⟩) l.length c ∧ Lies w (some ⟨g, 0, none⟩) l ∧ l.length ≤ c ∧ c ≤ maxLen := by
  obtain ⟨a, c, h1, h2, _, h4, h5, h6⟩ := h.form
  obtain ⟨g, rfl, _, _⟩ := h6 hn
  exact ⟨g, c, h1, h2, h4, h5⟩

set_option maxHeartbeats 8000000 in
set_option maxRecDepth 100000 in
theorem shead_ok (b off cap : Nat) (d : List Int) (s : Int) (k : Nat) (w : World) (hd : d.length ≤ 1000000000) (hcap : d.length ≤ cap) (hb : Byts d) (hl : Lies w (some ⟨b, off, none⟩) d) (hV : VarG w) (hk : 512 * k + 512 ≤ d.length) :
    Calls Tryd.prog 52 #[srcV b off d.length cap s, .int .i64 (k : Int)] w fun e w' => e = .returned (.tuple #[.agg (decG (secD d k)).1.cells.toArray, .int .i64 (decG (secD d k)).2]) ∧ Below w.heap.size w w' := by
  unfold srcV
  have hsl := secD_len hk
  have hsb := secD_byts k hb
  have HR := fun (u : World) (hu : Lies u (some ⟨b, off, none⟩) d) => hide (show Calls Tryd.prog 68 #[srcV b off d.length cap s, .int .i64 (k : Int), .int .i64 512] u fun e w' => (∃ v, e = .returned (.tuple #[v, .int .i64 0]) ∧ Own w' u.heap.size v (secD d k)) ∧ Below u.heap.size u w' by
    have h := sread_ok b off cap d s (k : Int) (512 * k) 512 u (by omega) hd hcap hu (by omega) hk
    rw [show ((512 : Nat) : Int) = 512 from rfl] at h
    exact h)
  have HDh := fun (u : World) (g c : Nat) (h1 : 512 ≤ c) (h2 : c ≤ maxLen) (hu : Lies u (some ⟨g, 0, none⟩) (secD d k)) (hv : VarG u) => hide (decodeHead_any g 0 c (secD d k) u hsl h1 h2 hsb hu hv)
  have HSl := hide hsl
  have HNe := hide (show secD d k ≠ [] by intro h; rw [h] at hsl; cases hsl)
  obtain ⟨l, hl'⟩ : ∃ l, l = secD d k := ⟨_, rfl⟩
  rw [← hl'] at HR HDh HSl HNe ⊢
  have hCs : (decG l).1.cells.toArray.size = 23 := hd_size (decG_id HSl.out)
  have hCo := hd_one (decG l).1
  obtain ⟨C, hC⟩ : ∃ C, C = (decG l).1.cells.toArray := ⟨_, rfl⟩
  rw [← hC] at HDh hCs hCo ⊢
  have HCs := hide hCs
  have HCo := hide hCo
  obtain ⟨er, her⟩ : ∃ er, er = (decG l).2 := ⟨_, rfl⟩
  rw [← her] at HDh ⊢
  obtain ⟨n, hn⟩ : ∃ n, n = d.length := ⟨_, rfl⟩
  rw [← hn] at HR ⊢
  have hsz1 : (w.alloc (.cells #[.iface 41 (.slice (some ⟨b, off, none⟩) n cap), .int .i64 s] 83)).heap.size = w.heap.size + 1 := by simp
  obtain ⟨R, hR⟩ : ∃ R, R = w.heap.size + 1 := ⟨_, rfl⟩
  obtain ⟨w2, hw2⟩ : ∃ w2, w2 = (w.alloc (.cells #[.iface 41 (.slice (some ⟨b, off, none⟩) n cap), .int .i64 s] 83)).alloc (.cells z23 105) := ⟨_, rfl⟩
  have hb1 : Below w.heap.size w (w.alloc (.cells #[.iface 41 (.slice (some ⟨b, off, none⟩) n cap), .int .i64 s] 83)) := (Below.refl _ _).alloc (Nat.le_refl _) _
  have hb2 : Below w.heap.size w w2 := by rw [hw2]; exact hb1.alloc hb1.size _
  have hk2 : Blk w2 R z23 105 := by rw [hw2, hR, ← hsz1]; exact Blk.new _ _ _
  have hx := Blk.new w #[.iface 41 (.slice (some ⟨b, off, none⟩) n cap), .int .i64 s] 83
  have hb12 : Below (w.alloc (.cells #[.iface 41 (.slice (some ⟨b, off, none⟩) n cap), .int .i64 s] 83)).heap.size (w.alloc (.cells #[.iface 41 (.slice (some ⟨b, off, none⟩) n cap), .int .i64 s] 83)) w2 := by rw [hw2]; exact (Below.refl _ _).alloc (Nat.le_refl _) _
  have hx2 : Blk w2 w.heap.size #[.iface 41 (.slice (some ⟨b, off, none⟩) n cap), .int .i64 s] 83 := hx.below hb12
  have y0 := hx2.cell 0 _ rfl
  have y1 := hx2.cell 1 _ rfl
  have HRl := hide (show w.heap.size ≤ R by rw [hR]; omega)
  have HRe := hide hR
  have HW2 := hide hw2
  have HB2 := hide hb2
  have HK2 := hide hk2
  have HL2 := hide (hl.below hb2)
  have HV2 := hide (hV.below hb2)
  have HZ := hide (show (z23 : Array Value).size = 23 by kernel_rfl)
  clear hsz1 hd hcap hb hl hV hk hsl hsb hl' hCs hCo hC her hn hR hw2 hb1 hb2 hk2 hx hb12 hx2
  go_enter Tryd.func52, Tryd.ntmps52
  go_upto_region 1 with fail
  rw [← HRe.out, ← HW2.out]
  go_upto_region 4 with (go_at_call 68; refine (HR _ HL2.out).out.mono ?_; rintro e9 w3 ⟨⟨v3, rfl, ho⟩, h3⟩; obtain ⟨g3, c3, rfl, hl3, hc3, hm3⟩ := own_at ho HNe.out; rw [HSl.out] at hc3 ⊢; have HL3 := hide hl3; have HC3 := hide (And.intro hc3 hm3); have HB3 := hide (HB2.out.trans (h3.mono HB2.out.size)); have HK3 := hide (HK2.out.below h3); have HV3 := hide (HV2.out.below h3); clear ho h3 hl3 hc3 hm3)
  go_wp2_with (first | (go_at_call 69; refine (HDh _ _ _ HC3.out.1 HC3.out.2 HL3.out HV3.out).out.mono ?_; rintro e9 w4 ⟨rfl, h4⟩; have HB4 := hide (HB3.out.trans (h4.mono HB3.out.size)); have HK4 := hide (HK3.out.below h4); clear h4) | (refine wpList_isop (.store 105 (.tmp 4) (.tmp 20)) rfl ?_; refine wpList_store_row rfl 105 (.tmp 4) (.tmp 20) rfl R C rfl rfl 105 _ HK4.out (by rw [HCs.out]; kernel_rfl) (by rw [HCs.out]; exact HZ.out) HCo.out ?_))
  refine bodyPost_ret (ret_hd rfl _ _ R C HCs.out _ rfl rfl (setRow_blk HK4.out _)) rfl ⟨?_, setrow_belowG HB4.out HRl.out⟩
  rfl
end Go.Proofs.YtpbnjobjjnhplaaDoor.Oct
