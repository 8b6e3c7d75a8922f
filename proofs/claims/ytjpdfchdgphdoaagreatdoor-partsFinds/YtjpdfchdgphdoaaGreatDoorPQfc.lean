/- What is answered without a disk. -/
import Derived.Test.YtjpdfchdgphdoaaGreatDoorPQpf
namespace Go.Proofs.YtjpdfchdgphdoaaGreatDoor.Oct
open Go.RowKit

set_option maxHeartbeats 1000000 in
set_option maxRecDepth 100000 in
theorem parse_nil (w : World) : Calls Tryz.prog 27 #[.nilIface] w fun e w' => e = .returned (.tuple #[.agg #[.slice none 0 0, .slice none 0 0, .int .i64 0, .int .i64 0, .bool false], .int .i64 2]) ∧ Below w.heap.size w w' := by
  have hb := (Below.refl w.heap.size w).alloc (Nat.le_refl _) (.cells #[.slice none 0 0, .slice none 0 0, .int .i64 0, .int .i64 0, .bool false] 57)
  have hq := Blk.new w #[.slice none 0 0, .slice none 0 0, .int .i64 0, .int .i64 0, .bool false] 57
  have hnil : ∀ (u : World), (binOp .eql 29 .nilIface .nilIface).run Tryz.prog u = .ok (.bool true) u := fun u => by rfl
  have f0 := hq.frozen 0
  have f1 := hq.frozen 1
  have f2 := hq.frozen 2
  have f3 := hq.frozen 3
  have f4 := hq.frozen 4
  have HQ := hide hq
  have HB := hide hb
  clear hq hb
  go_enter Tryz.func27, Tryz.ntmps27
  go_wp2_with fail
  refine bodyPost_ret (ret_agg rfl _ _ w.heap.size #[.slice none 0 0, .slice none 0 0, .int .i64 0, .int .i64 0, .bool false] _ rfl rfl (run_loadVar_row _ w.heap.size 57 57 _ (0, 0) _ HQ.out Tryz.underlying57 rfl (by kernel_rfl))) rfl ?_
  exact ⟨rfl, HB.out⟩

set_option maxHeartbeats 1000000 in
set_option maxRecDepth 100000 in
theorem window_nil (w : World) : Calls Tryz.prog 7 #[.nilIface, .agg #[.int .i64 0, .int .i64 0]] w fun e w' => e = .returned (.tuple #[.nilIface, .int .i64 2]) ∧ Below w.heap.size w w' := by
  have HB := hide ((Below.refl w.heap.size w).alloc (Nat.le_refl _) (.cells #[.int .i64 0, .int .i64 0] 24))
  have hnil : ∀ (u : World), (binOp .eql 29 .nilIface .nilIface).run Tryz.prog u = .ok (.bool true) u := fun u => by rfl
  go_enter Tryz.func7, Tryz.ntmps7
  go_wp2_with fail
  go_ret2
  exact ⟨rfl, HB.out⟩

set_option maxHeartbeats 1000000 in
set_option maxRecDepth 100000 in
theorem content_nil (w : World) : Calls Tryz.prog 9 #[.nilIface, .agg #[.string ⟨#[]⟩, .int .i64 0, .int .i64 0, .slice none 0 0]] w fun e w' => e = .returned (.tuple #[.slice none 0 0, .int .i64 2]) ∧ Below w.heap.size w w' := by
  have HB := hide ((Below.refl w.heap.size w).alloc (Nat.le_refl _) (.cells #[.string ⟨#[]⟩, .int .i64 0, .int .i64 0, .slice none 0 0] 42))
  have hnil : ∀ (u : World), (binOp .eql 29 .nilIface .nilIface).run Tryz.prog u = .ok (.bool true) u := fun u => by rfl
  go_enter Tryz.func9, Tryz.ntmps9
  go_wp2_with fail
  go_ret2
  exact ⟨rfl, HB.out⟩

/-- A map of nothing. -/
def zeroM : Array Value := #[.int .i64 0, .slice none 0 0, .slice none 0 0, .slice none 0 0, .slice none 0 0, .slice none 0 0, .int .i64 0, .int .i64 0, .bool false, .int .i64 0, .int .i64 0, .int .i64 0, .int .u8 0, .int .u8 0, .int .u8 0, .int .u8 0, .int .u8 0, .int .u8 0, .int .u8 0, .int .u8 0, .int .u8 0, .int .u8 0, .int .u8 0, .int .u8 0, .int .u8 0, .int .u8 0, .int .u8 0, .int .u8 0, .slice none 0 0, .int .i64 0, .int .i64 0]

set_option maxHeartbeats 4000000 in
set_option maxRecDepth 100000 in
theorem pparse_nil (w : World) : Calls Tryz.prog 14 #[.nilIface] w fun e w' => e = .returned (.tuple #[.agg zeroM, .int .i64 2]) ∧ Below w.heap.size w w' := by
  have hz : Blk (w.alloc (.cells #[.int .i64 0, .slice none 0 0, .slice none 0 0, .slice none 0 0, .slice none 0 0, .slice none 0 0, .int .i64 0, .int .i64 0, .bool false, .int .i64 0, .int .i64 0, .int .i64 0, .int .u8 0, .int .u8 0, .int .u8 0, .int .u8 0, .int .u8 0, .int .u8 0, .int .u8 0, .int .u8 0, .int .u8 0, .int .u8 0, .int .u8 0, .int .u8 0, .int .u8 0, .int .u8 0, .int .u8 0, .int .u8 0, .slice none 0 0, .int .i64 0, .int .i64 0] 63)) w.heap.size zeroM 63 := Blk.new _ _ _
  have HB := hide ((Below.refl w.heap.size w).alloc (Nat.le_refl _) (.cells #[.int .i64 0, .slice none 0 0, .slice none 0 0, .slice none 0 0, .slice none 0 0, .slice none 0 0, .int .i64 0, .int .i64 0, .bool false, .int .i64 0, .int .i64 0, .int .i64 0, .int .u8 0, .int .u8 0, .int .u8 0, .int .u8 0, .int .u8 0, .int .u8 0, .int .u8 0, .int .u8 0, .int .u8 0, .int .u8 0, .int .u8 0, .int .u8 0, .int .u8 0, .int .u8 0, .int .u8 0, .int .u8 0, .slice none 0 0, .int .i64 0, .int .i64 0] 63))
  have HZ := hide hz
  have HPn := fun u => hide (parse_nil u)
  have H1c : Hid (zeroM.all (·.oneCell') = true) := hide (by simp [zeroM, Value.oneCell'])
  have H1i : Hid ((Tryz.prog.info? 63).map (·.size) = some zeroM.size) := hide (by kernel_rfl)
  have hbu : Tryz.prog.built 63 [] = some zeroM := by kernel_rfl
  have HBu := hide hbu
  clear hz hbu
  go_enter Tryz.func14, Tryz.ntmps14
  go_wp2_with fail
  refine (HPn _).out.mono ?_
  rintro e9 w1 ⟨rfl, hb1⟩
  have HZ1 := hide (HZ.out.below hb1)
  have HB1 := hide (HB.out.trans (hb1.mono HB.out.size))
  have hb2 : Below w1.heap.size w1 (w1.alloc (.cells #[.slice none 0 0, .slice none 0 0, .int .i64 0, .int .i64 0, .bool false] 57)) := (Below.refl _ _).alloc (Nat.le_refl _) _
  obtain ⟨w2, hw2⟩ : ∃ w2, w2 = w1.alloc (.cells #[.slice none 0 0, .slice none 0 0, .int .i64 0, .int .i64 0, .bool false] 57) := ⟨_, rfl⟩
  rw [← hw2] at hb2
  have HZ2 := hide (HZ1.out.below hb2)
  have HB2 := hide (HB1.out.trans (hb2.mono HB1.out.size))
  have HZ2' : Hid (Blk (w1.alloc (.cells #[.slice none 0 0, .slice none 0 0, .int .i64 0, .int .i64 0, .bool false] 57)) w.heap.size zeroM 63) := hide (by rw [← hw2]; exact HZ2.out)
  have HW2 := hide hw2
  have hc3 : Chg (fun i => i = w.heap.size) w2 (w2.setRow w.heap.size zeroM) := ⟨rfl, rfl, rfl, by simp, fun k _ hk => setRow_other _ _ k _ hk⟩
  have HB3 := hide (HB2.out.trans (Chg.below w.heap.size hc3 HB2.out.size (fun i hi e => by omega)))
  clear hb1 hb2 hw2 hc3
  go_wp2_with (first | (refine wpList_at (.build 63 #[]) rfl ?_; refine wpList_built rfl 63 #[] rfl _ rfl _ HBu.out ?_) | (refine wpList_at (.store 63 (.tmp 2) (.tmp 14)) rfl ?_; refine wpList_store_row rfl 63 (.tmp 2) (.tmp 14) rfl w.heap.size zeroM rfl rfl 63 zeroM HZ2'.out H1i.out rfl H1c.out ?_))
  rw [← HW2.out]
  refine bodyPost_ret (ret_agg rfl _ _ w.heap.size zeroM _ rfl rfl (run_loadVar_row _ w.heap.size 63 63 _ (0, 0) _ (setRow_heap _ _ _ _ _ _ HZ2.out) Tryz.underlying63 rfl H1i.out)) rfl ?_
  exact ⟨rfl, HB3.out⟩
end Go.Proofs.YtjpdfchdgphdoaaGreatDoor.Oct
