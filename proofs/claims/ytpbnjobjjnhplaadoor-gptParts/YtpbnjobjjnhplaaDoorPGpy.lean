/- The document's entries as bytes. -/
import Derived.Test.YtpbnjobjjnhplaaDoorPGpvGpm
import Derived.Test.YtpbnjobjjnhplaaDoorPGpn
namespace Go.Proofs.YtpbnjobjjnhplaaDoor.Oct
open Go.RowKit

theorem bytL_snoc (L : List E4) (k : Nat) (x : E4) (h : L[k]? = some x) : bytL (L.take (k + 1)) = bytL (L.take k) ++ x.ids ++ bytesOf x.fi 8 ++ bytesOf x.la 8 ++ x.rest := by
  rw [List.take_add_one, h, Option.toList_some]
  unfold bytL
  rw [List.flatMap_append, List.flatMap_cons, List.flatMap_nil, List.append_nil]
  simp [entB, entP]

set_option maxHeartbeats 8000000 in
set_option maxRecDepth 100000 in
theorem rbytes_any (L : List E4) (a : Option Addr) (cap : Nat) (hok : ∀ x ∈ L, x.ok) (hlow : ∀ x ∈ L, x.low) (hlen : L.length ≤ 1000) (w : World) (hl : LiesD w a L) :
    Calls Tryd.prog 46 #[.slice a L.length cap] w fun e w' => (∃ v, e = .returned v ∧ Own w' w.heap.size v (bytL L)) ∧ Below w.heap.size w w' := by
  obtain ⟨n, hn⟩ : ∃ n, n = L.length := ⟨_, rfl⟩
  have HHn := hide hn
  rw [← hn]
  have HOk := hide hok
  have HLo := hide hlow
  have HL := hide hl
  have HLe := hide (show ∀ k, (bytL (L.take k)).length ≤ 128000 from fun k => by
    rw [bytL_len _ (fun x hx => hok x (List.mem_of_mem_take hx)), List.length_take]
    omega)
  have HB8 := fun (v : Int) (u : World) (h0 : 0 ≤ v) (h1 : v ≤ 8388608) => hide (Bytes_any v 8 u (by omega) h0 (by omega))
  have hn1 : n ≤ 1000 := by omega
  clear hok hlow hl hn hlen
  go_enter Tryd.func46, Tryd.ntmps46
  go_wp2_with fail
  go_loopw [3, 4] (fun v i wr => ∃ k : Nat, k ≤ n ∧ i = .int .i64 (k : Int) ∧ Own wr w.heap.size v (bytL (L.take k)) ∧ Below w.heap.size w wr) (fun _ i _ => n - (intOf i).toNat)
  case atStart => exact ⟨0, by omega, by simp, Own.nil _ _, Below.refl _ _⟩
  case round =>
    obtain ⟨k, hk, rfl, how, hbr⟩ := hrel
    have HOw := hide how
    have HBr := hide hbr
    clear how hbr
    by_cases hlt : k < n
    case neg =>
      obtain rfl : k = n := by omega
      have HEn := hide (show bytL (L.take k) = bytL L by rw [HHn.out, List.take_length])
      go_wp2_with fail
      go_ret
      exact ⟨⟨_, rfl, by rw [← HEn.out]; exact HOw.out⟩, HBr.out⟩
    obtain ⟨x, hx⟩ : ∃ x, L[k]? = some x := ⟨_, List.getElem?_eq_getElem (by rw [← HHn.out]; exact hlt)⟩
    have hxm : x ∈ L := List.mem_of_getElem? hx
    have HXo := hide (HOk.out x hxm)
    have HXl := hide (HLo.out x hxm)
    have HSk := hide (bytL_snoc L k x hx)
    rcases HL.out with hnil | ⟨b, off, rfl, hb, hc⟩
    · rw [hnil] at hx; simp at hx
    obtain ⟨v1, v2, q0, q1, q2, q3, ⟨a1, d1, rfl, s1⟩, ⟨a2, d2, rfl, s2⟩⟩ := hc k x hx
    have HS1 := hide s1
    have HS2 := hide s2
    rw [HXo.out.1] at q0
    rw [HXo.out.2] at q3
    have HQ := fun u (hu : Below w.heap.size w u) => hide (show u.cell? ⟨b, off + k * 4, none⟩ = _ ∧ u.cell? ⟨b, off + k * 4 + 1, none⟩ = _ ∧ u.cell? ⟨b, off + k * 4 + 2, none⟩ = _ ∧ u.cell? ⟨b, off + k * 4 + 3, none⟩ = _ from ⟨(hu.cell (p := ⟨b, _, none⟩) hb).trans q0, (hu.cell (p := ⟨b, _, none⟩) hb).trans q1, (hu.cell (p := ⟨b, _, none⟩) hb).trans q2, (hu.cell (p := ⟨b, _, none⟩) hb).trans q3⟩)
    have hk0 : (0 : Int) ≤ (k : Int) := by omega
    have hk1 : (k : Int) < (n : Int) := by omega
    have e1 : IntKind.u64.wrap x.fi = x.fi := by have := HXl.out.1; rw [IntKind.wrap_u64]; omega
    have e2 : IntKind.u64.wrap x.la = x.la := by have := HXl.out.2; rw [IntKind.wrap_u64]; omega
    obtain ⟨fi, hfi⟩ : ∃ fi, fi = x.fi := ⟨_, rfl⟩
    obtain ⟨la, hla⟩ : ∃ la, la = x.la := ⟨_, rfl⟩
    have HFi := hide hfi
    have HLa := hide hla
    rw [← hfi] at e1 HQ HSk
    rw [← hla] at e2 HQ HSk
    have HC1 := fun u => HB8 fi u (by rw [HFi.out]; exact HXl.out.1.1) (by rw [HFi.out]; exact HXl.out.1.2)
    have HC2 := fun u => HB8 la u (by rw [HLa.out]; exact HXl.out.2.1) (by rw [HLa.out]; exact HXl.out.2.2)
    have HL0 := hide (HLe.out k)
    have HI := hide HXo.out.1
    have HR := hide HXo.out.2
    clear hc hb hx hxm s1 s2 q0 q1 q2 q3 hfi hla
    obtain ⟨q0, q1, q2, q3⟩ := (HQ _ HBr.out).out
    go_upto_region 6 with (at_builtin; refine wpList_append_bytes rfl _ _ 31 rfl Tryd.underlying31 info5 w.heap.size _ (bytL (L.take k)) rfl HOw.out _ _ _ x.ids rfl HI.out.symm (HS1.out.below HBr.out).lies (by have := HL0.out; have := HI.out; omega) HBr.out.size ?_; intro v5 w5 h5 g5)
    have HO5 := hide h5
    have HB5 := hide (Own.behind HOw.out HBr.out g5 HBr.out.size)
    clear h5 g5 q0 q1 q2 q3
    obtain ⟨q0, q1, q2, q3⟩ := (HQ _ HB5.out).out
    go_upto_region 7 with (first | (go_at_call 50; refine (HC1 _).out.mono ?_; rintro e w6 ⟨r6, rfl, ho6, hb6⟩; have HO6 := hide (HO5.out.below hb6); have HB6 := hide (HB5.out.trans (hb6.mono HB5.out.size)); obtain ⟨a6, c6, rfl, hl6, _⟩ := ho6.form; have HL6 := hide hl6; clear ho6 hb6 hl6) | (at_builtin; refine wpList_append_bytes rfl _ _ 31 rfl Tryd.underlying31 info5 w.heap.size _ (bytL (L.take k) ++ x.ids) rfl HO6.out _ _ _ (bytesOf fi 8) rfl rfl HL6.out (by have := HL0.out; have := HI.out; simp only [List.length_append, bytesOf_length]; omega) HB6.out.size ?_; intro v7 w7 h7 g7))
    have HO7 := hide h7
    have HB7 := hide (Own.behind HO6.out HB6.out g7 HB6.out.size)
    clear h7 g7 q0 q1 q2 q3
    obtain ⟨q0, q1, q2, q3⟩ := (HQ _ HB7.out).out
    go_upto_region 8 with (first | (go_at_call 50; refine (HC2 _).out.mono ?_; rintro e w8 ⟨r8, rfl, ho8, hb8⟩; have HO8 := hide (HO7.out.below hb8); have HB8' := hide (HB7.out.trans (hb8.mono HB7.out.size)); obtain ⟨a8, c8, rfl, hl8, _⟩ := ho8.form; have HL8 := hide hl8; clear ho8 hb8 hl8) | (at_builtin; refine wpList_append_bytes rfl _ _ 31 rfl Tryd.underlying31 info5 w.heap.size _ (bytL (L.take k) ++ x.ids ++ bytesOf fi 8) rfl HO8.out _ _ _ (bytesOf la 8) rfl rfl HL8.out (by have := HL0.out; have := HI.out; simp only [List.length_append, bytesOf_length]; omega) HB8'.out.size ?_; intro v9 w9 h9 g9))
    have HO9 := hide h9
    have HB9 := hide (Own.behind HO8.out HB8'.out g9 HB8'.out.size)
    clear h9 g9 q0 q1 q2 q3
    obtain ⟨q0, q1, q2, q3⟩ := (HQ _ HB9.out).out
    go_wp2_with (at_builtin; refine wpList_append_bytes rfl _ _ 31 rfl Tryd.underlying31 info5 w.heap.size _ (bytL (L.take k) ++ x.ids ++ bytesOf fi 8 ++ bytesOf la 8) rfl HO9.out _ _ _ x.rest rfl HR.out.symm (HS2.out.below HB9.out).lies (by have := HL0.out; have := HI.out; have := HR.out; simp only [List.length_append, bytesOf_length]; omega) HB9.out.size ?_; intro v10 w10 h10 g10)
    have HB10 := hide (Own.behind HO9.out HB9.out g10 HB9.out.size)
    have HO10 := hide h10
    clear h10 g10 q0 q1 q2 q3
    go_roundw
    case rel => exact ⟨k + 1, by omega, by go_num, by rw [HSk.out]; exact HO10.out, HB10.out⟩
    case measure => simp [intOf]; omega
end Go.Proofs.YtpbnjobjjnhplaaDoor.Oct
