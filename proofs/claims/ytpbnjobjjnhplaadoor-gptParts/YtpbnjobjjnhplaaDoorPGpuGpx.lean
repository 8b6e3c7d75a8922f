/- A disk that is bytes: its Size and Read; a sector's header. -/
import Derived.Test.YtpbnjobjjnhplaaDoorPGprGps
import Derived.Test.YtpbnjobjjnhplaaDoorPGpq
import Derived.Test.YtpbnjobjjnhplaaDoorPGpj
import Derived.Test.YtpbnjobjjnhplaaDoorPAppChg
import Derived.Lib.SliceRun
namespace Go.Proofs.YtpbnjobjjnhplaaDoor.Oct
open Go.RowKit

/-- A disk's sector. -/
def secD (d : List Int) (k : Nat) : List Int := (d.drop (512 * k)).take 512

theorem secD_len {d : List Int} {k : Nat} (h : 512 * k + 512 ≤ d.length) : (secD d k).length = 512 := by unfold secD; rw [List.length_take, List.length_drop]; omega
theorem secD_byts {d : List Int} (k : Nat) (h : Byts d) : Byts (secD d k) := (h.drop _).take _

/-- The bytes of the entries that a header leads to. -/
def bytD (d : List Int) (h : Hd) : List Int := (d.drop (512 * h.at_.toNat)).take (128 * h.cnt.toNat)

/-- What is wrong with them. -/
def lstG (d : List Int) (h : Hd) : Int :=
  if h.at_ * 512 + h.cnt * 128 ≤ d.length then (if h.sum = moreC 0 (bytD d h) then 0 else 12) else 4

/-- What both headers say alike. -/
def Hd.said (h : Hd) : Int × Int × List Int × Int × Int := (h.fst, h.lst, h.id, h.cnt, h.sum)

def zTb : Tb := ⟨0, 0, 0, List.replicate 16 0, [], 0, 0⟩

/-- The table that both headers tell. -/
def tabD (d : List Int) (a b : Hd) : Tb := ⟨((d.length / 512 : Nat) : Int), a.fst, a.lst, a.id, entsOf (bytD d a) a.cnt.toNat, a.at_, b.at_⟩

/-- The first header, the second. -/
def fstD (d : List Int) : Hd × Int := decG (secD d 1)
def sndD (d : List Int) : Hd × Int := decG (secD d (d.length / 512 - 1))

/-- Do both headers say where they stand, and the same? -/
def bothD (d : List Int) : Prop :=
  (fstD d).1.own = 1 ∧ (fstD d).1.oth = ((d.length / 512 : Nat) : Int) - 1 ∧ (sndD d).1.own = ((d.length / 512 : Nat) : Int) - 1 ∧ (sndD d).1.oth = 1 ∧ (fstD d).1.said = (sndD d).1.said

instance (d : List Int) : Decidable (bothD d) := by unfold bothD; infer_instance

/-- Why a disk has none. -/
def errG (d : List Int) : Int :=
  if d.length % 512 = 0 ∧ 3072 ≤ d.length then
    if (fstD d).2 = 0 then
      if (sndD d).2 = 0 then
        if bothD d then
          if lstG d (fstD d).1 = 0 then
            if lstG d (sndD d).1 = 0 then (tabD d (fstD d).1 (sndD d).1).chk else lstG d (sndD d).1
          else lstG d (fstD d).1
        else 11
      else (sndD d).2
    else (fstD d).2
  else 4

/-- What Parse answers. -/
def parG (d : List Int) : Tb := if errG d = 0 then tabD d (fstD d).1 (sndD d).1 else zTb

/-- A header that is one. -/
structure Hd.good (h : Hd) : Prop where
  id : h.id.length = 16
  cnt : 1 ≤ h.cnt ∧ h.cnt ≤ 128
  at_ : 0 ≤ h.at_ ∧ h.at_ ≤ 8388608
  own : 0 ≤ h.own ∧ h.own ≤ 8388608
  oth : 0 ≤ h.oth ∧ h.oth ≤ 8388608
  sum : 0 ≤ h.sum ∧ h.sum < 4294967296
  fst : 0 ≤ h.fst ∧ h.fst ≤ 8388608
  lst : 0 ≤ h.lst ∧ h.lst ≤ 8388608

theorem decG_good {l : List Int} (hl : l.length = 512) (hb : Byts l) (h : (decG l).2 = 0) : (decG l).1.good := by
  unfold decG at h ⊢
  split at h
  · rename_i h1
    rw [if_pos h1]
    split at h
    · rename_i h2
      rw [if_pos h2]
      split at h
      · rename_i h3
        rw [if_pos h3]
        have hs := num_lt l 88 hb 4
        exact ⟨by unfold hdOf; simp [hl], h2.2, numG_lt l 72 hb, numG_lt l 24 hb, numG_lt l 32 hb, by unfold hdOf; exact ⟨hs.1, by simpa using hs.2⟩, numG_lt l 40 hb, numG_lt l 48 hb⟩
      · exact absurd h (by decide)
    · exact absurd h (by decide)
  · exact absurd h (by decide)

theorem decG_id {l : List Int} (hl : l.length = 512) : (decG l).1.id.length = 16 := by
  unfold decG
  split
  · split
    · split
      · unfold hdOf; simp [hl]
      · rfl
    · rfl
  · rfl

theorem decG_err (l : List Int) : (decG l).2 = 0 ∨ (decG l).2 = 10 ∨ (decG l).2 = 11 ∨ (decG l).2 = 12 := by
  unfold decG
  split
  · split
    · split <;> simp
    · simp
  · simp

theorem lstG_err (d : List Int) (h : Hd) : lstG d h = 0 ∨ lstG d h = 4 ∨ lstG d h = 12 := by
  unfold lstG
  split
  · split <;> simp
  · simp

theorem bytD_len {d : List Int} {h : Hd} (hg : h.good) (hl : h.at_ * 512 + h.cnt * 128 ≤ d.length) : (bytD d h).length = 128 * h.cnt.toNat := by
  have h1 := hg.cnt
  have h2 := hg.at_
  unfold bytD
  rw [List.length_take, List.length_drop]
  omega

theorem bytD_byts {d : List Int} (h : Hd) (hb : Byts d) : Byts (bytD d h) := (hb.drop _).take _

theorem tabD_ok {d : List Int} {a b : Hd} (hg : a.good) (h : lstG d a = 0) : (tabD d a b).id.length = 16 ∧ (∀ x ∈ (tabD d a b).L, x.ok) ∧ (tabD d a b).L.length = a.cnt.toNat ∧ (tabD d a b).L.length ≤ 128 := by
  have h1 := hg.cnt
  have hl : a.at_ * 512 + a.cnt * 128 ≤ d.length := by
    unfold lstG at h
    split at h
    · assumption
    · exact absurd h (by decide)
  refine ⟨hg.id, entsOf_ok _ _ (bytD_len hg hl), entsOf_len _ _, ?_⟩
  show (entsOf _ _).length ≤ 128
  rw [entsOf_len]
  omega
end Go.Proofs.YtpbnjobjjnhplaaDoor.Oct

namespace Go.Proofs.YtpbnjobjjnhplaaDoor.Oct
open Go.RowKit

theorem info5m : (Tryd.prog.info? 5).map (fun i => (i.zero, i.size, i.bytes)) = some (some (.int .u8 0), 1, 1) := by kernel_rfl

theorem append_types {P : Program} {t t2 ty : TypeId} (ht : P.underlying t = some (.slice 5)) (h2 : P.underlying t2 = some (.slice 5)) (h5 : (P.info? 5).map (fun i => (i.zero, i.size, i.bytes)) = some (some (.int .u8 0), 1, 1)) (w : World) (v x : Value) :
    (Builtin.append_ #[t, t2] ty #[v, x]).run P w = (Builtin.append_ #[t, t] ty #[v, x]).run P w := by
  obtain ⟨i, hi, hz0, hz1, hz2⟩ := info_parts h5
  cases v <;> simp [Builtin.append_, run_underlying ht, run_underlying h2, sizeOf, typeInfo, hi]

theorem wpList_append_bytes2 {P : Program} {w : World} {ops : Array Oper} {rest : List Oper} {o : Oper} {a : Act} {Q : Exit → Act → World → Prop} (hgd : o.guard = none) (s x : Operand) (t t2 : TypeId)
    (ho : o.op = .call { callee := .builtin .append, args := #[s, x], argTypes := #[t, t2] }) (ht : P.underlying t = some (.slice 5)) (ht2 : P.underlying t2 = some (.slice 5)) (h5 : (P.info? 5).map (fun i => (i.zero, i.size, i.bytes)) = some (some (.int .u8 0), 1, 1))
    (B : Nat) (v : Value) (l : List Int) (hs : a.eval s = v) (hown : Own w B v l) (ad : Option Addr) (n c : Nat) (m : List Int) (hx : a.eval x = .slice ad n c) (hn : n = m.length) (hl : Lies w ad m)
    (hlen : l.length + m.length ≤ 140737488355328) (hB : B ≤ w.heap.size)
    (h : ∀ v' w', Own w' B v' (l ++ m) → w.grownBy w' v.ownBlock → wpList P ops Q rest (a.put o.dst v') w') : wpList P ops Q (o :: rest) a w := by
  subst hn
  obtain ⟨v', w', hrun, ho', hg⟩ := run_append_bytes (ty := o.type) ht h5 w B v l m hown ad c hl hlen hB
  rw [← append_types ht ht2 h5] at hrun
  refine wpList_plain hgd fun K hK => ?_
  unfold Oper.wp
  simp [execOp, ho, resolve, invoke, builtin, hs, hx, hrun, Result.andThen]
  exact hK _ _ (h v' w' ho' hg)

theorem msize_any (a : Option Addr) (n cap : Nat) (w : World) : Calls Tryd.prog 125 #[.slice a n cap] w fun e w' => e = .returned (.int .i64 (n : Int)) ∧ w' = w := by
  go_enter Tryd.func125, Tryd.ntmps125
  go_wp2_with fail
  go_ret
  exact ⟨rfl, rfl⟩


set_option maxHeartbeats 4000000 in
set_option maxRecDepth 100000 in
theorem gread_ok (b off cap : Nat) (d : List Int) (p : Int) (q k : Nat) (w : World) (hpq : p = (q : Int)) (hd : d.length ≤ 1000000000) (hcap : d.length ≤ cap) (hl : Lies w (some ⟨b, off, none⟩) d) (hk : 1 ≤ k) (hq : q + k ≤ d.length) :
    Calls Tryd.prog 124 #[.slice (some ⟨b, off, none⟩) d.length cap, .int .i64 p, .int .i64 (k : Int)] w fun e w' => (∃ v, e = .returned (.tuple #[v, .int .i64 0]) ∧ Own w' w.heap.size v ((d.drop q).take k)) ∧ Below w.heap.size w w' := by
  subst hpq
  have HS := fun (a : Option Addr) => hide (msize_any a d.length cap w)
  have hw1 : IntKind.i64.wrap ((d.length : Int) - (q : Int)) = (d.length : Int) - (q : Int) := by rw [IntKind.wrap_i64]; omega
  have hw2 : IntKind.i64.wrap ((q : Int) + (k : Int)) = (q : Int) + (k : Int) := by rw [IntKind.wrap_i64]; omega
  have hlp : Lies w (some ⟨b, off + q, none⟩) ((d.drop q).take k) := hl.of_part q k
  have HLp := hide hlp
  have hln : ((d.drop q).take k).length = k := by simp; omega
  have HLn := hide hln
  have HK := hide (show k ≤ 1000000000 by omega)
  have d1 : ¬ (q : Int) < 0 := by omega
  have d4 : ¬ (k : Int) < 0 := by omega
  have d2 : ¬ ((d.length : Int) < (q : Int)) := by omega
  have d3 : ¬ ((d.length : Int) - (q : Int) < (k : Int)) := by omega
  have d5 : ¬ ((q : Int) + (k : Int) < (q : Int)) := by omega
  have d6 : ¬ ((cap : Int) < (q : Int) + (k : Int)) := by omega
  have d7 : ¬ (q = cap) := by omega
  have d8 : ¬ (cap < q + k) := by omega
  obtain ⟨n, hn⟩ : ∃ n, n = d.length := ⟨_, rfl⟩
  have HN := hide hn
  rw [← hn] at HS hw1 d2 d3 hcap hq hd ⊢
  clear hlp hln hn hl
  go_enter Tryd.func124, Tryd.ntmps124
  go_wp2_with (first
    | (go_at_call 125; refine ((HS _).out).mono ?_; rintro e9 w2 ⟨rfl, h2⟩; have h2 := h2.symm; subst h2)
    | (at_builtin; refine wpList_append_bytes2 rfl _ _ 31 41 rfl Tryd.underlying31 Tryd.underlying41 info5m w.heap.size _ [] rfl (Own.nil _ _) _ _ _ ((d.drop q).take k) (by first | rfl | (rw [HLn.out]; rfl)) (by rw [HLn.out]; omega) HLp.out (by rw [HLn.out]; have := HK.out; simp; omega) (Nat.le_refl _) ?_; intro v5 w5 ho5 hg5; have HO5 := hide ho5; have HG5 := hide hg5; clear ho5 hg5))
  go_ret2
  refine ⟨⟨_, rfl, by simpa using HO5.out⟩, ?_⟩
  exact (Below.refl _ _).grown HG5.out (Nat.le_refl _) (fun q hq => by cases hq)

/-- A source: the disk, how many sectors. -/
abbrev srcV (b off n cap : Nat) (s : Int) : Value := .agg #[.iface 41 (.slice (some ⟨b, off, none⟩) n cap), .int .i64 s]

set_option maxHeartbeats 4000000 in
set_option maxRecDepth 100000 in
theorem sread_ok (b off cap : Nat) (d : List Int) (s x : Int) (q k : Nat) (w : World) (hxq : x * 512 = (q : Int)) (hd : d.length ≤ 1000000000) (hcap : d.length ≤ cap) (hl : Lies w (some ⟨b, off, none⟩) d) (hk : 1 ≤ k) (hq : q + k ≤ d.length) :
    Calls Tryd.prog 68 #[srcV b off d.length cap s, .int .i64 x, .int .i64 (k : Int)] w fun e w' => (∃ v, e = .returned (.tuple #[v, .int .i64 0]) ∧ Own w' w.heap.size v ((d.drop q).take k)) ∧ Below w.heap.size w w' := by
  unfold srcV
  have hln : ((d.drop q).take k).length = k := by simp; omega
  have HLn := hide hln
  have hw1 : IntKind.i64.wrap (x * 512) = x * 512 := by rw [IntKind.wrap_i64]; omega
  have HR := fun (u : World) (hu : Lies u (some ⟨b, off, none⟩) d) => hide (gread_ok b off cap d (x * 512) q k u hxq hd hcap hu hk hq)
  have hmR : ∀ (u : World) (a : Option Addr) (n c : Nat), (method 285 41 (.slice a n c) "Read").run Tryd.prog u = .ok (124, .slice a n c) u := fun u a n c => by kernel_rfl
  obtain ⟨n, hn⟩ : ∃ n, n = d.length := ⟨_, rfl⟩
  rw [← hn] at HR ⊢
  have hx := Blk.new w #[.iface 41 (.slice (some ⟨b, off, none⟩) n cap), .int .i64 s] 83
  have y0 : (w.alloc (.cells #[.iface 41 (.slice (some ⟨b, off, none⟩) n cap), .int .i64 s] 83)).cell? ⟨w.heap.size, 0, none⟩ = some (.iface 41 (.slice (some ⟨b, off, none⟩) n cap)) := hx.cell 0 _ rfl
  have hb1 : Below w.heap.size w (w.alloc (.cells #[.iface 41 (.slice (some ⟨b, off, none⟩) n cap), .int .i64 s] 83)) := (Below.refl _ _).alloc (Nat.le_refl _) _
  have HC := HR _ (hl.below hb1)
  have HB1 := hide hb1
  clear hx hb1 hl hd hcap hq hk hxq hn hln HR
  go_enter Tryd.func68, Tryd.ntmps68
  go_wp2_with (go_at_call 124; refine HC.out.mono ?_; rintro e9 w2 ⟨⟨v2, rfl, h2⟩, hb2⟩; obtain ⟨a2, c2, rfl, hl2, _⟩ := h2.form; rw [HLn.out] at h2 ⊢; have HO2 := hide h2; have HB2 := hide (HB1.out.trans (hb2.mono HB1.out.size)); clear h2 hb2 hl2)
  go_ret2
  refine ⟨⟨_, rfl, ?_⟩, HB2.out⟩
  exact HO2.out.mono HB1.out.size
end Go.Proofs.YtpbnjobjjnhplaaDoor.Oct
