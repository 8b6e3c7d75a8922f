/- A part of a disk as one: what it reads, and what is none. -/
import Derived.Test.YtjpdfchdgphdoaaGreatDoorPQbe
import Derived.Test.YtjpdfchdgphdoaaGreatDoorPQpdQpe
namespace Go.Proofs.YtjpdfchdgphdoaaGreatDoor.Oct
open Go.RowKit

theorem same_self (a a' : Option Addr) (cap cap' : Nat) (l : List Int) (w : World) (hl : Lies w a l) (hl' : Lies w a' l) :
    Calls Tryz.prog 8 #[.slice a l.length cap, .slice a' l.length cap'] w fun e w' => e = .returned (.bool true) ∧ w' = w := by
  have h1 := run_text (P := Tryz.prog) (dst := 9) Tryz.underlying22 Tryz.underlying5 Tryz.underlying9 w a l cap hl
  have h2 := run_text (P := Tryz.prog) (dst := 9) Tryz.underlying22 Tryz.underlying5 Tryz.underlying9 w a' l cap' hl'
  go_enter Tryz.func8, Tryz.ntmps8
  go_wp2
  go_ret
  refine ⟨?_, rfl⟩
  simp

/-- New memory that holds the bytes. -/
def Fresh (w : World) (v : Value) (l : List Int) : Prop := ∃ a c, v = .slice a l.length c ∧ Lies w a l ∧ l.length ≤ c

set_option maxHeartbeats 1000000 in
set_option maxRecDepth 100000 in
theorem cloneN_any (w : World) (a : Option Addr) (cap : Nat) (l : List Int) (hl : Lies w a l) (hlen : l.length ≤ 140737488355328) :
    Calls Tryz.prog 159 #[.slice a l.length cap] w fun e w' => ∃ v, e = .returned v ∧ Fresh w' v l ∧ Below w.heap.size w w' := by
  cases a with
  | none =>
    have hl0 : l = [] := by
      rcases hl with h | ⟨b, off, h, _⟩
      · exact h
      · cases h
    subst hl0
    have hq := fun u : World => Lib.run_eql_slice_nil u 33 5 none 0 cap 0 0 Tryz.underlying33
    go_enter Tryz.func159, Tryz.ntmps159
    go_wp2_with fail
    go_ret
    exact ⟨_, rfl, ⟨none, 0, rfl, Or.inl rfl, Nat.le_refl _⟩, Below.refl _ _⟩
  | some x =>
    have HL := hide hl
    have HN := hide hlen
    clear hl hlen
    have hq := fun u : World => Lib.run_eql_slice_nil u 33 5 (some x) l.length cap 0 0 Tryz.underlying33
    go_enter Tryz.func159, Tryz.ntmps159
    go_wp2_with (refine wpList_append_bytes (by rfl) _ _ 33 (by rfl) Tryz.underlying33 info5m w.heap.size _ [] (by rfl) (Own.emptyM w) _ _ _ l (by rfl) rfl (HL.out.alloc _) (by have := HN.out; simp; omega) (by simp) ?_; intro v9 w9 ho9 hg9)
    go_ret
    have ho9' : Own w9 w.heap.size v9 l := by simpa using ho9
    obtain ⟨a9, c9, rfl, hl9, _, hc9, _⟩ := ho9'.form
    exact ⟨_, rfl, ⟨a9, c9, rfl, hl9, hc9⟩, ((Below.refl w.heap.size w).alloc (Nat.le_refl _) (.cells #[] 5)).grown hg9 (by simp) (fun k hk => by simp [Value.ownBlock] at hk; omega)⟩

set_option maxHeartbeats 1000000 in
set_option maxRecDepth 100000 in
theorem cloneB_any (w : World) (a : Option Addr) (cap : Nat) (l : List Int) (hl : Lies w a l) (hlen : l.length ≤ 140737488355328) :
    Calls Tryz.prog 54 #[.slice a l.length cap] w fun e w' => ∃ v, e = .returned v ∧ Fresh w' v l ∧ Below w.heap.size w w' := by
  cases a with
  | none =>
    have hl0 : l = [] := by
      rcases hl with h | ⟨b, off, h, _⟩
      · exact h
      · cases h
    subst hl0
    have hq := fun u : World => Lib.run_eql_slice_nil u 22 5 none 0 cap 0 0 Tryz.underlying22
    go_enter Tryz.func54, Tryz.ntmps54
    go_wp2_with fail
    go_ret
    exact ⟨_, rfl, ⟨none, 0, rfl, Or.inl rfl, Nat.le_refl _⟩, Below.refl _ _⟩
  | some x =>
    have HL := hide hl
    have HN := hide hlen
    clear hl hlen
    have hq := fun u : World => Lib.run_eql_slice_nil u 22 5 (some x) l.length cap 0 0 Tryz.underlying22
    go_enter Tryz.func54, Tryz.ntmps54
    go_wp2_with (refine wpList_append_bytes (by rfl) _ _ 22 (by rfl) Tryz.underlying22 info5m w.heap.size _ [] (by rfl) (Own.emptyM w) _ _ _ l (by rfl) rfl (HL.out.alloc _) (by have := HN.out; simp; omega) (by simp) ?_; intro v9 w9 ho9 hg9)
    go_ret
    have ho9' : Own w9 w.heap.size v9 l := by simpa using ho9
    obtain ⟨a9, c9, rfl, hl9, _, hc9, _⟩ := ho9'.form
    exact ⟨_, rfl, ⟨a9, c9, rfl, hl9, hc9⟩, ((Below.refl w.heap.size w).alloc (Nat.le_refl _) (.cells #[] 5)).grown hg9 (by simp) (fun k hk => by simp [Value.ownBlock] at hk; omega)⟩

/-- Aren't so many bytes there? -/
def lackN (p m n : Int) : Bool := !(decide (0 ≤ p) && decide (0 ≤ m) && decide (p + m ≤ n))

set_option maxHeartbeats 1000000 in
theorem lacksN (p m n : Int) (w : World) (hp : p ≤ 9223372036854775807) (hn : 0 ≤ n ∧ n ≤ 1000000000) :
    Calls Tryz.prog 158 #[.int .i64 p, .int .i64 m, .int .i64 n] w fun e w' => e = .returned (.bool (lackN p m n)) ∧ w' = w := by
  unfold lackN
  by_cases h0 : p < 0
  · have e : (!(decide (0 ≤ p) && decide (0 ≤ m) && decide (p + m ≤ n))) = true := by simp; omega
    rw [e]
    go_enter Tryz.func158, Tryz.ntmps158
    go_wp2_with fail
    go_ret
    exact ⟨rfl, rfl⟩
  by_cases h1 : m < 0
  · have e : (!(decide (0 ≤ p) && decide (0 ≤ m) && decide (p + m ≤ n))) = true := by simp; omega
    rw [e]
    go_enter Tryz.func158, Tryz.ntmps158
    go_wp2_with fail
    go_ret
    exact ⟨rfl, rfl⟩
  have hw : IntKind.i64.wrap (n - p) = n - p := by rw [IntKind.wrap_i64]; omega
  by_cases h2 : n - p < m
  · have e : (!(decide (0 ≤ p) && decide (0 ≤ m) && decide (p + m ≤ n))) = true := by simp; omega
    rw [e]
    go_enter Tryz.func158, Tryz.ntmps158
    go_wp2_with fail
    go_ret
    exact ⟨rfl, rfl⟩
  · have e : (!(decide (0 ≤ p) && decide (0 ≤ m) && decide (p + m ≤ n))) = false := by simp; omega
    rw [e]
    go_enter Tryz.func158, Tryz.ntmps158
    go_wp2_with fail
    go_ret
    exact ⟨rfl, rfl⟩

/-- What a read answers. -/
def ReadN (d : List Int) (p m : Int) (e : Ending) (w' : World) : Prop :=
  (lackN p m d.length = false ∧ ∃ v, e = .returned (.tuple #[v, .int .i64 0]) ∧ Fresh w' v ((d.drop p.toNat).take m.toNat)) ∨
  (lackN p m d.length = true ∧ e = .returned (.tuple #[.slice none 0 0, .int .i64 4]))

theorem lackN_false {p m n : Int} (h : lackN p m n = false) : 0 ≤ p ∧ 0 ≤ m ∧ p + m ≤ n := by
  unfold lackN at h
  simp at h
  omega

set_option maxHeartbeats 4000000 in
set_option maxRecDepth 100000 in
theorem readN_any (a : Option Addr) (cap : Nat) (d : List Int) (p m : Int) (w : World) (hd : d.length ≤ 1000000000) (hcap : d.length ≤ cap) (hno : a = none → cap = 0) (hl : Lies w a d) (hp : p ≤ 9223372036854775807) :
    Calls Tryz.prog 156 #[.slice a d.length cap, .int .i64 p, .int .i64 m] w fun e w' => ReadN d p m e w' ∧ Below w.heap.size w w' := by
  have HS := fun (a : Option Addr) => hide (msize_any a d.length cap w)
  have HLk := hide (lacksN p m (d.length : Int) w hp (by omega))
  cases hk : lackN p m (d.length : Int)
  · obtain ⟨h0, h1, h2⟩ := lackN_false hk
    obtain ⟨q, hq⟩ : ∃ q : Nat, p = (q : Int) := ⟨p.toNat, by omega⟩
    obtain ⟨k, hkk⟩ : ∃ k : Nat, m = (k : Int) := ⟨m.toNat, by omega⟩
    subst hq hkk
    have hw2 : IntKind.i64.wrap ((q : Int) + (k : Int)) = (q : Int) + (k : Int) := by rw [IntKind.wrap_i64]; omega
    have hln : ((d.drop q).take k).length = k := by simp; omega
    have HK := hide hk
    rw [hk] at HLk
    cases a with
    | none =>
      have hl0 : d = [] := by
        rcases hl with h | ⟨b, off, h, _⟩
        · exact h
        · cases h
      have hc0 := hno rfl
      subst hl0 hc0
      simp at h2
      obtain rfl : q = 0 := by omega
      obtain rfl : k = 0 := by omega
      have HCl := hide (cloneN_any w none 0 [] (Or.inl rfl) (by simp))
      clear hl hln h0 h1 h2 hk hw2 hd hcap hno hp
      simp only [List.length_nil] at HS HLk HCl ⊢
      go_enter Tryz.func156, Tryz.ntmps156
      go_wp2_with fail
      refine ((HS _).out).mono ?_
      rintro e9 w2 ⟨rfl, h2⟩
      have h2 := h2.symm
      subst h2
      go_wp2_with fail
      refine HLk.out.mono ?_
      rintro e9 w2 ⟨rfl, h2⟩
      have h2 := h2.symm
      subst h2
      go_wp2_with fail
      refine HCl.out.mono ?_
      rintro e9 w3 ⟨v3, rfl, ho3, hb3⟩
      have HO3 := hide ho3
      have HB3 := hide hb3
      clear ho3 hb3
      go_wp2_with fail
      go_ret2
      exact ⟨Or.inl ⟨HK.out, _, rfl, HO3.out⟩, HB3.out⟩
    | some x =>
      by_cases hk0 : k = 0
      · have hL0 : (d.drop q).take k = [] := by rw [hk0]; simp
        have HCl : ∀ (a : Option Addr) (c : Nat), Hid (Calls Tryz.prog 159 #[.slice a k c] w fun e w' => ∃ v, e = .returned v ∧ Fresh w' v ((d.drop q).take k) ∧ Below w.heap.size w w') := fun a c => hide (by
          have := cloneN_any w a c ((d.drop q).take k) (Or.inl hL0) (by rw [hln, hk0]; omega)
          rw [hln] at this
          exact this)
        clear hL0 hk0
        by_cases hqc : q = cap
        · subst hqc
          obtain ⟨n, hn⟩ : ∃ n, n = d.length := ⟨_, rfl⟩
          rw [← hn] at HS HLk hcap h2 hd ⊢
          have HN := hide hn
          clear hl hln h0 h1 hk hno hp hn
          go_enter Tryz.func156, Tryz.ntmps156
          go_wp2_with fail
          refine ((HS _).out).mono ?_
          rintro e9 w2 ⟨rfl, h2⟩
          have h2 := h2.symm
          subst h2
          go_wp2_with fail
          refine HLk.out.mono ?_
          rintro e9 w2 ⟨rfl, h2⟩
          have h2 := h2.symm
          subst h2
          go_wp2_with fail
          refine (HCl _ _).out.mono ?_
          rintro e9 w3 ⟨v3, rfl, ho3, hb3⟩
          have HO3 := hide ho3
          have HB3 := hide hb3
          clear ho3 hb3
          go_wp2_with fail
          go_ret2
          exact ⟨Or.inl ⟨HK.out, _, rfl, by simpa using HO3.out⟩, HB3.out⟩
        · skip
          obtain ⟨n, hn⟩ : ∃ n, n = d.length := ⟨_, rfl⟩
          rw [← hn] at HS HLk hcap h2 hd ⊢
          have HN := hide hn
          clear hl hln h0 h1 hk hno hp hn
          go_enter Tryz.func156, Tryz.ntmps156
          go_wp2_with fail
          refine ((HS _).out).mono ?_
          rintro e9 w2 ⟨rfl, h2⟩
          have h2 := h2.symm
          subst h2
          go_wp2_with fail
          refine HLk.out.mono ?_
          rintro e9 w2 ⟨rfl, h2⟩
          have h2 := h2.symm
          subst h2
          go_wp2_with fail
          refine (HCl _ _).out.mono ?_
          rintro e9 w3 ⟨v3, rfl, ho3, hb3⟩
          have HO3 := hide ho3
          have HB3 := hide hb3
          clear ho3 hb3
          go_wp2_with fail
          go_ret2
          exact ⟨Or.inl ⟨HK.out, _, rfl, by simpa using HO3.out⟩, HB3.out⟩
      · rcases hl with he | ⟨b, off, hx, hb, hc⟩
        · exfalso; rw [he] at h2; simp at h2; omega
        cases hx
        have hqc : ¬ q = cap := by omega
        have hlp : Lies w (some ⟨b, off + q, none⟩) ((d.drop q).take k) := (Lies.mk (w := w) (b := b) (off := off) (l := d) hc).of_part q k
        have HCl := hide (cloneN_any w (some ⟨b, off + q, none⟩) (cap - q) _ hlp (by omega))
        rw [hln] at HCl
        clear hc hlp
        obtain ⟨n, hn⟩ : ∃ n, n = d.length := ⟨_, rfl⟩
        rw [← hn] at HS HLk hcap h2 hd ⊢
        have HN := hide hn
        clear hln h0 h1 hk hno hp hn
        go_enter Tryz.func156, Tryz.ntmps156
        go_wp2_with fail
        refine ((HS _).out).mono ?_
        rintro e9 w2 ⟨rfl, h2⟩
        have h2 := h2.symm
        subst h2
        go_wp2_with fail
        refine HLk.out.mono ?_
        rintro e9 w2 ⟨rfl, h2⟩
        have h2 := h2.symm
        subst h2
        go_wp2_with fail
        refine HCl.out.mono ?_
        rintro e9 w3 ⟨v3, rfl, ho3, hb3⟩
        have HO3 := hide ho3
        have HB3 := hide hb3
        clear ho3 hb3
        go_wp2_with fail
        go_ret2
        exact ⟨Or.inl ⟨HK.out, _, rfl, by simpa using HO3.out⟩, HB3.out⟩
  · obtain ⟨n, hn⟩ : ∃ n, n = d.length := ⟨_, rfl⟩
    have HK := hide hk
    rw [hk] at HLk
    rw [← hn] at HS HLk hcap hd hk ⊢
    clear hl hn hno hp hk
    go_enter Tryz.func156, Tryz.ntmps156
    go_wp2_with fail
    refine ((HS _).out).mono ?_
    rintro e9 w2 ⟨rfl, h2⟩
    have h2 := h2.symm
    subst h2
    go_wp2_with fail
    refine HLk.out.mono ?_
    rintro e9 w2 ⟨rfl, h2⟩
    have h2 := h2.symm
    subst h2
    go_wp2_with fail
    go_ret2
    exact ⟨Or.inr ⟨HK.out, rfl⟩, Below.refl _ _⟩

set_option maxHeartbeats 4000000 in
set_option maxRecDepth 100000 in
theorem pread_any (a : Option Addr) (cap : Nat) (d : List Int) (p m : Int) (w : World) (hd : d.length ≤ 1000000000) (hcap : d.length ≤ cap) (hno : a = none → cap = 0) (hl : Lies w a d) (hp : p ≤ 9223372036854775807) :
    Calls Tryz.prog 36 #[.iface 33 (.slice a d.length cap), .int .i64 p, .int .i64 m] w fun e w' => ReadN d p m e w' ∧ Below w.heap.size w w' := by
  have HR := hide (readN_any a cap d p m w hd hcap hno hl hp)
  have hmR : ∀ (u : World) (a : Option Addr) (n c : Nat), (method 342 33 (.slice a n c) "Read").run Tryz.prog u = .ok (156, .slice a n c) u := fun u a n c => by kernel_rfl
  have HD := hide hd
  obtain ⟨n, hn⟩ : ∃ n, n = d.length := ⟨_, rfl⟩
  rw [← hn] at HR ⊢
  clear hd hcap hno hl hp hn
  go_enter Tryz.func36, Tryz.ntmps36
  go_wp2_with fail
  refine HR.out.mono ?_
  rintro e9 w1 ⟨h1 | h1, hb1⟩
  · obtain ⟨hk, v, rfl, a1, c1, rfl, hl1, hc1⟩ := h1
    obtain ⟨h0, h2, h3⟩ := lackN_false hk
    obtain ⟨k, hkk⟩ : ∃ k : Nat, m = (k : Int) := ⟨m.toNat, by omega⟩
    subst hkk
    have hln : ((d.drop p.toNat).take (k : Int).toNat).length = k := by simp; omega
    have HC := hide (cloneB_any w1 a1 c1 _ hl1 (by rw [hln]; have := HD.out; omega))
    rw [hln] at HC ⊢
    have HB := hide hb1
    have HK := hide hk
    clear hb1 hl1 hc1 hk h0 h2 h3 hln HR
    go_wp2_with fail
    refine HC.out.mono ?_
    rintro e9 w2 ⟨v2, rfl, hf2, hb2⟩
    have HF := hide hf2
    have HB2 := hide (HB.out.trans (hb2.mono HB.out.size))
    clear hf2 hb2
    go_wp2_with fail
    go_ret2
    exact ⟨Or.inl ⟨HK.out, _, rfl, HF.out⟩, HB2.out⟩
  · obtain ⟨hk, rfl⟩ := h1
    have HB := hide hb1
    have HK := hide hk
    clear hb1 hk
    go_wp2_with fail
    go_ret2
    exact ⟨Or.inr ⟨HK.out, rfl⟩, HB.out⟩

set_option maxHeartbeats 1000000 in
set_option maxRecDepth 100000 in
theorem wsize_any (w : World) (dv : Value) (x y : Int) (hx : 0 ≤ x ∧ x ≤ y ∧ y ≤ 1000000000) :
    Calls Tryz.prog 163 #[.agg #[dv, .int .i64 x, .int .i64 y]] w fun e w' => e = .returned (.int .i64 (y - x)) ∧ Below w.heap.size w w' := by
  have hk := Blk.new w #[dv, .int .i64 x, .int .i64 y] 76
  have c1 : (w.alloc (.cells #[dv, .int .i64 x, .int .i64 y] 76)).cell? ⟨w.heap.size, 1, none⟩ = some (.int .i64 x) := hk.cell 1 _ rfl
  have c2 : (w.alloc (.cells #[dv, .int .i64 x, .int .i64 y] 76)).cell? ⟨w.heap.size, 2, none⟩ = some (.int .i64 y) := hk.cell 2 _ rfl
  have HB := hide ((Below.refl w.heap.size w).alloc (Nat.le_refl _) (.cells #[dv, .int .i64 x, .int .i64 y] 76))
  have hw : IntKind.i64.wrap (y - x) = y - x := by rw [IntKind.wrap_i64]; omega
  clear hk
  go_enter Tryz.func163, Tryz.ntmps163
  go_wp2_with fail
  go_ret
  exact ⟨by go_num, HB.out⟩

/-- What a read of a part answers. -/
def ReadW (d : List Int) (x y p m : Int) (e : Ending) (w' : World) : Prop :=
  (lackN p m (y - x) = false ∧ ∃ v, e = .returned (.tuple #[v, .int .i64 0]) ∧ Fresh w' v ((d.drop (x + p).toNat).take m.toNat)) ∨
  (lackN p m (y - x) = true ∧ e = .returned (.tuple #[.slice none 0 0, .int .i64 4]))

set_option maxHeartbeats 4000000 in
set_option maxRecDepth 100000 in
theorem wread_any (a : Option Addr) (cap : Nat) (d : List Int) (x y p m : Int) (w : World) (hd : d.length ≤ 1000000000) (hcap : d.length ≤ cap) (hno : a = none → cap = 0) (hl : Lies w a d) (hx : 0 ≤ x ∧ x ≤ y ∧ y ≤ d.length) (hp : p ≤ 9223372036854775807) :
    Calls Tryz.prog 162 #[.agg #[.iface 33 (.slice a d.length cap), .int .i64 x, .int .i64 y], .int .i64 p, .int .i64 m] w fun e w' => ReadW d x y p m e w' ∧ Below w.heap.size w w' := by
  have HSz := fun u => hide (wsize_any u (.iface 33 (.slice a d.length cap)) x y (by omega))
  have HLk := fun u => hide (lacksN p m (y - x) u hp (by omega))
  have HRd : ∀ u, Below w.heap.size w u → lackN p m (y - x) = false → Hid (Calls Tryz.prog 36 #[.iface 33 (.slice a d.length cap), .int .i64 (x + p), .int .i64 m] u fun e w' => ReadW d x y p m e w' ∧ Below u.heap.size u w') := fun u hu hk => hide (by
    have hk2 := lackN_false hk
    refine (pread_any a cap d (x + p) m u hd hcap hno (hl.below hu) (by omega)).mono ?_
    rintro e9 w9 ⟨h9 | h9, hb9⟩
    · obtain ⟨_, v, rfl, hf⟩ := h9
      exact ⟨Or.inl ⟨hk, v, rfl, hf⟩, hb9⟩
    · exfalso
      have := h9.1
      unfold lackN at this
      simp at this
      omega)
  have HX := hide (And.intro hx hd)
  obtain ⟨dv, hdv⟩ : ∃ dv, dv = Value.iface 33 (.slice a d.length cap) := ⟨_, rfl⟩
  rw [← hdv] at HSz HRd ⊢
  have hk := Blk.new w #[dv, .int .i64 x, .int .i64 y] 76
  have c0 : (w.alloc (.cells #[dv, .int .i64 x, .int .i64 y] 76)).cell? ⟨w.heap.size, 0, none⟩ = some dv := hk.cell 0 _ rfl
  have c1 : (w.alloc (.cells #[dv, .int .i64 x, .int .i64 y] 76)).cell? ⟨w.heap.size, 1, none⟩ = some (.int .i64 x) := hk.cell 1 _ rfl
  have c2 : (w.alloc (.cells #[dv, .int .i64 x, .int .i64 y] 76)).cell? ⟨w.heap.size, 2, none⟩ = some (.int .i64 y) := hk.cell 2 _ rfl
  have HB := hide ((Below.refl w.heap.size w).alloc (Nat.le_refl _) (.cells #[dv, .int .i64 x, .int .i64 y] 76))
  have HK := hide hk
  clear hk hd hcap hno hl hx hp hdv
  go_enter Tryz.func162, Tryz.ntmps162
  go_wp2_with fail
  refine (HSz _).out.mono ?_
  rintro e9 w2 ⟨rfl, hb2⟩
  have hk2 := HK.out.below hb2
  have d0 : w2.cell? ⟨w.heap.size, 0, none⟩ = some dv := hk2.cell 0 _ rfl
  have d1 : w2.cell? ⟨w.heap.size, 1, none⟩ = some (.int .i64 x) := hk2.cell 1 _ rfl
  have HB2 := hide (HB.out.trans (hb2.mono HB.out.size))
  clear hb2 hk2 c0 c1 c2 HK HB
  go_wp2_with fail
  refine (HLk _).out.mono ?_
  rintro e9 w3 ⟨rfl, h3⟩
  rw [h3]
  clear h3
  cases hkk : lackN p m (y - x)
  · have hk2 := lackN_false hkk
    have hx := HX.out
    have hw : IntKind.i64.wrap (x + p) = x + p := by rw [IntKind.wrap_i64]; omega
    have HR := HRd w2 HB2.out hkk
    clear hk2 hx hkk
    go_wp2_with fail
    refine HR.out.mono ?_
    rintro e9 w4 ⟨h4, hb4⟩
    have HB4 := hide (HB2.out.trans (hb4.mono HB2.out.size))
    rcases h4 with ⟨k4, v, rfl, hf⟩ | ⟨k4, rfl⟩
    · have HF := hide hf
      have HK4 := hide k4
      clear hf k4 hb4
      go_wp2_with fail
      go_ret2
      exact ⟨Or.inl ⟨HK4.out, _, rfl, HF.out⟩, HB4.out⟩
    · have HK4 := hide k4
      clear k4 hb4
      go_wp2_with fail
      go_ret2
      exact ⟨Or.inr ⟨HK4.out, rfl⟩, HB4.out⟩
  · have HK4 := hide hkk
    clear hkk
    go_wp2_with fail
    go_ret2
    exact ⟨Or.inr ⟨HK4.out, rfl⟩, HB2.out⟩

/-- Is a part one of so many bytes? -/
def offW (x y n : Int) : Bool := decide (x < 0) || decide (y < x) || decide (n < y)

set_option maxHeartbeats 4000000 in
set_option maxRecDepth 100000 in
theorem window_any (a : Option Addr) (n cap : Nat) (x y : Int) (w : World) :
    Calls Tryz.prog 7 #[.iface 33 (.slice a n cap), .agg #[.int .i64 x, .int .i64 y]] w fun e w' => e = .returned (.tuple #[if offW x y n = true then .nilIface else .iface 76 (.agg #[.iface 33 (.slice a n cap), .int .i64 x, .int .i64 y]), .int .i64 (if offW x y n = true then 4 else 0)]) ∧ Below w.heap.size w w' := by
  have hnil : ∀ (u : World) (v : Value), (binOp .eql 29 (.iface 33 v) .nilIface).run Tryz.prog u = .ok (.bool false) u := fun u v => by rfl
  have hmS : ∀ (u : World) (a : Option Addr) (n c : Nat), (method 342 33 (.slice a n c) "Size").run Tryz.prog u = .ok (157, .slice a n c) u := fun u a n c => by kernel_rfl
  obtain ⟨w1, hw1⟩ : ∃ w1, w1 = w.alloc (.cells #[.int .i64 x, .int .i64 y] 24) := ⟨_, rfl⟩
  have hk : Blk w1 w.heap.size #[.int .i64 x, .int .i64 y] 24 := by rw [hw1]; exact Blk.new _ _ _
  have HB : Hid (Below w.heap.size w w1) := hide (by rw [hw1]; exact (Below.refl w.heap.size w).alloc (Nat.le_refl _) _)
  have c0 : w1.cell? ⟨w.heap.size, 0, none⟩ = some (.int .i64 x) := hk.cell 0 _ rfl
  have c1 : w1.cell? ⟨w.heap.size, 1, none⟩ = some (.int .i64 y) := hk.cell 1 _ rfl
  have e0 : w1.drew.cell? ⟨w.heap.size, 0, none⟩ = some (.int .i64 x) := c0
  have e1 : w1.drew.cell? ⟨w.heap.size, 1, none⟩ = some (.int .i64 y) := c1
  have HW := hide hw1
  have HSz := fun u => hide (msize_any a n cap u)
  clear hk hw1
  by_cases h0 : x < 0
  · have ho : offW x y n = true := by simp [offW, h0]
    rw [if_pos ho, if_pos ho]
    clear ho
    go_enter Tryz.func7, Tryz.ntmps7
    go_wp2_with fail
    rw [← HW.out]
    go_quiet (fail)
    go_wp2_with fail
    go_ret2
    exact ⟨rfl, below_ahead HB.out _⟩
  by_cases h1 : y < x
  · have ho : offW x y n = true := by simp [offW, h1]
    rw [if_pos ho, if_pos ho]
    clear ho
    go_enter Tryz.func7, Tryz.ntmps7
    go_wp2_with fail
    rw [← HW.out]
    go_quiet (fail)
    go_wp2_with fail
    go_ret2
    exact ⟨rfl, below_ahead HB.out _⟩
  have hd0 : decide (x < 0) = false := by simp; omega
  have hd1 : decide (y < x) = false := by simp; omega
  by_cases h2 : (n : Int) < y
  · have ho : offW x y n = true := by simp [offW, h2]
    rw [if_pos ho, if_pos ho]
    clear ho
    go_enter Tryz.func7, Tryz.ntmps7
    go_wp2_with fail
    rw [← HW.out]
    go_region_held3 (fun u => u.cell? ⟨w.heap.size, 0, none⟩ = some (.int .i64 x) ∧ u.cell? ⟨w.heap.size, 1, none⟩ = some (.int .i64 y)) (first | go_keep | exact ⟨e0, e1⟩) (first | (go_at_call 157; refine ((HSz _).out).mono ?_; rintro e9 w9 ⟨rfl, h9⟩; rw [h9]; clear h9))
    go_wp2_with fail
    go_ret2
    exact ⟨rfl, HB.out.drew⟩
  · have ho : ¬ offW x y n = true := by simp [offW]; omega
    rw [if_neg ho, if_neg ho]
    clear ho
    go_enter Tryz.func7, Tryz.ntmps7
    go_wp2_with fail
    rw [← HW.out]
    go_region_held3 (fun u => u.cell? ⟨w.heap.size, 0, none⟩ = some (.int .i64 x) ∧ u.cell? ⟨w.heap.size, 1, none⟩ = some (.int .i64 y)) (first | go_keep | exact ⟨e0, e1⟩) (first | (go_at_call 157; refine ((HSz _).out).mono ?_; rintro e9 w9 ⟨rfl, h9⟩; rw [h9]; clear h9))
    go_wp2_with fail
    go_ret2
    exact ⟨rfl, HB.out.drew⟩
end Go.Proofs.YtjpdfchdgphdoaaGreatDoor.Oct
