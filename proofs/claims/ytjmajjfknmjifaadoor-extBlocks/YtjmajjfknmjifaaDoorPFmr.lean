/- A disk that is bytes: its Size, its Read. -/
import Derived.Test.YtjmajjfknmjifaaDoorPLowLst
import Derived.Test.YtjmajjfknmjifaaDoorPAppChg
import Derived.Lib.SliceRun
namespace Go.Proofs.YtjmajjfknmjifaaDoor.Oct
open Go.RowKit

theorem info5m : (Tryd.prog.info? 5).map (fun i => (i.zero, i.size, i.bytes)) = some (some (.int .u8 0), 1, 1) := by kernel_rfl

theorem msize_any (a : Option Addr) (n cap : Nat) (w : World) : Calls Tryd.prog 125 #[.slice a n cap] w fun e w' => e = .returned (.int .i64 (n : Int)) ∧ w' = w := by
  go_enter Tryd.func125, Tryd.ntmps125
  go_wp2_with fail
  go_ret
  exact ⟨rfl, rfl⟩

theorem Own.emptyM (w : World) : Own (w.alloc (.cells #[] 5)) w.heap.size (.slice (some ⟨w.heap.size, 0, none⟩) 0 0) [] := by
  have := Own.made w 0 (by simp)
  have e : madeCells #[.int .u8 0] 0 = #[] := by apply Array.eq_empty_of_size_eq_zero; rw [size_madeCells]
  rw [e] at this
  simpa using this

theorem same_self (a a' : Option Addr) (cap cap' : Nat) (l : List Int) (w : World) (hl : Lies w a l) (hl' : Lies w a' l) :
    Calls Tryd.prog 13 #[.slice a l.length cap, .slice a' l.length cap'] w fun e w' => e = .returned (.bool true) ∧ w' = w := by
  have h1 := run_text (P := Tryd.prog) (dst := 9) Tryd.underlying24 Tryd.underlying5 Tryd.underlying9 w a l cap hl
  have h2 := run_text (P := Tryd.prog) (dst := 9) Tryd.underlying24 Tryd.underlying5 Tryd.underlying9 w a' l cap' hl'
  go_enter Tryd.func13, Tryd.ntmps13
  go_wp2
  go_ret
  refine ⟨?_, rfl⟩
  simp

/-- New memory that holds the bytes. -/
def Fresh (w : World) (v : Value) (l : List Int) : Prop := ∃ a c, v = .slice a l.length c ∧ Lies w a l ∧ l.length ≤ c

set_option maxHeartbeats 1000000 in
set_option maxRecDepth 100000 in
theorem cloneN_any (w : World) (a : Option Addr) (cap : Nat) (l : List Int) (hl : Lies w a l) (hlen : l.length ≤ 140737488355328) :
    Calls Tryd.prog 127 #[.slice a l.length cap] w fun e w' => ∃ v, e = .returned v ∧ Fresh w' v l ∧ Below w.heap.size w w' := by
  cases a with
  | none =>
    have hl0 : l = [] := by
      rcases hl with h | ⟨b, off, h, _⟩
      · exact h
      · cases h
    subst hl0
    have hq := fun u : World => Lib.run_eql_slice_nil u 76 5 none 0 cap 0 0 Tryd.underlying76
    go_enter Tryd.func127, Tryd.ntmps127
    go_wp2_with fail
    go_ret
    exact ⟨_, rfl, ⟨none, 0, rfl, Or.inl rfl, Nat.le_refl _⟩, Below.refl _ _⟩
  | some x =>
    have HL := hide hl
    have HN := hide hlen
    clear hl hlen
    have hq := fun u : World => Lib.run_eql_slice_nil u 76 5 (some x) l.length cap 0 0 Tryd.underlying76
    go_enter Tryd.func127, Tryd.ntmps127
    go_wp2_with (refine wpList_append_bytes (by rfl) _ _ 76 (by rfl) Tryd.underlying76 info5m w.heap.size _ [] (by rfl) (Own.emptyM w) _ _ _ l (by rfl) rfl (HL.out.alloc _) (by have := HN.out; simp; omega) (by simp) ?_; intro v9 w9 ho9 hg9)
    go_ret
    have ho9' : Own w9 w.heap.size v9 l := by simpa using ho9
    obtain ⟨a9, c9, rfl, hl9, _, hc9, _⟩ := ho9'.form
    exact ⟨_, rfl, ⟨a9, c9, rfl, hl9, hc9⟩, ((Below.refl w.heap.size w).alloc (Nat.le_refl _) (.cells #[] 5)).grown hg9 (by simp) (fun k hk => by simp [Value.ownBlock] at hk; omega)⟩

set_option maxHeartbeats 1000000 in
set_option maxRecDepth 100000 in
theorem cloneB_any (w : World) (a : Option Addr) (cap : Nat) (l : List Int) (hl : Lies w a l) (hlen : l.length ≤ 140737488355328) :
    Calls Tryd.prog 72 #[.slice a l.length cap] w fun e w' => ∃ v, e = .returned v ∧ Fresh w' v l ∧ Below w.heap.size w w' := by
  cases a with
  | none =>
    have hl0 : l = [] := by
      rcases hl with h | ⟨b, off, h, _⟩
      · exact h
      · cases h
    subst hl0
    have hq := fun u : World => Lib.run_eql_slice_nil u 24 5 none 0 cap 0 0 Tryd.underlying24
    go_enter Tryd.func72, Tryd.ntmps72
    go_wp2_with fail
    go_ret
    exact ⟨_, rfl, ⟨none, 0, rfl, Or.inl rfl, Nat.le_refl _⟩, Below.refl _ _⟩
  | some x =>
    have HL := hide hl
    have HN := hide hlen
    clear hl hlen
    have hq := fun u : World => Lib.run_eql_slice_nil u 24 5 (some x) l.length cap 0 0 Tryd.underlying24
    go_enter Tryd.func72, Tryd.ntmps72
    go_wp2_with (refine wpList_append_bytes (by rfl) _ _ 24 (by rfl) Tryd.underlying24 info5m w.heap.size _ [] (by rfl) (Own.emptyM w) _ _ _ l (by rfl) rfl (HL.out.alloc _) (by have := HN.out; simp; omega) (by simp) ?_; intro v9 w9 ho9 hg9)
    go_ret
    have ho9' : Own w9 w.heap.size v9 l := by simpa using ho9
    obtain ⟨a9, c9, rfl, hl9, _, hc9, _⟩ := ho9'.form
    exact ⟨_, rfl, ⟨a9, c9, rfl, hl9, hc9⟩, ((Below.refl w.heap.size w).alloc (Nat.le_refl _) (.cells #[] 5)).grown hg9 (by simp) (fun k hk => by simp [Value.ownBlock] at hk; omega)⟩

/-- Aren't so many bytes there? -/
def lackN (p m n : Int) : Bool := !(decide (0 ≤ p) && decide (0 ≤ m) && decide (p + m ≤ n))

set_option maxHeartbeats 1000000 in
theorem lacksN (p m n : Int) (w : World) (hp : p ≤ 9223372036854775807) (hn : 0 ≤ n ∧ n ≤ 1000000000) :
    Calls Tryd.prog 126 #[.int .i64 p, .int .i64 m, .int .i64 n] w fun e w' => e = .returned (.bool (lackN p m n)) ∧ w' = w := by
  unfold lackN
  by_cases h0 : p < 0
  · have e : (!(decide (0 ≤ p) && decide (0 ≤ m) && decide (p + m ≤ n))) = true := by simp; omega
    rw [e]
    go_enter Tryd.func126, Tryd.ntmps126
    go_wp2_with fail
    go_ret
    exact ⟨rfl, rfl⟩
  by_cases h1 : m < 0
  · have e : (!(decide (0 ≤ p) && decide (0 ≤ m) && decide (p + m ≤ n))) = true := by simp; omega
    rw [e]
    go_enter Tryd.func126, Tryd.ntmps126
    go_wp2_with fail
    go_ret
    exact ⟨rfl, rfl⟩
  have hw : IntKind.i64.wrap (n - p) = n - p := by rw [IntKind.wrap_i64]; omega
  by_cases h2 : n - p < m
  · have e : (!(decide (0 ≤ p) && decide (0 ≤ m) && decide (p + m ≤ n))) = true := by simp; omega
    rw [e]
    go_enter Tryd.func126, Tryd.ntmps126
    go_wp2_with fail
    go_ret
    exact ⟨rfl, rfl⟩
  · have e : (!(decide (0 ≤ p) && decide (0 ≤ m) && decide (p + m ≤ n))) = false := by simp; omega
    rw [e]
    go_enter Tryd.func126, Tryd.ntmps126
    go_wp2_with fail
    go_ret
    exact ⟨rfl, rfl⟩

/-- What a read answers. -/
def ReadN (d : List Int) (p m : Int) (e : Ending) (w' : World) : Prop :=
  (lackN p m d.length = false ∧ ∃ v, e = .returned (.tuple #[v, .int .i64 0]) ∧ Fresh w' v ((d.drop p.toNat).take m.toNat)) ∨
  (lackN p m d.length = true ∧ e = .returned (.tuple #[.slice none 0 0, .int .i64 4]))

theorem lackN_false {p m n : Int} (h : lackN p m n = false) : 0 ≤ p ∧ 0 ≤ m ∧ p + m ≤ n := by
  unfold lackN at h
  simp at h
  omega

set_option maxHeartbeats 4000000 in
set_option maxRecDepth 100000 in
theorem readN_any (a : Option Addr) (cap : Nat) (d : List Int) (p m : Int) (w : World) (hd : d.length ≤ 1000000000) (hcap : d.length ≤ cap) (hno : a = none → cap = 0) (hl : Lies w a d) (hp : p ≤ 9223372036854775807) :
    Calls Tryd.prog 124 #[.slice a d.length cap, .int .i64 p, .int .i64 m] w fun e w' => ReadN d p m e w' ∧ Below w.heap.size w w' := by
  have HS := fun (a : Option Addr) => hide (msize_any a d.length cap w)
  have HLk := hide (lacksN p m (d.length : Int) w hp (by omega))
  cases hk : lackN p m (d.length : Int)
  · obtain ⟨h0, h1, h2⟩ := lackN_false hk
    obtain ⟨q, hq⟩ : ∃ q : Nat, p = (q : Int) := ⟨p.toNat, by omega⟩
    obtain ⟨k, hkk⟩ : ∃ k : Nat, m = (k : Int) := ⟨m.toNat, by omega⟩
    subst hq hkk
    have hw2 : IntKind.i64.wrap ((q : Int) + (k : Int)) = (q : Int) + (k : Int) := by rw [IntKind.wrap_i64]; omega
    have hln : ((d.drop q).take k).length = k := by simp; omega
    have HK := hide hk
    rw [hk] at HLk
    cases a with
    | none =>
      have hl0 : d = [] := by
        rcases hl with h | ⟨b, off, h, _⟩
        · exact h
        · cases h
      have hc0 := hno rfl
      subst hl0 hc0
      simp at h2
      obtain rfl : q = 0 := by omega
      obtain rfl : k = 0 := by omega
      have HCl := hide (cloneN_any w none 0 [] (Or.inl rfl) (by simp))
      clear hl hln h0 h1 h2 hk hw2 hd hcap hno hp
      simp only [List.length_nil] at HS HLk HCl ⊢
      go_enter Tryd.func124, Tryd.ntmps124
      go_wp2_with fail
      refine ((HS _).out).mono ?_
      rintro e9 w2 ⟨rfl, h2⟩
      have h2 := h2.symm
      subst h2
      go_wp2_with fail
      refine HLk.out.mono ?_
      rintro e9 w2 ⟨rfl, h2⟩
      have h2 := h2.symm
      subst h2
      go_wp2_with fail
      refine HCl.out.mono ?_
      rintro e9 w3 ⟨v3, rfl, ho3, hb3⟩
      have HO3 := hide ho3
      have HB3 := hide hb3
      clear ho3 hb3
      go_wp2_with fail
      go_ret2
      exact ⟨Or.inl ⟨HK.out, _, rfl, HO3.out⟩, HB3.out⟩
    | some x =>
      by_cases hk0 : k = 0
      · have hL0 : (d.drop q).take k = [] := by rw [hk0]; simp
        have HCl : ∀ (a : Option Addr) (c : Nat), Hid (Calls Tryd.prog 127 #[.slice a k c] w fun e w' => ∃ v, e = .returned v ∧ Fresh w' v ((d.drop q).take k) ∧ Below w.heap.size w w') := fun a c => hide (by
          have := cloneN_any w a c ((d.drop q).take k) (Or.inl hL0) (by rw [hln, hk0]; omega)
          rw [hln] at this
          exact this)
        clear hL0 hk0
        by_cases hqc : q = cap
        · subst hqc
          obtain ⟨n, hn⟩ : ∃ n, n = d.length := ⟨_, rfl⟩
          rw [← hn] at HS HLk hcap h2 hd ⊢
          have HN := hide hn
          clear hl hln h0 h1 hk hno hp hn
          go_enter Tryd.func124, Tryd.ntmps124
          go_wp2_with fail
          refine ((HS _).out).mono ?_
          rintro e9 w2 ⟨rfl, h2⟩
          have h2 := h2.symm
          subst h2
          go_wp2_with fail
          refine HLk.out.mono ?_
          rintro e9 w2 ⟨rfl, h2⟩
          have h2 := h2.symm
          subst h2
          go_wp2_with fail
          refine (HCl _ _).out.mono ?_
          rintro e9 w3 ⟨v3, rfl, ho3, hb3⟩
          have HO3 := hide ho3
          have HB3 := hide hb3
          clear ho3 hb3
          go_wp2_with fail
          go_ret2
          exact ⟨Or.inl ⟨HK.out, _, rfl, by simpa using HO3.out⟩, HB3.out⟩
        · skip
          obtain ⟨n, hn⟩ : ∃ n, n = d.length := ⟨_, rfl⟩
          rw [← hn] at HS HLk hcap h2 hd ⊢
          have HN := hide hn
          clear hl hln h0 h1 hk hno hp hn
          go_enter Tryd.func124, Tryd.ntmps124
          go_wp2_with fail
          refine ((HS _).out).mono ?_
          rintro e9 w2 ⟨rfl, h2⟩
          have h2 := h2.symm
          subst h2
          go_wp2_with fail
          refine HLk.out.mono ?_
          rintro e9 w2 ⟨rfl, h2⟩
          have h2 := h2.symm
          subst h2
          go_wp2_with fail
          refine (HCl _ _).out.mono ?_
          rintro e9 w3 ⟨v3, rfl, ho3, hb3⟩
          have HO3 := hide ho3
          have HB3 := hide hb3
          clear ho3 hb3
          go_wp2_with fail
          go_ret2
          exact ⟨Or.inl ⟨HK.out, _, rfl, by simpa using HO3.out⟩, HB3.out⟩
      · rcases hl with he | ⟨b, off, hx, hb, hc⟩
        · exfalso; rw [he] at h2; simp at h2; omega
        cases hx
        have hqc : ¬ q = cap := by omega
        have hlp : Lies w (some ⟨b, off + q, none⟩) ((d.drop q).take k) := (Lies.mk (w := w) (b := b) (off := off) (l := d) hc).of_part q k
        have HCl := hide (cloneN_any w (some ⟨b, off + q, none⟩) (cap - q) _ hlp (by omega))
        rw [hln] at HCl
        clear hc hlp
        obtain ⟨n, hn⟩ : ∃ n, n = d.length := ⟨_, rfl⟩
        rw [← hn] at HS HLk hcap h2 hd ⊢
        have HN := hide hn
        clear hln h0 h1 hk hno hp hn
        go_enter Tryd.func124, Tryd.ntmps124
        go_wp2_with fail
        refine ((HS _).out).mono ?_
        rintro e9 w2 ⟨rfl, h2⟩
        have h2 := h2.symm
        subst h2
        go_wp2_with fail
        refine HLk.out.mono ?_
        rintro e9 w2 ⟨rfl, h2⟩
        have h2 := h2.symm
        subst h2
        go_wp2_with fail
        refine HCl.out.mono ?_
        rintro e9 w3 ⟨v3, rfl, ho3, hb3⟩
        have HO3 := hide ho3
        have HB3 := hide hb3
        clear ho3 hb3
        go_wp2_with fail
        go_ret2
        exact ⟨Or.inl ⟨HK.out, _, rfl, by simpa using HO3.out⟩, HB3.out⟩
  · obtain ⟨n, hn⟩ : ∃ n, n = d.length := ⟨_, rfl⟩
    have HK := hide hk
    rw [hk] at HLk
    rw [← hn] at HS HLk hcap hd hk ⊢
    clear hl hn hno hp hk
    go_enter Tryd.func124, Tryd.ntmps124
    go_wp2_with fail
    refine ((HS _).out).mono ?_
    rintro e9 w2 ⟨rfl, h2⟩
    have h2 := h2.symm
    subst h2
    go_wp2_with fail
    refine HLk.out.mono ?_
    rintro e9 w2 ⟨rfl, h2⟩
    have h2 := h2.symm
    subst h2
    go_wp2_with fail
    go_ret2
    exact ⟨Or.inr ⟨HK.out, rfl⟩, Below.refl _ _⟩
end Go.Proofs.YtjmajjfknmjifaaDoor.Oct
