/- The operations of a file, as lists: what they answer and leave, done or refused. -/
import Derived.Test.YtkhknfohcebicaaJla
import Derived.Test.YtkhknfohcebicaaTxb
namespace Go.Proofs.Ytkhknfohcebicaa.Oct
open Go.RowKit Go.Deep

theorem new_fl (w : World) (a : Option Addr) (cap : Nat) (l : List Int) (hl : Lies w a l) (hlen : l.length ≤ 4194304) :
    Calls Try.prog 25 #[.slice a l.length cap] w fun e w' => ∃ F f, e = .returned (.tuple #[.pointer (some ⟨F, 0, none⟩), .int .i64 0]) ∧ Fl w' (fun q => w.heap.size ≤ q ∧ q < w'.heap.size) F f ⟨l, l, []⟩ 2000000 0 ∧ f.ops = 0 ∧ Below w.heap.size w w' := by
  refine (new_file w a cap l hl hlen).mono ?_
  rintro e w' ⟨F, v1, v2, rfl, hf, hb⟩
  refine ⟨F, _, rfl, ⟨⟨[], hf.mono (fun q hq h => ⟨h, hq⟩), rfl⟩, fun q hq => hq.2, by simp, by simp, hlen, hlen, by simp, fun d hd => by simp at hd, ⟨rfl, Or.inl ⟨rfl, by simp⟩⟩⟩, rfl, hb⟩

theorem write_fl (w : World) (X : Nat → Prop) (F : Nat) (f : Fs) (A : A3) (k n : Nat) (h : Fl w X F f A k n) (hn : n ≤ 900000) (p : Nat) (a : Option Addr) (cap : Nat) (b : List Int) (hb : Lies w a b) (hx : b ≠ [] → ∀ x, a = some x → ¬ X x.block) (hp : p + b.length ≤ 4194304) :
    Calls Try.prog 50 #[.pointer (some ⟨F, 0, none⟩), .int .i64 p, .slice a b.length cap] w fun e w' => e = .returned (.int .i64 (cod 1 k)) ∧ Ran w w' X F A k n [.wr p b] := by
  obtain ⟨R, hf, hD⟩ := h.has
  have hRl : R.length = A.D.length := by rw [← hD]; simp
  have hops := h.ops
  have hwr := h.wrote
  have hd := h.d
  have hsaid := h.bud.said hops.1 (by omega)
  by_cases hk : 1 ≤ k
  · rw [if_pos hk] at hsaid
    rw [cod_ok hk]
    refine (write_ok w X F f A.S A.T R hf p a cap b hb hx (by omega) (by omega) hp h.s (by omega) hsaid).mono ?_
    rintro e w' ⟨rfl, ps, vs, vr, hps, hf', hc'⟩
    have hm := hf'.mono (Y := fun q => (X q ∨ w.heap.size ≤ q) ∧ q < w'.heap.size) (fun q hq h => ⟨h, hq⟩)
    rw [laidAll_dat, hps] at hm
    have hcl := cuts_le _ p b (Nat.le_refl _)
    have hcs := cuts_small _ p b (Nat.le_refl _) hp
    refine ⟨rfl, (fun q => (X q ∨ w.heap.size ≤ q) ∧ q < w'.heap.size), { f.asked with wrote := f.wrote + 1, vs := vs, vr := vr }, ⟨⟨R ++ ps, ?_, ?_⟩, fun q hq => hq.2, ⟨?_, ?_⟩, ⟨?_, ?_⟩, ?_, ?_, ?_, ?_, ?_⟩, fun q hq => hq.1, hc'⟩
    · rw [show ([AO.wr p b].take k) = [AO.wr p b] from List.take_of_length_le (by simpa using hk)]
      exact hm
    · rw [show ([AO.wr p b].take k) = [AO.wr p b] from List.take_of_length_le (by simpa using hk), List.map_append, hD, hps]
      rfl
    · show 0 ≤ f.ops + 1; omega
    · show f.ops + 1 ≤ _; simp [costs, AO.cost]; omega
    · show 0 ≤ f.wrote + 1; omega
    · show f.wrote + 1 ≤ _; simp [costs, AO.cost]; omega
    · rw [show ([AO.wr p b].take k) = [AO.wr p b] from List.take_of_length_le (by simpa using hk)]
      exact laidsD_le _ _ h.s hcs
    · rw [show ([AO.wr p b].take k) = [AO.wr p b] from List.take_of_length_le (by simpa using hk)]
      exact h.t
    · rw [show ([AO.wr p b].take k) = [AO.wr p b] from List.take_of_length_le (by simpa using hk)]
      simp [doAll, AO.on, costs, AO.cost]
      omega
    · rw [show ([AO.wr p b].take k) = [AO.wr p b] from List.take_of_length_le (by simpa using hk)]
      intro d hd9
      rcases List.mem_append.1 hd9 with h9 | h9
      · exact h.small d h9
      · exact hcs d h9
    · exact h.bud.next hops.1 (by omega) rfl rfl rfl
  · rw [if_neg hk] at hsaid
    rw [cod_no hk]
    obtain rfl : k = 0 := by omega
    have HF := hide hf
    have HD := hide hD
    have HFl := hide h
    clear hf hD hb hx h
    go_enter Try.func50, Try.ntmps50
    go_wp2_with fail
    refine (ask_file w F f HF.out.at_ (by omega)).mono ?_
    rintro e w1 ⟨rfl, ha1, hc1⟩
    have hf1 := HF.out.fields hc1 ha1 rfl rfl rfl
    have HR : Hid (Ran w w1 X F A 0 n [.wr p b]) := hide ⟨X, f.asked, ⟨⟨R, hf1, HD.out⟩, fun q hq => Nat.lt_of_lt_of_le (HFl.out.x q hq) hc1.size, ⟨by show 0 ≤ f.ops + 1; omega, by show f.ops + 1 ≤ _; simp [costs, AO.cost]; omega⟩, ⟨hwr.1, by show f.wrote ≤ _; simp [costs, AO.cost]; omega⟩, HFl.out.s, HFl.out.t, by show A.D.length ≤ _; omega, HFl.out.small, HFl.out.bud.next hops.1 (by omega) rfl rfl rfl⟩, fun q hq => Or.inl hq, hc1.mono (fun i _ e => by subst e; exact HF.out.xF)⟩
    rw [hsaid]
    clear ha1 hc1 hf1
    go_wp2_with fail
    go_ret
    exact ⟨rfl, HR.out⟩

theorem flush_fl (w : World) (X : Nat → Prop) (F : Nat) (f : Fs) (A : A3) (k n : Nat) (h : Fl w X F f A k n) (hn : n ≤ 900000) :
    Calls Try.prog 43 #[.pointer (some ⟨F, 0, none⟩)] w fun e w' => e = .returned (.int .i64 (cod 1 k)) ∧ Ran w w' X F A k n [.fl] := by
  obtain ⟨R, hf, hD⟩ := h.has
  have hRl : R.length = A.D.length := by rw [← hD]; simp
  have hops := h.ops
  have hwr := h.wrote
  have hd := h.d
  have hsaid := h.bud.said hops.1 (by omega)
  by_cases hk : 1 ≤ k
  · rw [if_pos hk] at hsaid
    rw [cod_ok hk]
    have htk : ([AO.fl].take k) = [AO.fl] := List.take_of_length_le (by simpa using hk)
    refine (flush_file w X F f A.S A.T R hf (by omega) hsaid h.t (small_dat (by rw [hD]; exact h.small)) (by omega)).mono ?_
    rintro e w' ⟨rfl, vt, hf', hc'⟩
    have hm := hf'.mono (Y := fun q => (X q ∨ w.heap.size ≤ q) ∧ q < w'.heap.size) (fun q hq h => ⟨h, hq⟩)
    rw [laidAll_dat, hD] at hm
    refine ⟨rfl, (fun q => (X q ∨ w.heap.size ≤ q) ∧ q < w'.heap.size), { f.asked with vt := vt, vr := .slice none 0 0 }, ⟨⟨[], ?_, ?_⟩, fun q hq => hq.2, ⟨?_, ?_⟩, ⟨?_, ?_⟩, ?_, ?_, ?_, ?_, ?_⟩, fun q hq => hq.1, hc'⟩
    · rw [htk]; exact hm
    · rw [htk]; rfl
    · show 0 ≤ f.ops + 1; omega
    · show f.ops + 1 ≤ _; simp [costs, AO.cost]; omega
    · exact hwr.1
    · show f.wrote ≤ _; simp [costs, AO.cost]; omega
    · rw [htk]; exact h.s
    · rw [htk]; exact laidsD_le _ _ h.t h.small
    · rw [htk]; simp [doAll, AO.on]
    · rw [htk]; intro d hd9; simp [doAll, AO.on] at hd9
    · exact h.bud.next hops.1 (by omega) rfl rfl rfl
  · rw [if_neg hk] at hsaid
    rw [cod_no hk]
    obtain rfl : k = 0 := by omega
    have HF := hide hf
    have HD := hide hD
    have HFl := hide h
    clear hf hD h
    go_enter Try.func43, Try.ntmps43
    go_wp2_with fail
    refine (ask_file w F f HF.out.at_ (by omega)).mono ?_
    rintro e w1 ⟨rfl, ha1, hc1⟩
    have hf1 := HF.out.fields hc1 ha1 rfl rfl rfl
    have HR : Hid (Ran w w1 X F A 0 n [.fl]) := hide ⟨X, f.asked, ⟨⟨R, hf1, HD.out⟩, fun q hq => Nat.lt_of_lt_of_le (HFl.out.x q hq) hc1.size, ⟨by show 0 ≤ f.ops + 1; omega, by show f.ops + 1 ≤ _; simp [costs, AO.cost]; omega⟩, ⟨hwr.1, by show f.wrote ≤ _; simp [costs, AO.cost]; omega⟩, HFl.out.s, HFl.out.t, by show A.D.length ≤ _; omega, HFl.out.small, HFl.out.bud.next hops.1 (by omega) rfl rfl rfl⟩, fun q hq => Or.inl hq, hc1.mono (fun i _ e => by subst e; exact HF.out.xF)⟩
    rw [hsaid]
    clear ha1 hc1 hf1
    go_wp2_with fail
    go_ret
    exact ⟨rfl, HR.out⟩
end Go.Proofs.Ytkhknfohcebicaa.Oct
