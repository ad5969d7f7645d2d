/- The statements' filled; two queues side by side. -/
import Derived.Test.YtlnjgbdekcgmpaaEy
import Derived.Test.YtlnjgbdekcgmpaaEp
namespace Go.Proofs.Ytlnjgbdekcgmpaa
open Go.RowKit

theorem setE_ok {L : List En} {i t : Int} (h0 : 0 ≤ t) (h1 : t ≤ 1099511627776) (hl : L.length < 256) : setE L i t = 0 := by
  unfold setE
  rw [if_neg (by omega), if_neg (by omega)]
theorem setL_ok {L : List En} {i t : Int} (h0 : 0 ≤ t) (h1 : t ≤ 1099511627776) (hl : L.length < 256) : setL L i t = set L i t := by
  unfold setL
  rw [if_pos (setE_ok h0 h1 hl)]
/-- The ids 0, 1, 2 and so on, with the times l. -/
def fl (l : List Int) : Nat → List En
  | 0 => []
  | n + 1 => set (fl l n) n (l.getD n 0)
theorem mem_fl {l : List Int} {n : Nat} {e : En} : e ∈ fl l n ↔ ∃ j : Nat, j < n ∧ e = ((j : Int), l.getD j 0) := by
  induction n with
  | zero => simp [fl]
  | succ n ih =>
    unfold fl
    rw [mem_set, ih]
    constructor
    · rintro (rfl | ⟨⟨j, h1, rfl⟩, h2⟩)
      · exact ⟨n, by omega, rfl⟩
      · exact ⟨j, by omega, rfl⟩
    · rintro ⟨j, h1, rfl⟩
      by_cases e : j = n
      · subst e; exact .inl rfl
      · exact .inr ⟨⟨j, by omega, rfl⟩, by simp only; omega⟩
theorem fl_srt (l : List Int) (n : Nat) : Srt (fl l n) := by
  induction n with
  | zero => exact List.Pairwise.nil
  | succ n ih => exact ih.set _ _
theorem fl_nod (l : List Int) (n : Nat) : Nod (fl l n) := by
  induction n with
  | zero => exact List.Pairwise.nil
  | succ n ih => exact ih.set _ _
theorem fl_len (l : List Int) (n : Nat) : (fl l n).length = n := by
  induction n with
  | zero => rfl
  | succ n ih =>
    unfold fl
    rw [set_length_new, ih]
    rw [mem_ids]
    rintro ⟨t, ht⟩
    obtain ⟨j, h1, h2⟩ := mem_fl.1 ht
    have := congrArg Prod.fst h2
    simp only at this
    omega
theorem tm_fl {l : List Int} {n k : Nat} (h : k < n) : tm (fl l n) k = some (l.getD k 0) := (tm_some (fl_nod l n)).2 (mem_fl.2 ⟨k, h, rfl⟩)
theorem tm_fl_none {l : List Int} {n : Nat} {i : Int} (h : i < 0 ∨ (n : Int) ≤ i) : tm (fl l n) i = none := by
  rw [tm_none, mem_ids]
  rintro ⟨t, ht⟩
  obtain ⟨j, h1, h2⟩ := mem_fl.1 ht
  have := congrArg Prod.fst h2
  simp only at this
  omega

/-! ### filled -/
set_option maxHeartbeats 1000000 in
theorem filled_ok (w0 : World) (a : Option Addr) (n c : Nat) (l : List Int) (w : World) (_hB : Below w0.heap.size w0 w) (h : U8 w a n l) (hc : n ≤ c) (_hcm : c ≤ 9223372036854775807) (hn : n ≤ 60) :
    Calls Try.prog 29 #[.slice a n c] w fun e w' => ∃ b, e = .returned (.pointer (some ⟨b, 0, none⟩)) ∧ Own w w' b (fl l n) := by
  have H := Lib.hid h
  have N0 := Lib.hid (own_made w w (Below.refl _ _))
  have S0 : Hid (∀ W b (j : Nat) (x : Int), j < n → l[j]? = some x → 0 ≤ x → x ≤ 255 → Own w W b (fl l j) → Calls Try.prog 14 #[.pointer (some ⟨b, 0, none⟩), .int .i64 j, .int .i64 x] W fun e w' => e = .returned (.int .i64 0) ∧ Own w w' b (fl l (j + 1))) := fun W b j x hj hx h0 h1 h => by
    have := own_set h (i := (j : Int)) ⟨by omega, by omega⟩ x
    have hl : (fl l j).length < 256 := by rw [fl_len]; omega
    rw [setE_ok h0 (by omega) hl, setL_ok h0 (by omega) hl] at this
    have e : l.getD j 0 = x := by rw [List.getD_eq_getElem?_getD, hx]; rfl
    unfold fl
    rw [e]
    exact this
  clear h
  go_enter Try.func29, Try.ntmps29
  go_wp2_with (go_at_call 12; refine N0.out.mono ?_; rintro e w1 ⟨b, rfl, ho⟩; have HO := Lib.hid ho; clear ho)
  go_loopw [4] (fun s wr => ∃ j : Nat, j ≤ n ∧ s = .int .i64 j ∧ Hid (Own w wr b (fl l j))) (fun s _ => n - (intOf s).toNat)
  case atStart => exact ⟨0, by omega, rfl, HO.out⟩
  case round =>
    obtain ⟨j, hj, rfl, HO2⟩ := hrel
    by_cases hlt : j < n
    · obtain ⟨g, off, x, rfl, hg, hcell, hx, hx0, hx1⟩ := (H.out.below HO2.out.bel).cell hlt
      have HX := Lib.hid hx
      clear hx
      go_wp2_with (go_at_call 14; refine (S0.out _ _ j x hlt HX.out hx0 hx1 HO2.out).mono ?_; rintro e w2 ⟨rfl, ho⟩; have HO3 := Lib.hid ho; clear ho)
      go_roundw
      case rel => exact ⟨j + 1, by omega, by go_num, HO3.out⟩
      case measure => simp [intOf]; omega
    · obtain rfl : j = n := by omega
      go_wp2
      go_ret
      exact ⟨b, rfl, HO2.out⟩

/-! ### two queues -/
def Two (w0 w : World) (b c : Nat) (L M : List En) : Prop := ∃ F G, Q w b F L ∧ Q w c G M ∧ (∀ g, F g → ¬ G g) ∧ (∀ g, F g → w0.heap.size ≤ g) ∧ (∀ g, G g → w0.heap.size ≤ g) ∧ Below w0.heap.size w0 w
section
variable {w0 w w' : World} {b c : Nat} {L M L' M' : List En}
theorem Two.swap (h : Two w0 w b c L M) : Two w0 w c b M L := by
  obtain ⟨F, G, h1, h2, h3, h4, h5, h6⟩ := h
  exact ⟨G, F, h2, h1, fun g hg hf => h3 g hf hg, h5, h4, h6⟩
theorem Two.bel (h : Two w0 w b c L M) : Below w0.heap.size w0 w := by obtain ⟨F, G, _, _, _, _, _, h⟩ := h; exact h
theorem Two.one (h : Two w0 w b c L M) : Own w0 w b L := by obtain ⟨F, G, h1, _, _, h2, _, h3⟩ := h; exact ⟨F, h1, h2, h3⟩
theorem Two.below (h : Two w0 w b c L M) (k : Below w.heap.size w w') : Two w0 w' b c L M := by
  obtain ⟨F, G, h1, h2, h3, h4, h5, h6⟩ := h
  exact ⟨F, G, h1.below k, h2.below k, h3, h4, h5, h6.trans (k.mono h6.size)⟩
theorem Two.make (h : Own w0 w b L) (k : Own w w' c M) : Two w0 w' b c L M := by
  obtain ⟨F, h1, h2, h3⟩ := h
  obtain ⟨G, k1, k2, k3⟩ := k
  exact ⟨F, G, h1.below k3, k1, fun g hf hg => by have := h1.lt hf; have := k2 g hg; omega, h2, fun g hg => by have := k2 g hg; have := h3.size; omega, h3.trans (k3.mono h3.size)⟩
theorem Two.stp {F G : Nat → Prop} (_h1 : Q w b F L) (h2 : Q w c G M) (h3 : ∀ g, F g → ¬ G g) (h4 : ∀ g, F g → w0.heap.size ≤ g) (h5 : ∀ g, G g → w0.heap.size ≤ g) (h6 : Below w0.heap.size w0 w) (s : Stp w b F L' w') : Two w0 w' b c L' M := by
  obtain ⟨F', s1, s2, s3⟩ := s
  refine ⟨F', G, s1, h2.kept s2 (fun g hg hf => h3 g hf hg), fun g hf hg => ?_, fun g hg => ?_, h5, h6.trans (s2.below h6.size h4)⟩
  · rcases s3 g hf with k | k
    · exact h3 g k hg
    · have := h2.lt hg; omega
  · rcases s3 g hg with k | k
    · exact h4 g k
    · have := h6.size; omega
theorem two_len (h : Two w0 w b c L M) : Calls Try.prog 27 #[.pointer (some ⟨b, 0, none⟩)] w fun e w' => e = .returned (.int .i64 L.length) ∧ w = w' := own_len h.one
theorem two_when (h : Two w0 w b c L M) {i : Int} (hi : I64 i) : Calls Try.prog 25 #[.pointer (some ⟨b, 0, none⟩), .int .i64 i] w fun e w' => e = .returned (.tuple #[.int .i64 ((tm L i).getD 0), .bool (tm L i).isSome]) ∧ w = w' := own_when h.one hi
theorem two_next (h : Two w0 w b c L M) : Calls Try.prog 23 #[.pointer (some ⟨b, 0, none⟩)] w fun e w' => e = .returned (.tuple #[.int .i64 (L.headD (0, 0)).1, .int .i64 (L.headD (0, 0)).2, .bool !L.isEmpty]) ∧ Two w0 w' b c L M := by
  obtain ⟨F, G, h1, h2, h3, h4, h5, h6⟩ := h
  exact (q_next h1).mono fun e w' ⟨he, hb⟩ => ⟨he, Two.below ⟨F, G, h1, h2, h3, h4, h5, h6⟩ hb⟩
theorem two_drop (h : Two w0 w b c L M) {i : Int} (hi : I64 i) : Calls Try.prog 16 #[.pointer (some ⟨b, 0, none⟩), .int .i64 i] w fun e w' => e = .returned (.bool (tm L i).isSome) ∧ Two w0 w' b c (del L i) M := by
  obtain ⟨F, G, h1, h2, h3, h4, h5, h6⟩ := h
  exact (q_drop h1 hi).mono fun e w' ⟨he, hs⟩ => ⟨he, Two.stp h1 h2 h3 h4 h5 h6 hs⟩
theorem two_set (h : Two w0 w b c L M) {i : Int} (hi : I64 i) (t : Int) : Calls Try.prog 14 #[.pointer (some ⟨b, 0, none⟩), .int .i64 i, .int .i64 t] w fun e w' => e = .returned (.int .i64 (setE L i t)) ∧ Two w0 w' b c (setL L i t) M := by
  obtain ⟨F, G, h1, h2, h3, h4, h5, h6⟩ := h
  exact (q_set h1 hi t).mono fun e w' ⟨he, hs⟩ => ⟨he, Two.stp h1 h2 h3 h4 h5 h6 hs⟩
theorem two_due (h : Two w0 w b c L M) (now : Int) : Calls Try.prog 19 #[.pointer (some ⟨b, 0, none⟩), .int .i64 now] w fun e w' => ∃ a c', e = .returned (.slice a (due L now).length c') ∧ (due L now).length ≤ c' ∧ c' ≤ 9223372036854775807 ∧ Two w0 w' b c (rest L now) M ∧ Rd w' (.slice a (due L now).length c') (ids (due L now)) := by
  obtain ⟨F, G, h1, h2, h3, h4, h5, h6⟩ := h
  refine (q_due h1 now).mono ?_
  rintro e w' ⟨v, F', rfl, k1, k2, k3, k4, _⟩
  rw [show (due L now).length = (ids (due L now)).length from (ids_length _).symm] at k4
  obtain ⟨a, c, rfl, hc1, hc2, hr⟩ := (Rd.of_own k4).len
  rw [ids_length] at hc1 hr
  refine ⟨a, c, by rw [ids_length], hc1, hc2, Two.stp h1 h2 h3 h4 h5 h6 ⟨F', k1, k2, k3⟩, hr⟩
theorem own_copy (h : Own w0 w b L) : Calls Try.prog 21 #[.pointer (some ⟨b, 0, none⟩)] w fun e w' => ∃ c, e = .returned (.pointer (some ⟨c, 0, none⟩)) ∧ Two w0 w' b c L L := by
  obtain ⟨F, ⟨k, m, v, h1, hF⟩, h2, h3⟩ := h
  refine (copy_ok b k m v L w h1).mono ?_
  rintro e w' ⟨c, G, rfl, g1, g2, g3⟩
  exact ⟨c, rfl, Two.make (w := w) ⟨F, ⟨k, m, v, h1, hF⟩, h2, h3⟩ ⟨G, g1, g2, g3⟩⟩
end
end Go.Proofs.Ytlnjgbdekcgmpaa
