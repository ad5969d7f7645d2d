/- The statements' own helpers: Ints (are two slices equal), works (the chapter's examples), filled. -/
import Derived.Test.YtlnjgbdekcgmpaaEl
namespace Go.Proofs.Ytlnjgbdekcgmpaa
open Go.RowKit

/-! ### Ints -/
theorem ints_no (a a' : Option Addr) (c c' n n' : Nat) (hne : n ≠ n') (_hc : n ≤ 9223372036854775807) (_hc' : n' ≤ 9223372036854775807) (w : World) : Calls Try.prog 18 #[.slice a n c, .slice a' n' c'] w fun e w' => e = .returned (.bool false) ∧ w = w' := by
  have h1 : ((n : Int) != (n' : Int)) = true := by simp; omega
  have h2 : ((n : Int) == (n' : Int)) = false := by simp; omega
  go_enter Try.func18, Try.ntmps18
  go_wp2
  go_ret
  exact ⟨rfl, rfl⟩
set_option maxHeartbeats 1000000 in
theorem ints_ok (v v' : Value) (l : List Int) (hl : l.length ≤ 1000) (w : World) (h : Rd w v l) (h' : Rd w v' l) : Calls Try.prog 18 #[v, v'] w fun e w' => e = .returned (.bool true) ∧ ∃ q, w' = w.drewN q := by
  obtain ⟨a, c, rfl, hc1, hc2, hr⟩ := h.len
  obtain ⟨a', c', rfl, hd1, hd2, hr'⟩ := h'.len
  have HR := Lib.hid hr
  have HR' := Lib.hid hr'
  obtain ⟨n, hn⟩ : ∃ n, l.length = n := ⟨_, rfl⟩
  have HN := Lib.hid hn
  rw [hn] at hc1 hd1 hl HR HR' ⊢
  clear h h' hr hr' hn
  go_enter Try.func18, Try.ntmps18
  go_wp2
  go_loopw [5] (fun i wr => ∃ j : Nat, j ≤ n ∧ i = .int .i64 j ∧ Hid (∃ q, wr = w.drewN q)) (fun i _ => n - (intOf i).toNat)
  case atStart => exact ⟨0, Nat.zero_le _, rfl, ⟨0, rfl⟩⟩
  case round =>
    obtain ⟨j, hj, rfl, HQ⟩ := hrel
    have HRr : Hid (Rd wr (.slice a n c) l ∧ Rd wr (.slice a' n c') l) := by
      obtain ⟨q, rfl⟩ := HQ.out
      exact ⟨HR.out, HR'.out⟩
    by_cases hlt : j < n
    · have hjl : j < l.length := by rw [HN.out]; exact hlt
      obtain ⟨g, off, rfl, hg, hcell⟩ : ∃ g off, a = some ⟨g, off, none⟩ ∧ g < wr.heap.size ∧ wr.cell? ⟨g, off + j, none⟩ = some (.int .i64 l[j]) := by
        have := HRr.out.1
        rw [← HN.out] at this
        exact this.cell hjl
      obtain ⟨g', off', rfl, hg', hcell'⟩ : ∃ g off, a' = some ⟨g, off, none⟩ ∧ g < wr.heap.size ∧ wr.cell? ⟨g, off + j, none⟩ = some (.int .i64 l[j]) := by
        have := HRr.out.2
        rw [← HN.out] at this
        exact this.cell hjl
      obtain ⟨x, hx⟩ : ∃ x, l[j] = x := ⟨_, rfl⟩
      rw [hx] at hcell hcell'
      clear hg hg' hx
      go_wp2_with fail
      go_quiet (fail)
      all_goals
        go_wp2
      go_roundw
      case rel => exact ⟨j + 1, by omega, by go_num, by obtain ⟨q, hq⟩ := HQ.out; exact ⟨_, by rw [hq]; exact World.drewN_drewN _ _ _⟩⟩
      case measure => simp [intOf]; omega
    · obtain rfl : j = n := by omega
      go_wp2
      go_ret
      exact ⟨rfl, HQ.out⟩

/-! ### a queue that the call itself has made -/
def Own (w0 w : World) (b : Nat) (L : List En) : Prop := ∃ F, Q w b F L ∧ (∀ g, F g → w0.heap.size ≤ g) ∧ Below w0.heap.size w0 w
section
variable {w0 w w' : World} {b : Nat} {L : List En}
theorem Own.bel (h : Own w0 w b L) : Below w0.heap.size w0 w := by obtain ⟨F, _, _, h⟩ := h; exact h
theorem Own.below (h : Own w0 w b L) (k : Below w.heap.size w w') : Own w0 w' b L := by
  obtain ⟨F, h1, h2, h3⟩ := h
  exact ⟨F, h1.below k, h2, h3.trans (k.mono h3.size)⟩
theorem Own.stp {F : Nat → Prop} {L' : List En} (hF : ∀ g, F g → w0.heap.size ≤ g) (hB : Below w0.heap.size w0 w) (h : Stp w b F L' w') : Own w0 w' b L' := by
  obtain ⟨F', h1, h2, h3⟩ := h
  refine ⟨F', h1, fun g hg => ?_, hB.trans (h2.below hB.size hF)⟩
  rcases h3 g hg with h | h
  · exact hF g h
  · have := hB.size; omega
theorem Own.i64 (h : Own w0 w b L) : ∀ e ∈ L, I64 e.1 := by obtain ⟨F, h1, _⟩ := h; exact h1.i64
theorem Own.srt (h : Own w0 w b L) : Srt L := by obtain ⟨F, h1, _⟩ := h; exact h1.srt
theorem Own.nod (h : Own w0 w b L) : Nod L := by obtain ⟨F, h1, _⟩ := h; exact h1.nod
theorem Own.len (h : Own w0 w b L) : L.length ≤ 256 := by obtain ⟨F, h1, _⟩ := h; exact h1.len
theorem Own.rg (h : Own w0 w b L) : ∀ e ∈ L, 0 ≤ e.2 ∧ e.2 ≤ 1099511627776 := by obtain ⟨F, h1, _⟩ := h; exact h1.rg
theorem own_made (w0 w : World) (hB : Below w0.heap.size w0 w) : Calls Try.prog 12 #[] w fun e w' => ∃ b, e = .returned (.pointer (some ⟨b, 0, none⟩)) ∧ Own w0 w' b [] := by
  refine (q_new w).mono ?_
  rintro e w' ⟨b, F, rfl, h1, h2, h3⟩
  exact ⟨b, rfl, F, h1, fun g hg => by have := h2 g hg; have := hB.size; omega, hB.trans (h3.mono hB.size)⟩
theorem own_when (h : Own w0 w b L) {i : Int} (hi : I64 i) : Calls Try.prog 25 #[.pointer (some ⟨b, 0, none⟩), .int .i64 i] w fun e w' => e = .returned (.tuple #[.int .i64 ((tm L i).getD 0), .bool (tm L i).isSome]) ∧ w = w' := by
  obtain ⟨F, h1, _⟩ := h; exact q_when h1 hi
theorem own_len (h : Own w0 w b L) : Calls Try.prog 27 #[.pointer (some ⟨b, 0, none⟩)] w fun e w' => e = .returned (.int .i64 L.length) ∧ w = w' := by
  obtain ⟨F, h1, _⟩ := h; exact q_len h1
theorem own_next (h : Own w0 w b L) : Calls Try.prog 23 #[.pointer (some ⟨b, 0, none⟩)] w fun e w' => e = .returned (.tuple #[.int .i64 (L.headD (0, 0)).1, .int .i64 (L.headD (0, 0)).2, .bool !L.isEmpty]) ∧ Own w0 w' b L := by
  obtain ⟨F, h1, h2, h3⟩ := h
  exact (q_next h1).mono fun e w' ⟨he, hb⟩ => ⟨he, F, h1.below hb, h2, h3.trans (hb.mono h3.size)⟩
theorem own_drop (h : Own w0 w b L) {i : Int} (hi : I64 i) : Calls Try.prog 16 #[.pointer (some ⟨b, 0, none⟩), .int .i64 i] w fun e w' => e = .returned (.bool (tm L i).isSome) ∧ Own w0 w' b (del L i) := by
  obtain ⟨F, h1, h2, h3⟩ := h
  exact (q_drop h1 hi).mono fun e w' ⟨he, hs⟩ => ⟨he, Own.stp h2 h3 hs⟩
theorem own_set (h : Own w0 w b L) {i : Int} (hi : I64 i) (t : Int) : Calls Try.prog 14 #[.pointer (some ⟨b, 0, none⟩), .int .i64 i, .int .i64 t] w fun e w' => e = .returned (.int .i64 (setE L i t)) ∧ Own w0 w' b (setL L i t) := by
  obtain ⟨F, h1, h2, h3⟩ := h
  exact (q_set h1 hi t).mono fun e w' ⟨he, hs⟩ => ⟨he, Own.stp h2 h3 hs⟩
theorem own_due (h : Own w0 w b L) (now : Int) : Calls Try.prog 19 #[.pointer (some ⟨b, 0, none⟩), .int .i64 now] w fun e w' => ∃ a c, e = .returned (.slice a (due L now).length c) ∧ (due L now).length ≤ c ∧ c ≤ 9223372036854775807 ∧ Own w0 w' b (rest L now) ∧ Rd w' (.slice a (due L now).length c) (ids (due L now)) := by
  obtain ⟨F, h1, h2, h3⟩ := h
  refine (q_due h1 now).mono ?_
  rintro e w' ⟨v, F', rfl, k1, k2, k3, k4, _⟩
  rw [show (due L now).length = (ids (due L now)).length from (ids_length _).symm] at k4
  obtain ⟨a, c, rfl, hc1, hc2, hr⟩ := (Rd.of_own k4).len
  rw [ids_length] at hc1 hr
  refine ⟨a, c, by rw [ids_length], hc1, hc2, Own.stp h2 h3 ⟨F', k1, k2, k3⟩, hr⟩
end

/-! ### works -/
set_option maxHeartbeats 4000000 in
theorem works_ok (w : World) : Calls Try.prog 11 #[] w fun e w' => e = .returned (.bool true) ∧ Below w.heap.size w w' := by
  have i1 : I64 1 := by unfold I64; decide
  have i3 : I64 3 := by unfold I64; decide
  have i5 : I64 5 := by unfold I64; decide
  have i7 : I64 7 := by unfold I64; decide
  have N0 := Lib.hid (fun W hB => own_made w W hB)
  have S1 : Hid (∀ W b, Own w W b [] → Calls Try.prog 14 #[.pointer (some ⟨b, 0, none⟩), .int .i64 7, .int .i64 10] W fun e w' => e = .returned (.int .i64 0) ∧ Own w w' b [(7, 10)]) := fun W b h => own_set h i7 10
  have S2 : Hid (∀ W b, Own w W b [(7, 10)] → Calls Try.prog 14 #[.pointer (some ⟨b, 0, none⟩), .int .i64 3, .int .i64 10] W fun e w' => e = .returned (.int .i64 0) ∧ Own w w' b [(3, 10), (7, 10)]) := fun W b h => own_set h i3 10
  have S3 : Hid (∀ W b, Own w W b [(3, 10), (7, 10)] → Calls Try.prog 14 #[.pointer (some ⟨b, 0, none⟩), .int .i64 5, .int .i64 4] W fun e w' => e = .returned (.int .i64 0) ∧ Own w w' b [(5, 4), (3, 10), (7, 10)]) := fun W b h => own_set h i5 4
  have S4 : Hid (∀ W b, Own w W b [(5, 4), (3, 10), (7, 10)] → Calls Try.prog 14 #[.pointer (some ⟨b, 0, none⟩), .int .i64 1, .int .i64 (-1)] W fun e w' => e = .returned (.int .i64 2) ∧ Own w w' b [(5, 4), (3, 10), (7, 10)]) := fun W b h => own_set h i1 (-1)
  have X1 : Hid (∀ W b, Own w W b [(5, 4), (3, 10), (7, 10)] → Calls Try.prog 23 #[.pointer (some ⟨b, 0, none⟩)] W fun e w' => e = .returned (.tuple #[.int .i64 5, .int .i64 4, .bool true]) ∧ Own w w' b [(5, 4), (3, 10), (7, 10)]) := fun W b h => own_next h
  have D1 : Hid (∀ W b, Own w W b [(5, 4), (3, 10), (7, 10)] → Calls Try.prog 19 #[.pointer (some ⟨b, 0, none⟩), .int .i64 9] W fun e w' => ∃ a c, e = .returned (.slice a 1 c) ∧ Own w w' b [(3, 10), (7, 10)] ∧ Rd w' (.slice a 1 c) [5]) := fun W b h => (own_due h 9).mono fun e w' ⟨a, c, h1, _, _, h2, h3⟩ => ⟨a, c, h1, h2, h3⟩
  have D2 : Hid (∀ W b, Own w W b [(3, 10), (7, 10)] → Calls Try.prog 19 #[.pointer (some ⟨b, 0, none⟩), .int .i64 9] W fun e w' => ∃ a c, e = .returned (.slice a 0 c) ∧ Own w w' b [(3, 10), (7, 10)]) := fun W b h => (own_due h 9).mono fun e w' ⟨a, c, h1, _, _, h2, h3⟩ => ⟨a, c, h1, h2⟩
  have D3 : Hid (∀ W b, Own w W b [(3, 10), (7, 10)] → Calls Try.prog 19 #[.pointer (some ⟨b, 0, none⟩), .int .i64 10] W fun e w' => ∃ a c, e = .returned (.slice a 2 c) ∧ Own w w' b [] ∧ Rd w' (.slice a 2 c) [3, 7]) := fun W b h => (own_due h 10).mono fun e w' ⟨a, c, h1, _, _, h2, h3⟩ => ⟨a, c, h1, h2, h3⟩
  have T1 : Hid (∀ W b a c g, Own w W b [(3, 10), (7, 10)] → Rd W (.slice a 1 c) [5] → g = W.heap.size → Calls Try.prog 18 #[.slice a 1 c, .slice (some ⟨g, 0, none⟩) 1 1] (W.alloc (.cells #[.int .i64 5] 3)) fun e w' => e = .returned (.bool true) ∧ Own w w' b [(3, 10), (7, 10)]) := fun W b a c g h hr hg => by
    subst hg
    have hb : Below W.heap.size W (W.alloc (.cells #[.int .i64 5] 3)) := (Below.refl _ _).alloc (Nat.le_refl _) _
    refine (ints_ok _ _ [5] (by decide) _ (hr.below hb) (Rd.of_own (own_of_cells (l := [5]) (Bk.new W 3 #[.int .i64 5]) rfl (by decide) (by decide) fun j x hj => ?_))).mono ?_
    · rw [(Bk.new W 3 #[.int .i64 5]).cell]
      rcases j with _ | j
      · simpa using hj
      · simp at hj
    · rintro e w' ⟨rfl, q, rfl⟩
      exact ⟨rfl, (h.below hb).below (bel_drewN (Below.refl _ _) q)⟩
  have T2 : Hid (∀ W b a c g, Own w W b [] → Rd W (.slice a 2 c) [3, 7] → g = W.heap.size → Calls Try.prog 18 #[.slice a 2 c, .slice (some ⟨g, 0, none⟩) 2 2] (W.alloc (.cells #[.int .i64 3, .int .i64 7] 3)) fun e w' => e = .returned (.bool true) ∧ Own w w' b []) := fun W b a c g h hr hg => by
    subst hg
    have hb : Below W.heap.size W (W.alloc (.cells #[.int .i64 3, .int .i64 7] 3)) := (Below.refl _ _).alloc (Nat.le_refl _) _
    refine (ints_ok _ _ [3, 7] (by decide) _ (hr.below hb) (Rd.of_own (own_of_cells (l := [3, 7]) (Bk.new W 3 #[.int .i64 3, .int .i64 7]) rfl (by decide) (by decide) fun j x hj => ?_))).mono ?_
    · rw [(Bk.new W 3 #[.int .i64 3, .int .i64 7]).cell]
      rcases j with _ | _ | j
      · simpa using hj
      · simpa using hj
      · simp at hj
    · rintro e w' ⟨rfl, q, rfl⟩
      exact ⟨rfl, (h.below hb).below (bel_drewN (Below.refl _ _) q)⟩
  have P1 : Hid (∀ W b, Own w W b [] → Calls Try.prog 16 #[.pointer (some ⟨b, 0, none⟩), .int .i64 7] W fun e w' => e = .returned (.bool false) ∧ Own w w' b []) := fun W b h => own_drop h i7
  have L1 : Hid (∀ W b, Own w W b [] → Calls Try.prog 27 #[.pointer (some ⟨b, 0, none⟩)] W fun e w' => e = .returned (.int .i64 0) ∧ W = w') := fun W b h => own_len h
  clear i1 i3 i5 i7
  go_enter Try.func11, Try.ntmps11
  go_wp2_with (first
    | (go_at_call 12; refine (N0.out _ (Below.refl _ _)).mono ?_; rintro e w1 ⟨b, rfl, ho⟩; have HO := Lib.hid ho; clear ho)
    | (go_at_call 14; (with_reducible refine (S1.out _ _ HO.out).mono ?_); rintro e w2 ⟨rfl, ho⟩; have HO := Lib.hid ho; clear ho)
    | (go_at_call 14; (with_reducible refine (S2.out _ _ HO.out).mono ?_); rintro e w3 ⟨rfl, ho⟩; have HO := Lib.hid ho; clear ho)
    | (go_at_call 14; (with_reducible refine (S3.out _ _ HO.out).mono ?_); rintro e w4 ⟨rfl, ho⟩; have HO := Lib.hid ho; clear ho)
    | (go_at_call 14; (with_reducible refine (S4.out _ _ HO.out).mono ?_); rintro e w5 ⟨rfl, ho⟩; have HO := Lib.hid ho; clear ho)
    | (go_at_call 23; (with_reducible refine (X1.out _ _ HO.out).mono ?_); rintro e w6 ⟨rfl, ho⟩; have HO := Lib.hid ho; clear ho)
    | (go_at_call 19; (with_reducible refine (D1.out _ _ HO.out).mono ?_); rintro e w7 ⟨a7, c7, rfl, ho, hr⟩; have HO := Lib.hid ho; have HR := Lib.hid hr; clear ho hr)
    | (go_at_call 18; (with_reducible refine (T1.out _ _ _ _ _ HO.out HR.out rfl).mono ?_); rintro e w8 ⟨rfl, ho⟩; have HO := Lib.hid ho; clear ho HR)
    | (go_at_call 19; (with_reducible refine (D2.out _ _ HO.out).mono ?_); rintro e w9 ⟨a9, c9, rfl, ho⟩; have HO := Lib.hid ho; clear ho)
    | (go_at_call 19; (with_reducible refine (D3.out _ _ HO.out).mono ?_); rintro e w7 ⟨a7, c7, rfl, ho, hr⟩; have HO := Lib.hid ho; have HR := Lib.hid hr; clear ho hr)
    | (go_at_call 18; (with_reducible refine (T2.out _ _ _ _ _ HO.out HR.out rfl).mono ?_); rintro e w8 ⟨rfl, ho⟩; have HO := Lib.hid ho; clear ho HR)
    | (go_at_call 16; (with_reducible refine (P1.out _ _ HO.out).mono ?_); rintro e w10 ⟨rfl, ho⟩; have HO := Lib.hid ho; clear ho)
    | (go_at_call 27; (with_reducible refine (L1.out _ _ HO.out).mono ?_); rintro e w11 ⟨rfl, rfl⟩))
  go_ret
  exact ⟨rfl, HO.out.bel⟩
end Go.Proofs.Ytlnjgbdekcgmpaa
