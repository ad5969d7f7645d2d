/- Contracts of the document's queue: New, valid, before, find, When, Len, Next. -/
import Derived.Test.YtlnjgbdekcgmpaaEu
namespace Go.Proofs.Ytlnjgbdekcgmpaa
open Go.RowKit

theorem rnew_ok (w : World) : Calls Try.prog 13 #[] w fun e w' => e = .returned (.pointer (some ⟨w.heap.size, 0, none⟩)) ∧ RqW w' w.heap.size (.slice none 0 0) [] ∧ Below w.heap.size w w' := by
  go_enter Try.func13, Try.ntmps13
  go_wp2
  go_ret
  exact ⟨rfl, ⟨Bk.new w _ _, World.ownsRow_nil _ _ _ _, by simp, by decide⟩, (Below.refl _ _).alloc (Nat.le_refl _) _⟩
theorem rvalid_ok (b : Nat) (v : Value) (L : List En) (w : World) (h : RqW w b v L) : Calls Try.prog 32 #[.pointer (some ⟨b, 0, none⟩)] w fun e w' => e = .returned (.bool true) ∧ w = w' := by
  have h0 := h.c0
  go_enter Try.func32, Try.ntmps32
  go_wp2
  go_ret
  exact ⟨rfl, rfl⟩
theorem before_ok (x y : En) (w : World) : Calls Try.prog 33 #[.agg #[.int .i64 x.1, .int .i64 x.2], .agg #[.int .i64 y.1, .int .i64 y.2]] w fun e w' => e = .returned (.bool (lt x y)) ∧ Below w.heap.size w w' := by
  obtain ⟨x1, x2⟩ := x
  obtain ⟨y1, y2⟩ := y
  have hB : Below w.heap.size w ((w.alloc (.cells #[.int .i64 x1, .int .i64 x2] 63)).alloc (.cells #[.int .i64 y1, .int .i64 y2] 63)) := ((Below.refl _ _).alloc (Nat.le_refl _) _).alloc (by simp) _
  have HB := Lib.hid hB
  clear hB
  unfold lt
  simp only
  by_cases h1 : x2 < y2
  · have h2 : decide (x2 < y2) = true := by simpa using h1
    rw [h2]
    go_enter Try.func33, Try.ntmps33
    go_wp2
    go_ret
    exact ⟨rfl, HB.out⟩
  · have h2 : decide (x2 < y2) = false := by simpa using h1
    rw [h2]
    by_cases h3 : x2 = y2
    · subst h3
      go_enter Try.func33, Try.ntmps33
      go_wp2
      go_ret
      exact ⟨by simp, HB.out⟩
    · have h4 : decide (x2 = y2) = false := by simpa using h3
      rw [h4]
      have h5 : (x2 == y2) = false := by simpa using h3
      go_enter Try.func33, Try.ntmps33
      go_wp2
      go_ret
      exact ⟨rfl, HB.out⟩
theorem rlen_ok (b : Nat) (v : Value) (L : List En) (w : World) (h : RqW w b v L) : Calls Try.prog 28 #[.pointer (some ⟨b, 0, none⟩)] w fun e w' => e = .returned (.int .i64 L.length) ∧ w = w' := by
  obtain ⟨a, c, rfl, h1, h2, _⟩ := h.form
  have hc := h.c1
  go_enter Try.func28, Try.ntmps28
  go_wp2_with (go_at_call 32; refine (rvalid_ok _ _ _ _ h).mono ?_; rintro e w' ⟨rfl, rfl⟩)
  go_ret
  exact ⟨rfl, rfl⟩
/-- Where an id stands. -/
def fnd (L : List En) (i : Int) : Int := match L.findIdx? (fun e => e.1 == i) with | some j => j | none => -1
set_option maxHeartbeats 1000000 in
theorem find_ok (b : Nat) (v : Value) (L : List En) (i : Int) (w : World) (h : RqW w b v L) : Calls Try.prog 35 #[.pointer (some ⟨b, 0, none⟩), .int .i64 i] w fun e w' => e = .returned (.int .i64 (fnd L i)) ∧ w = w' := by
  obtain ⟨a, c, rfl, hc1, hc2, _, hcell⟩ := h.form
  have hc := h.c1
  have HH := Lib.hid h
  have HC := Lib.hid hcell
  obtain ⟨n, hn⟩ : ∃ n, L.length = n := ⟨_, rfl⟩
  have hl := h.len
  have VA : Hid (Calls Try.prog 32 #[.pointer (some ⟨b, 0, none⟩)] w fun e w' => e = .returned (.bool true) ∧ w = w') := rvalid_ok _ _ _ _ h
  rw [hn] at hc1 hc hl
  have HN := Lib.hid hn
  clear h hcell hn
  have hcm : c ≤ 9223372036854775807 := by unfold maxLen at hc2; omega
  clear hc2
  go_enter Try.func35, Try.ntmps35
  go_wp2
  go_loopw [5] (fun s wr => ∃ j : Nat, j ≤ n ∧ s = .int .i64 j ∧ wr = w ∧ Hid (∀ k x, k < j → L[k]? = some x → x.1 ≠ i)) (fun s _ => n - (intOf s).toNat)
  case atStart => exact ⟨0, Nat.zero_le _, rfl, rfl, fun k x hk => absurd hk (Nat.not_lt_zero _)⟩
  case round =>
    obtain ⟨j, hj, rfl, rfl, HF⟩ := hrel
    by_cases hlt : j < n
    · obtain ⟨x, hx⟩ : ∃ x, L[j]? = some x := ⟨_, List.getElem?_eq_getElem (by rw [HN.out]; exact hlt)⟩
      obtain ⟨g, rfl, k1, k2⟩ := HC.out j x hx
      have HX := Lib.hid hx
      clear hx k2
      obtain ⟨y, hy⟩ : ∃ y, x.1 = y := ⟨_, rfl⟩
      have HY := Lib.hid hy
      rw [hy] at k1
      clear hy
      by_cases he : y = i
      · go_wp2_with (go_at_call 32; refine VA.out.mono ?_; rintro e w' ⟨rfl, rfl⟩)
        go_ret
        refine ⟨?_, rfl⟩
        have : fnd L i = j := by
          unfold fnd
          have hjl := (List.getElem?_eq_some_iff.1 HX.out)
          rw [show L.findIdx? (fun e => e.1 == i) = some j from List.findIdx?_eq_some_iff_getElem.2 ⟨hjl.1, by rw [hjl.2, HY.out, he]; simp, fun k hk => by
            have := HF.out k _ hk (List.getElem?_eq_getElem (by have := hjl.1; omega))
            simpa using this⟩]
        rw [this]
        rfl
      · go_wp2_with (go_at_call 32; refine VA.out.mono ?_; rintro e w' ⟨rfl, rfl⟩)
        go_roundw
        case rel => exact ⟨j + 1, by omega, by go_num, trivial, fun k z hk hz => by
          rcases Nat.lt_or_ge k j with h | h
          · exact HF.out k z h hz
          · obtain rfl : k = j := by omega
            rw [HX.out] at hz
            obtain rfl := Option.some.inj hz
            rw [HY.out]; exact he⟩
        case measure => simp [intOf]; omega
    · obtain rfl : j = n := by omega
      go_wp2_with (go_at_call 32; refine VA.out.mono ?_; rintro e w' ⟨rfl, rfl⟩)
      go_ret
      refine ⟨?_, rfl⟩
      have : fnd L i = -1 := by
        unfold fnd
        rw [show L.findIdx? (fun e => e.1 == i) = none from List.findIdx?_eq_none_iff.2 fun x hx => by
          obtain ⟨k, hk, rfl⟩ := List.mem_iff_getElem.1 hx
          have := HF.out k _ (by rw [← HN.out]; exact hk) (List.getElem?_eq_getElem hk)
          simpa using this]
      rw [this]
      rfl
theorem fnd_cases (L : List En) (i : Int) : (fnd L i = -1 ∧ tm L i = none) ∨ ∃ (j : Nat) (x : En), fnd L i = j ∧ L[j]? = some x ∧ x.1 = i ∧ tm L i = some x.2 := by
  unfold fnd tm
  cases h : L.findIdx? fun e => e.1 == i with
  | none =>
    refine .inl ⟨rfl, ?_⟩
    rw [List.findIdx?_eq_none_iff] at h
    rw [List.find?_eq_none.2 (fun x hx => by simpa using h x hx)]
    rfl
  | some j =>
    obtain ⟨hj, h1, h2⟩ := List.findIdx?_eq_some_iff_getElem.1 h
    refine .inr ⟨j, L[j], rfl, List.getElem?_eq_getElem hj, by simpa using h1, ?_⟩
    rw [show L.find? (fun e => e.1 == i) = some L[j] from List.find?_eq_some_iff_getElem.2 ⟨h1, j, hj, rfl, fun k hk => by simpa using h2 k hk⟩]
    rfl
theorem rwhen_ok (b : Nat) (v : Value) (L : List En) (i : Int) (w : World) (h : RqW w b v L) : Calls Try.prog 26 #[.pointer (some ⟨b, 0, none⟩), .int .i64 i] w fun e w' => e = .returned (.tuple #[.int .i64 ((tm L i).getD 0), .bool (tm L i).isSome]) ∧ w = w' := by
  have FI := Lib.hid (find_ok b v L i w h)
  rcases fnd_cases L i with ⟨h1, h2⟩ | ⟨j, x, h1, h2, h3, h4⟩
  · rw [h1] at FI
    rw [h2]
    clear h
    go_enter Try.func26, Try.ntmps26
    go_wp2_with (go_at_call 35; refine FI.out.mono ?_; rintro e w' ⟨rfl, rfl⟩)
    go_ret2
    exact ⟨rfl, rfl⟩
  · rw [h1] at FI
    rw [h4]
    obtain ⟨a, c, rfl, hc1, hc2, _, hcell⟩ := h.form
    have hc := h.c1
    obtain ⟨g, rfl, _, k2⟩ := hcell j x h2
    have hj := (List.getElem?_eq_some_iff.1 h2).1
    have hl := h.len
    obtain ⟨y, hy⟩ : ∃ y, x.2 = y := ⟨_, rfl⟩
    rw [hy] at k2 ⊢
    clear h hcell h2 h3 h4 hy h1
    go_enter Try.func26, Try.ntmps26
    go_wp2_with (go_at_call 35; refine FI.out.mono ?_; rintro e w' ⟨rfl, rfl⟩)
    go_ret2
    exact ⟨rfl, rfl⟩
theorem rnext_ok (b : Nat) (v : Value) (L : List En) (w : World) (h : RqW w b v L) : Calls Try.prog 24 #[.pointer (some ⟨b, 0, none⟩)] w fun e w' => e = .returned (.tuple #[.int .i64 (L.headD (0, 0)).1, .int .i64 (L.headD (0, 0)).2, .bool !L.isEmpty]) ∧ Below w.heap.size w w' := by
  have VA := Lib.hid (rvalid_ok b v L w h)
  obtain ⟨a, c, rfl, hc1, hc2, _, hcell⟩ := h.form
  have hc := h.c1
  cases L with
  | nil =>
    clear h hcell
    go_enter Try.func24, Try.ntmps24
    go_wp2_with (go_at_call 32; refine VA.out.mono ?_; rintro e w' ⟨rfl, rfl⟩)
    go_ret3
    exact ⟨rfl, Below.refl _ _⟩
  | cons x M =>
    obtain ⟨g, rfl, k1, k2⟩ := hcell 0 x rfl
    simp only [List.length_cons] at hc hc1 VA
    have hl := h.len
    simp only [List.length_cons] at hl
    generalize M.length = n at *
    show Calls _ _ _ _ fun e w' => e = .returned (.tuple #[.int .i64 x.1, .int .i64 x.2, .bool true]) ∧ _
    obtain ⟨x1, x2⟩ := x
    simp only at k1 k2 ⊢
    clear h hcell
    go_enter Try.func24, Try.ntmps24
    go_wp2_with (go_at_call 32; refine VA.out.mono ?_; rintro e w' ⟨rfl, rfl⟩)
    go_quiet (fail)
    all_goals
      go_wp2
      go_ret3
      exact ⟨rfl, bel_drewN (Below.refl _ _) _⟩
end Go.Proofs.Ytlnjgbdekcgmpaa
