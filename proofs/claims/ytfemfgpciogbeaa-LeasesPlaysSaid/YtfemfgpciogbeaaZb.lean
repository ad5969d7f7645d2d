/- The contracts of the document's Until, Over, Return. -/
import Derived.Test.YtfemfgpciogbeaaZa
namespace Go.Proofs.Ytfemfgpciogbeaa
open Go.RowKit

theorem euntil_nil (x y z : Int) (w : World) : Calls Try.prog 20 #[.pointer none, .agg #[.int .i64 x, .int .i64 y, .int .u32 z]] w fun e w' => e = .returned (.tuple #[.int .i64 0, .int .i64 1]) ∧ Below w.heap.size w w' := by
  go_enter Try.func20, Try.ntmps20
  go_wp2_with (go_at_call 50; refine (echeck_nil _ _ _ _ _).mono ?_; rintro e w2 ⟨rfl, hb2⟩; have HB := Lib.hid (bel2 (bal _ _) hb2); clear hb2)
  go_ret2
  exact ⟨rfl, HB.out⟩
set_option maxHeartbeats 1000000 in
theorem euntil_ok (q c d g : Nat) (D : Dk) (x y z : Int) (hr : RgO x y z) (w : World) (h : QW w q c d g D) : Calls Try.prog 20 #[.pointer (some ⟨q, 0, none⟩), .agg #[.int .i64 x, .int .i64 y, .int .u32 z]] w fun e w' => e = .returned (.tuple #[.int .i64 (D.til x y z), .int .i64 (D.chk x y z)]) ∧ Below w.heap.size w w' := by
  have CK : Hid (∀ W, Below w.heap.size w W → Calls Try.prog 50 #[.pointer (some ⟨q, 0, none⟩), .agg #[.int .i64 x, .int .i64 y, .int .u32 z], .bool false] W fun e w' => e = .returned (.int .i64 (D.chk x y z)) ∧ Below W.heap.size W w') := fun W hW => echeck_ok q c d g D x y z hr W (h.below hW)
  by_cases h0 : D.chk x y z = 0
  · obtain ⟨rfl, i, rfl, hi, hs, rfl⟩ := Dk.chk_is h0
    have e1 : D.til 3 i (D.t.g i) = D.u i := by unfold Dk.til; rw [if_pos h0, Int.toNat_natCast]
    rw [h0] at CK ⊢
    rw [e1]
    have HC : Hid (∀ W, Below w.heap.size w W → ∃ cap, W.cell? ⟨q, 2, none⟩ = some (.slice (some ⟨g, 0, none⟩) D.t.n cap) ∧ D.t.n ≤ cap ∧ cap ≤ 9223372036854775807 ∧ q < W.heap.size ∧ W.cell? ⟨g, i, none⟩ = some (.int .i64 (D.u i)) ∧ g < W.heap.size) := fun W hW => by
      obtain ⟨cap, _, _, h1, h2, h3⟩ := (h.below hW).cells
      obtain ⟨h4, _, h5⟩ := (h.below hW).ci hi
      exact ⟨cap, h1, h2, h3, World.block_lt_of_cell? _ _ h1, h4, h5⟩
    have hiz : (i : Int) < D.t.n := by omega
    clear h hr hs h0 e1
    generalize D.t.n = n at *
    generalize D.t.g i = z at *
    generalize D.u i = uu at *
    go_enter Try.func20, Try.ntmps20
    go_wp2_with (go_at_call 50; refine (CK.out _ (bal _ _)).mono ?_; rintro e w2 ⟨rfl, hb2⟩; have HB := Lib.hid (bel2 (bal _ _) hb2); obtain ⟨q0, q1, q2, hl2⟩ := box_o hb2; obtain ⟨cap, c2, c3, c4, c5, c6, c7⟩ := HC.out w2 HB.out; clear hb2)
    go_quiet (fail)
    go_wp2
    go_ret2
    exact ⟨rfl, bel_drewN HB.out _⟩
  · have e1 : D.til x y z = 0 := by unfold Dk.til; rw [if_neg h0]
    rw [e1]
    generalize D.chk x y z = E at *
    have h1 : (E != 0) = true := by simpa using h0
    clear h hr h0 e1
    go_enter Try.func20, Try.ntmps20
    go_wp2_with (go_at_call 50; refine (CK.out _ (bal _ _)).mono ?_; rintro e w2 ⟨rfl, hb2⟩; have HB := Lib.hid (bel2 (bal _ _) hb2); clear hb2)
    go_ret2
    exact ⟨rfl, HB.out⟩

/-- check, told what is wrong. -/
theorem echeck_any (q c d g : Nat) (D : Dk) (x y z E : Int) (r : Bool) (hr : RgO x y z) (w : World) (h : QW w q c d g D) (e : (if r = true then 2 else D.chk x y z) = E) : Calls Try.prog 50 #[.pointer (some ⟨q, 0, none⟩), .agg #[.int .i64 x, .int .i64 y, .int .u32 z], .bool r] w fun e w' => e = .returned (.int .i64 E) ∧ Below w.heap.size w w' := by
  subst e
  cases r with
  | true => obtain ⟨_, c0, _⟩ := h.cells; exact echeck_wrong q x y z w c0
  | false => exact echeck_ok q c d g D x y z hr w h
theorem eover_nil (x y z now : Int) (w : World) : Calls Try.prog 22 #[.pointer none, .agg #[.int .i64 x, .int .i64 y, .int .u32 z], .int .i64 now] w fun e w' => e = .returned (.tuple #[.bool false, .int .i64 1]) ∧ Below w.heap.size w w' := by
  obtain ⟨r, hr⟩ : ∃ r, decide (IsTime now) = r := ⟨_, rfl⟩
  obtain ⟨w1, hw1⟩ : ∃ w1, w.alloc (.cells #[.int .i64 x, .int .i64 y, .int .u32 z] 33) = w1 := ⟨_, rfl⟩
  have HW := Lib.hid hw1
  have b0 : Bk w1 w.heap.size 33 #[.int .i64 x, .int .i64 y, .int .u32 z] := hw1 ▸ Bk.new w _ _
  have B1 : Hid (Below w.heap.size w w1) := hw1 ▸ bal _ _
  obtain ⟨q0, q1, q2, q3⟩ := ob_cells b0
  have TM : Hid (∀ W, Calls Try.prog 45 #[.int .i64 now] W fun e w' => e = .returned (.bool r) ∧ W = w') := fun W => etime_is now r W hr
  clear b0 hw1 hr
  go_enter Try.func22, Try.ntmps22
  go_wp2
  rw [HW.out]
  go_region_held3 (fun W => W.cell? ⟨w.heap.size, 0, none⟩ = some (.int .i64 x) ∧ W.cell? ⟨w.heap.size, 1, none⟩ = some (.int .i64 y) ∧ W.cell? ⟨w.heap.size, 2, none⟩ = some (.int .u32 z)) (first | (with_reducible exact hz1) | (exact ⟨q0, q1, q2⟩)) (first
    | (go_at_call 45; refine (TM.out _).mono ?_; rintro e w' ⟨rfl, rfl⟩)
    | (go_at_call 50; refine (echeck_nil _ _ _ _ _).mono ?_; rintro e w5 ⟨rfl, hb5⟩; have HB5 := Lib.hid (bel2 (bel2 B1.out (by exact ⟨rfl, rfl, rfl, Nat.le_refl _, fun _ _ => rfl⟩)) hb5); have hz1 := And.intro (cell_keeps hb5 q0) (And.intro (cell_keeps hb5 q1) (cell_keeps hb5 q2)); clear hb5))
  all_goals
    go_wp2
    go_ret2
    exact ⟨rfl, HB5.out⟩
set_option maxHeartbeats 2000000 in
theorem eover_ok (q c d g : Nat) (D : Dk) (x y z now : Int) (hr : RgO x y z) (w : World) (h : QW w q c d g D) : Calls Try.prog 22 #[.pointer (some ⟨q, 0, none⟩), .agg #[.int .i64 x, .int .i64 y, .int .u32 z], .int .i64 now] w fun e w' => e = .returned (.tuple #[.bool (D.ovr x y z now), .int .i64 (D.oE x y z now)]) ∧ Below w.heap.size w w' := by
  obtain ⟨r, hrr⟩ : ∃ r, decide (IsTime now) = r := ⟨_, rfl⟩
  obtain ⟨E, hE⟩ : ∃ E, D.oE x y z now = E := ⟨_, rfl⟩
  have he : (if (!r) = true then 2 else D.chk x y z) = E := by
    rw [← hE, ← hrr]
    unfold Dk.oE
    by_cases ht : IsTime now <;> simp [ht]
  obtain ⟨w1, hw1⟩ : ∃ w1, w.alloc (.cells #[.int .i64 x, .int .i64 y, .int .u32 z] 33) = w1 := ⟨_, rfl⟩
  have HW := Lib.hid hw1
  have b0 : Bk w1 w.heap.size 33 #[.int .i64 x, .int .i64 y, .int .u32 z] := hw1 ▸ Bk.new w _ _
  have B1 : Hid (Below w.heap.size w w1) := hw1 ▸ bal _ _
  obtain ⟨q0, q1, q2, q3⟩ := ob_cells b0
  have TM : Hid (∀ W, Calls Try.prog 45 #[.int .i64 now] W fun e w' => e = .returned (.bool r) ∧ W = w') := fun W => etime_is now r W hrr
  have CK : Hid (∀ W, Below w.heap.size w W → Calls Try.prog 50 #[.pointer (some ⟨q, 0, none⟩), .agg #[.int .i64 x, .int .i64 y, .int .u32 z], .bool (!r)] W fun e w' => e = .returned (.int .i64 E) ∧ Below W.heap.size W w') := fun W hW => echeck_any q c d g D x y z E _ hr W (h.below hW) he
  rw [hE]
  by_cases h0 : E = 0
  · have ht : IsTime now ∧ D.chk x y z = 0 := by
      unfold Dk.oE at hE
      split at hE
      · rename_i ht; exact ⟨ht, by rw [hE, h0]⟩
      · omega
    have hv : D.ovr x y z now = decide ((D.u y.toNat : Int) ≤ now) := by unfold Dk.ovr; rw [hE, if_pos h0]
    obtain ⟨rfl, i, rfl, hi, hs, rfl⟩ := Dk.chk_is ht.2
    rw [hv, Int.toNat_natCast]
    have HC : Hid (∀ W, Below w.heap.size w W → ∃ cap, W.cell? ⟨q, 2, none⟩ = some (.slice (some ⟨g, 0, none⟩) D.t.n cap) ∧ D.t.n ≤ cap ∧ cap ≤ 9223372036854775807 ∧ q < W.heap.size ∧ W.cell? ⟨g, i, none⟩ = some (.int .i64 (D.u i)) ∧ g < W.heap.size) := fun W hW => by
      obtain ⟨cap, _, _, h1, h2, h3⟩ := (h.below hW).cells
      obtain ⟨h4, _, h5⟩ := (h.below hW).ci hi
      exact ⟨cap, h1, h2, h3, World.block_lt_of_cell? _ _ h1, h4, h5⟩
    have hiz : (i : Int) < D.t.n := by omega
    clear h hr hs ht hv he hE hrr b0 hw1
    subst h0
    generalize D.t.n = n at *
    generalize D.t.g i = z at *
    generalize D.u i = uu at *
    go_enter Try.func22, Try.ntmps22
    go_wp2
    rw [HW.out]
    go_region_held3 (fun W => W.cell? ⟨w.heap.size, 0, none⟩ = some (.int .i64 3) ∧ W.cell? ⟨w.heap.size, 1, none⟩ = some (.int .i64 i) ∧ W.cell? ⟨w.heap.size, 2, none⟩ = some (.int .u32 z)) (first | (with_reducible exact hz1) | (exact ⟨q0, q1, q2⟩)) (first
      | (go_at_call 45; refine (TM.out _).mono ?_; rintro e w' ⟨rfl, rfl⟩)
      | (go_at_call 50; (with_reducible refine (CK.out _ (bel2 B1.out (by exact ⟨rfl, rfl, rfl, Nat.le_refl _, fun _ _ => rfl⟩))).mono ?_); rintro e w5 ⟨rfl, hb5⟩; have HB5 := Lib.hid (bel2 (bel2 B1.out (by exact ⟨rfl, rfl, rfl, Nat.le_refl _, fun _ _ => rfl⟩)) hb5); have hz1 := And.intro (cell_keeps hb5 q0) (And.intro (cell_keeps hb5 q1) (cell_keeps hb5 q2)); have hz2 := Nat.lt_of_lt_of_le q3 hb5.size; clear hb5))
    all_goals
      clear q0 q1 q2
      obtain ⟨q0, q1, q2⟩ := hz1
      obtain ⟨cap, c2, c3, c4, c5, c6, c7⟩ := HC.out w5 HB5.out
      go_wp2
      go_quiet (fail)
      go_wp2
      go_ret2
      exact ⟨rfl, bel_drewN HB5.out _⟩
  · have hv : D.ovr x y z now = false := by unfold Dk.ovr; rw [hE, if_neg h0]
    rw [hv]
    have h1 : (E != 0) = true := by simpa using h0
    clear h hr hv he hE hrr b0 hw1 h0
    go_enter Try.func22, Try.ntmps22
    go_wp2
    rw [HW.out]
    go_region_held3 (fun W => W.cell? ⟨w.heap.size, 0, none⟩ = some (.int .i64 x) ∧ W.cell? ⟨w.heap.size, 1, none⟩ = some (.int .i64 y) ∧ W.cell? ⟨w.heap.size, 2, none⟩ = some (.int .u32 z)) (first | (with_reducible exact hz1) | (exact ⟨q0, q1, q2⟩)) (first
      | (go_at_call 45; refine (TM.out _).mono ?_; rintro e w' ⟨rfl, rfl⟩)
      | (go_at_call 50; (with_reducible refine (CK.out _ (bel2 B1.out (by exact ⟨rfl, rfl, rfl, Nat.le_refl _, fun _ _ => rfl⟩))).mono ?_); rintro e w5 ⟨rfl, hb5⟩; have HB5 := Lib.hid (bel2 (bel2 B1.out (by exact ⟨rfl, rfl, rfl, Nat.le_refl _, fun _ _ => rfl⟩)) hb5); have hz1 := And.intro (cell_keeps hb5 q0) (And.intro (cell_keeps hb5 q1) (cell_keeps hb5 q2)); clear hb5))
    all_goals
      go_wp2
      go_ret2
      exact ⟨rfl, HB5.out⟩
end Go.Proofs.Ytfemfgpciogbeaa
