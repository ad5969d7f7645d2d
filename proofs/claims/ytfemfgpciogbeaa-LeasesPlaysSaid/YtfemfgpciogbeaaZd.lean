/- The contract of the document's Renew. -/
import Derived.Test.YtfemfgpciogbeaaZc
namespace Go.Proofs.Ytfemfgpciogbeaa
open Go.RowKit

set_option maxRecDepth 100000 in
set_option maxHeartbeats 1000000 in
theorem erenew_a (p : Option Addr) (x y z t now E : Int) (w : World) (hs : ¬ IsSpan t)  (h0 : E ≠ 0) (CKh : ∀ W, Below w.heap.size w W → Calls Try.prog 50 #[.pointer p, .agg #[.int .i64 x, .int .i64 y, .int .u32 z], .bool true] W fun e w' => e = .returned (.int .i64 E) ∧ Below W.heap.size W w') : Calls Try.prog 16 #[.pointer p, .agg #[.int .i64 x, .int .i64 y, .int .u32 z], .int .i64 t, .int .i64 now] w fun e w' => e = .returned (.int .i64 E) ∧ Below w.heap.size w w' := by
  obtain ⟨w1, hw1⟩ : ∃ w1, w.alloc (.cells #[.int .i64 x, .int .i64 y, .int .u32 z] 33) = w1 := ⟨_, rfl⟩
  have HW := Lib.hid hw1
  have b0 : Bk w1 w.heap.size 33 #[.int .i64 x, .int .i64 y, .int .u32 z] := hw1 ▸ Bk.new w _ _
  have B1 : Hid (Below w.heap.size w w1) := hw1 ▸ bal _ _
  obtain ⟨q0, q1, q2, q3⟩ := ob_cells b0
  have SP : Hid (∀ W, Calls Try.prog 44 #[.int .i64 t] W fun e w' => e = .returned (.bool false) ∧ W = w') := fun W => espan_is t false W (by simpa using hs)
  have CK := Lib.hid CKh
  have h1 : (E != 0) = true := by simpa using h0
  clear CKh hs b0 hw1 h0
  have SP2 : Hid (Calls Try.prog 44 #[.int .i64 t] w1.drew fun e w' => e = .returned (.bool false) ∧ w' = w1.drew) := (SP.out _).mono fun _ _ h => ⟨h.1, h.2.symm⟩
  go_enter Try.func16, Try.ntmps16
  go_wp2
  rw [HW.out]
  go_still_tail 10, (by kernel_rfl)
  still_call SP2.out
  repeat still_step
  refine wpStill_nil ?_
  go_wp2_with (go_at_call 50; (with_reducible refine (CK.out _ (bel2 B1.out (by exact ⟨rfl, rfl, rfl, Nat.le_refl _, fun _ _ => rfl⟩))).mono ?_); rintro e w5 ⟨rfl, hb5⟩; have HB5 := Lib.hid (bel2 (bel2 B1.out (by exact ⟨rfl, rfl, rfl, Nat.le_refl _, fun _ _ => rfl⟩)) hb5); clear hb5)
  go_ret
  exact ⟨rfl, HB5.out⟩
set_option maxRecDepth 100000 in
set_option maxHeartbeats 1000000 in
theorem erenew_b (p : Option Addr) (x y z t now E : Int) (w : World) (hs : IsSpan t) (ht : ¬ IsTime now) (h0 : E ≠ 0) (CKh : ∀ W, Below w.heap.size w W → Calls Try.prog 50 #[.pointer p, .agg #[.int .i64 x, .int .i64 y, .int .u32 z], .bool true] W fun e w' => e = .returned (.int .i64 E) ∧ Below W.heap.size W w') : Calls Try.prog 16 #[.pointer p, .agg #[.int .i64 x, .int .i64 y, .int .u32 z], .int .i64 t, .int .i64 now] w fun e w' => e = .returned (.int .i64 E) ∧ Below w.heap.size w w' := by
  obtain ⟨w1, hw1⟩ : ∃ w1, w.alloc (.cells #[.int .i64 x, .int .i64 y, .int .u32 z] 33) = w1 := ⟨_, rfl⟩
  have HW := Lib.hid hw1
  have b0 : Bk w1 w.heap.size 33 #[.int .i64 x, .int .i64 y, .int .u32 z] := hw1 ▸ Bk.new w _ _
  have B1 : Hid (Below w.heap.size w w1) := hw1 ▸ bal _ _
  obtain ⟨q0, q1, q2, q3⟩ := ob_cells b0
  have SP : Hid (∀ W, Calls Try.prog 44 #[.int .i64 t] W fun e w' => e = .returned (.bool true) ∧ W = w') := fun W => espan_is t true W (by simpa using hs)
  have TM : Hid (∀ W, Calls Try.prog 45 #[.int .i64 now] W fun e w' => e = .returned (.bool false) ∧ W = w') := fun W => etime_is now false W (by simpa using ht)
  have CK := Lib.hid CKh
  have h1 : (E != 0) = true := by simpa using h0
  clear CKh hs ht b0 hw1 h0
  go_enter Try.func16, Try.ntmps16
  go_wp2
  rw [HW.out]
  go_region_held3 (fun W => W.cell? ⟨w.heap.size, 0, none⟩ = some (.int .i64 x) ∧ W.cell? ⟨w.heap.size, 1, none⟩ = some (.int .i64 y) ∧ W.cell? ⟨w.heap.size, 2, none⟩ = some (.int .u32 z)) (first | (with_reducible exact hz1) | (exact ⟨q0, q1, q2⟩)) (first
    | (go_at_call 44; refine (SP.out _).mono ?_; rintro e w' ⟨rfl, rfl⟩)
    | (go_at_call 45; refine (TM.out _).mono ?_; rintro e w' ⟨rfl, rfl⟩)
    | (go_at_call 50; (with_reducible refine (CK.out _ (bel2 B1.out (by exact ⟨rfl, rfl, rfl, Nat.le_refl _, fun _ _ => rfl⟩))).mono ?_); rintro e w5 ⟨rfl, hb5⟩; have HB5 := Lib.hid (bel2 (bel2 B1.out (by exact ⟨rfl, rfl, rfl, Nat.le_refl _, fun _ _ => rfl⟩)) hb5); have hz1 := And.intro (cell_keeps hb5 q0) (And.intro (cell_keeps hb5 q1) (cell_keeps hb5 q2)); have hz2 := Nat.lt_of_lt_of_le q3 hb5.size; clear hb5))
  all_goals
    go_wp2
    go_ret
    exact ⟨rfl, HB5.out⟩
set_option maxRecDepth 100000 in
set_option maxHeartbeats 1000000 in
theorem erenew_c (p : Option Addr) (x y z t now E : Int) (w : World) (hs : IsSpan t) (ht : IsTime now) (h0 : E ≠ 0) (CKh : ∀ W, Below w.heap.size w W → Calls Try.prog 50 #[.pointer p, .agg #[.int .i64 x, .int .i64 y, .int .u32 z], .bool false] W fun e w' => e = .returned (.int .i64 E) ∧ Below W.heap.size W w') : Calls Try.prog 16 #[.pointer p, .agg #[.int .i64 x, .int .i64 y, .int .u32 z], .int .i64 t, .int .i64 now] w fun e w' => e = .returned (.int .i64 E) ∧ Below w.heap.size w w' := by
  obtain ⟨w1, hw1⟩ : ∃ w1, w.alloc (.cells #[.int .i64 x, .int .i64 y, .int .u32 z] 33) = w1 := ⟨_, rfl⟩
  have HW := Lib.hid hw1
  have b0 : Bk w1 w.heap.size 33 #[.int .i64 x, .int .i64 y, .int .u32 z] := hw1 ▸ Bk.new w _ _
  have B1 : Hid (Below w.heap.size w w1) := hw1 ▸ bal _ _
  obtain ⟨q0, q1, q2, q3⟩ := ob_cells b0
  have SP : Hid (∀ W, Calls Try.prog 44 #[.int .i64 t] W fun e w' => e = .returned (.bool true) ∧ W = w') := fun W => espan_is t true W (by simpa using hs)
  have TM : Hid (∀ W, Calls Try.prog 45 #[.int .i64 now] W fun e w' => e = .returned (.bool true) ∧ W = w') := fun W => etime_is now true W (by simpa using ht)
  have CK := Lib.hid CKh
  have h1 : (E != 0) = true := by simpa using h0
  clear CKh hs ht b0 hw1 h0
  go_enter Try.func16, Try.ntmps16
  go_wp2
  rw [HW.out]
  go_region_held3 (fun W => W.cell? ⟨w.heap.size, 0, none⟩ = some (.int .i64 x) ∧ W.cell? ⟨w.heap.size, 1, none⟩ = some (.int .i64 y) ∧ W.cell? ⟨w.heap.size, 2, none⟩ = some (.int .u32 z)) (first | (with_reducible exact hz1) | (exact ⟨q0, q1, q2⟩)) (first
    | (go_at_call 44; refine (SP.out _).mono ?_; rintro e w' ⟨rfl, rfl⟩)
    | (go_at_call 45; refine (TM.out _).mono ?_; rintro e w' ⟨rfl, rfl⟩)
    | (go_at_call 50; (with_reducible refine (CK.out _ (bel2 B1.out (by exact ⟨rfl, rfl, rfl, Nat.le_refl _, fun _ _ => rfl⟩))).mono ?_); rintro e w5 ⟨rfl, hb5⟩; have HB5 := Lib.hid (bel2 (bel2 B1.out (by exact ⟨rfl, rfl, rfl, Nat.le_refl _, fun _ _ => rfl⟩)) hb5); have hz1 := And.intro (cell_keeps hb5 q0) (And.intro (cell_keeps hb5 q1) (cell_keeps hb5 q2)); have hz2 := Nat.lt_of_lt_of_le q3 hb5.size; clear hb5))
  all_goals
    go_wp2
    go_ret
    exact ⟨rfl, HB5.out⟩
set_option maxHeartbeats 2000000 in
theorem erenew_held (q _c _d g i n cap zz uu : Nat) (t now : Int) (w : World) (hs : IsSpan t) (ht : IsTime now) (E : Int) (Q : World → World → Prop) (hin : i < n)
    (CKh : ∀ W, Below w.heap.size w W → Calls Try.prog 50 #[.pointer (some ⟨q, 0, none⟩), .agg #[.int .i64 3, .int .i64 i, .int .u32 zz], .bool false] W fun e w' => e = .returned (.int .i64 0) ∧ Below W.heap.size W w')
    (HCh : ∀ W, Below w.heap.size w W → W.cell? ⟨q, 2, none⟩ = some (.slice (some ⟨g, 0, none⟩) n cap) ∧ n ≤ cap ∧ cap ≤ 9223372036854775807 ∧ q < W.heap.size ∧ W.cell? ⟨g, i, none⟩ = some (.int .i64 uu) ∧ W.frozen? ⟨g, i, none⟩ = false ∧ g < W.heap.size)
    (hE : ((uu : Int) ≤ now ∧ E = 8 ∧ ∀ W, Below w.heap.size w W → Q w W) ∨ (now < uu ∧ 1099511627776 < now + t ∧ E = 17 ∧ ∀ W, Below w.heap.size w W → Q w W) ∨ (now < uu ∧ now + t ≤ 1099511627776 ∧ E = 0 ∧ ∀ W, Below w.heap.size w W → Q w (W.setCell ⟨g, i, none⟩ (.int .i64 (now + t))))) :
    Calls Try.prog 16 #[.pointer (some ⟨q, 0, none⟩), .agg #[.int .i64 3, .int .i64 i, .int .u32 zz], .int .i64 t, .int .i64 now] w fun e w' => e = .returned (.int .i64 E) ∧ Q w w' := by
  obtain ⟨w1, hw1⟩ : ∃ w1, w.alloc (.cells #[.int .i64 3, .int .i64 i, .int .u32 zz] 33) = w1 := ⟨_, rfl⟩
  have HW := Lib.hid hw1
  have b0 : Bk w1 w.heap.size 33 #[.int .i64 3, .int .i64 i, .int .u32 zz] := hw1 ▸ Bk.new w _ _
  have B1 : Hid (Below w.heap.size w w1) := hw1 ▸ bal _ _
  obtain ⟨q0, q1, q2, q3⟩ := ob_cells b0
  have SP : Hid (∀ W, Calls Try.prog 44 #[.int .i64 t] W fun e w' => e = .returned (.bool true) ∧ W = w') := fun W => espan_is t true W (by simpa using hs)
  have TM : Hid (∀ W, Calls Try.prog 45 #[.int .i64 now] W fun e w' => e = .returned (.bool true) ∧ W = w') := fun W => etime_is now true W (by simpa using ht)
  have CK := Lib.hid CKh
  have HC := Lib.hid HCh
  have hiz : (i : Int) < n := by omega
  have ht1 := ht.1
  have ht2 := ht.2
  have hs1 := hs.1
  have hs2 := hs.2
  clear CKh HCh hs ht b0 hw1
  rcases hE with ⟨h1, rfl, hQ⟩ | ⟨h1, h2, rfl, hQ⟩ | ⟨h1, h2, rfl, hQ⟩
  · have HQ := Lib.hid hQ
    clear hQ
    go_enter Try.func16, Try.ntmps16
    go_wp2
    rw [HW.out]
    go_region_held3 (fun W => W.cell? ⟨w.heap.size, 0, none⟩ = some (.int .i64 3) ∧ W.cell? ⟨w.heap.size, 1, none⟩ = some (.int .i64 i) ∧ W.cell? ⟨w.heap.size, 2, none⟩ = some (.int .u32 zz)) (first | (with_reducible exact hz1) | (exact ⟨q0, q1, q2⟩)) (first
      | (go_at_call 44; refine (SP.out _).mono ?_; rintro e w' ⟨rfl, rfl⟩)
      | (go_at_call 45; refine (TM.out _).mono ?_; rintro e w' ⟨rfl, rfl⟩)
      | (go_at_call 50; (with_reducible refine (CK.out _ (bel2 B1.out (by exact ⟨rfl, rfl, rfl, Nat.le_refl _, fun _ _ => rfl⟩))).mono ?_); rintro e w5 ⟨rfl, hb5⟩; have HB5 := Lib.hid (bel2 (bel2 B1.out (by exact ⟨rfl, rfl, rfl, Nat.le_refl _, fun _ _ => rfl⟩)) hb5); have hz1 := And.intro (cell_keeps hb5 q0) (And.intro (cell_keeps hb5 q1) (cell_keeps hb5 q2)); have hz2 := Nat.lt_of_lt_of_le q3 hb5.size; clear hb5))
    all_goals
      clear q0 q1 q2
      obtain ⟨q0, q1, q2⟩ := hz1
      obtain ⟨c2, c3, c4, c5, c6, c8, c7⟩ := HC.out w5 HB5.out
      go_wp2
      go_quiet (fail)
      go_wp2
      go_ret
      exact ⟨rfl, HQ.out _ (bel_drewN HB5.out _)⟩
  · have HQ := Lib.hid hQ
    clear hQ
    go_enter Try.func16, Try.ntmps16
    go_wp2
    rw [HW.out]
    go_region_held3 (fun W => W.cell? ⟨w.heap.size, 0, none⟩ = some (.int .i64 3) ∧ W.cell? ⟨w.heap.size, 1, none⟩ = some (.int .i64 i) ∧ W.cell? ⟨w.heap.size, 2, none⟩ = some (.int .u32 zz)) (first | (with_reducible exact hz1) | (exact ⟨q0, q1, q2⟩)) (first
      | (go_at_call 44; refine (SP.out _).mono ?_; rintro e w' ⟨rfl, rfl⟩)
      | (go_at_call 45; refine (TM.out _).mono ?_; rintro e w' ⟨rfl, rfl⟩)
      | (go_at_call 50; (with_reducible refine (CK.out _ (bel2 B1.out (by exact ⟨rfl, rfl, rfl, Nat.le_refl _, fun _ _ => rfl⟩))).mono ?_); rintro e w5 ⟨rfl, hb5⟩; have HB5 := Lib.hid (bel2 (bel2 B1.out (by exact ⟨rfl, rfl, rfl, Nat.le_refl _, fun _ _ => rfl⟩)) hb5); have hz1 := And.intro (cell_keeps hb5 q0) (And.intro (cell_keeps hb5 q1) (cell_keeps hb5 q2)); have hz2 := Nat.lt_of_lt_of_le q3 hb5.size; clear hb5))
    all_goals
      clear q0 q1 q2
      obtain ⟨q0, q1, q2⟩ := hz1
      obtain ⟨c2, c3, c4, c5, c6, c8, c7⟩ := HC.out w5 HB5.out
      go_wp2
      go_quiet (fail)
      go_wp2
      go_ret
      exact ⟨rfl, HQ.out _ (bel_drewN HB5.out _)⟩
  · have HQ := Lib.hid hQ
    clear hQ
    go_enter Try.func16, Try.ntmps16
    go_wp2
    rw [HW.out]
    go_region_held3 (fun W => W.cell? ⟨w.heap.size, 0, none⟩ = some (.int .i64 3) ∧ W.cell? ⟨w.heap.size, 1, none⟩ = some (.int .i64 i) ∧ W.cell? ⟨w.heap.size, 2, none⟩ = some (.int .u32 zz)) (first | (with_reducible exact hz1) | (exact ⟨q0, q1, q2⟩)) (first
      | (go_at_call 44; refine (SP.out _).mono ?_; rintro e w' ⟨rfl, rfl⟩)
      | (go_at_call 45; refine (TM.out _).mono ?_; rintro e w' ⟨rfl, rfl⟩)
      | (go_at_call 50; (with_reducible refine (CK.out _ (bel2 B1.out (by exact ⟨rfl, rfl, rfl, Nat.le_refl _, fun _ _ => rfl⟩))).mono ?_); rintro e w5 ⟨rfl, hb5⟩; have HB5 := Lib.hid (bel2 (bel2 B1.out (by exact ⟨rfl, rfl, rfl, Nat.le_refl _, fun _ _ => rfl⟩)) hb5); have hz1 := And.intro (cell_keeps hb5 q0) (And.intro (cell_keeps hb5 q1) (cell_keeps hb5 q2)); have hz2 := Nat.lt_of_lt_of_le q3 hb5.size; clear hb5))
    all_goals
      clear q0 q1 q2
      obtain ⟨q0, q1, q2⟩ := hz1
      obtain ⟨c2, c3, c4, c5, c6, c8, c7⟩ := HC.out w5 HB5.out
      go_wp2
      go_quiet (fail)
      go_wp2
      have f5 := c8
      go_region
      go_wp2
      go_ret
      exact ⟨rfl, HQ.out _ (bel_drewN HB5.out _)⟩
theorem erenew_nil (x y z t now : Int) (w : World) : Calls Try.prog 16 #[.pointer none, .agg #[.int .i64 x, .int .i64 y, .int .u32 z], .int .i64 t, .int .i64 now] w fun e w' => e = .returned (.int .i64 1) ∧ Below w.heap.size w w' := by
  by_cases hs : IsSpan t
  · by_cases ht : IsTime now
    · exact erenew_c none x y z t now 1 w hs ht (by decide) fun W _ => echeck_nil x y z false W
    · exact erenew_b none x y z t now 1 w hs ht (by decide) fun W _ => echeck_nil x y z true W
  · exact erenew_a none x y z t now 1 w hs (by decide) fun W _ => echeck_nil x y z true W
theorem erenew_ok (q c d g : Nat) (D : Dk) (x y z t now : Int) (hr : RgO x y z) (w : World) (h : QW w q c d g D) : Calls Try.prog 16 #[.pointer (some ⟨q, 0, none⟩), .agg #[.int .i64 x, .int .i64 y, .int .u32 z], .int .i64 t, .int .i64 now] w fun e w' => e = .returned (.int .i64 (D.rE x y z t now)) ∧ QWV q c d g (D.renew x y z t now) w w' := by
  have wrong : ∀ W, Below w.heap.size w W → Calls Try.prog 50 #[.pointer (some ⟨q, 0, none⟩), .agg #[.int .i64 x, .int .i64 y, .int .u32 z], .bool true] W fun e w' => e = .returned (.int .i64 2) ∧ Below W.heap.size W w' := fun W hW => echeck_any q c d g D x y z 2 true hr W (h.below hW) rfl
  have right : ∀ W, Below w.heap.size w W → Calls Try.prog 50 #[.pointer (some ⟨q, 0, none⟩), .agg #[.int .i64 x, .int .i64 y, .int .u32 z], .bool false] W fun e w' => e = .returned (.int .i64 (D.chk x y z)) ∧ Below W.heap.size W w' := fun W hW => echeck_ok q c d g D x y z hr W (h.below hW)
  have same : ∀ E, D.rE x y z t now = E → E ≠ 0 → Calls Try.prog 16 #[.pointer (some ⟨q, 0, none⟩), .agg #[.int .i64 x, .int .i64 y, .int .u32 z], .int .i64 t, .int .i64 now] w (fun e w' => e = .returned (.int .i64 E) ∧ Below w.heap.size w w') → Calls Try.prog 16 #[.pointer (some ⟨q, 0, none⟩), .agg #[.int .i64 x, .int .i64 y, .int .u32 z], .int .i64 t, .int .i64 now] w fun e w' => e = .returned (.int .i64 (D.rE x y z t now)) ∧ QWV q c d g (D.renew x y z t now) w w' := fun E hE h0 hc => by
    rw [hE, Dk.renew_ne (by rw [hE]; exact h0)]
    exact hc.mono fun _ _ ⟨e, hb⟩ => ⟨e, QWV.of_below h hb⟩
  by_cases hs : IsSpan t
  · by_cases ht : IsTime now
    · by_cases h0 : D.chk x y z = 0
      · have hE := Dk.rE_held hs ht h0
        obtain ⟨rfl, i, rfl, hi, hsi, rfl⟩ := Dk.chk_is h0
        rw [Int.toNat_natCast] at hE
        rw [h0] at right
        obtain ⟨cap, _, _, k1, k2, k3⟩ := h.cells
        have HC : ∀ W, Below w.heap.size w W → W.cell? ⟨q, 2, none⟩ = some (.slice (some ⟨g, 0, none⟩) D.t.n cap) ∧ D.t.n ≤ cap ∧ cap ≤ 9223372036854775807 ∧ q < W.heap.size ∧ W.cell? ⟨g, i, none⟩ = some (.int .i64 (D.u i)) ∧ W.frozen? ⟨g, i, none⟩ = false ∧ g < W.heap.size := fun W hW => by
          have e := cell_keeps hW k1
          obtain ⟨h4, h5, h6⟩ := (h.below hW).ci hi
          exact ⟨e, k2, k3, World.block_lt_of_cell? _ _ e, h4, h5, h6⟩
        by_cases ho : (D.u i : Int) ≤ now
        · rw [if_pos ho] at hE
          exact same 8 hE (by decide) (erenew_held q c d g i D.t.n cap (D.t.g i) (D.u i) t now w hs ht 8 (fun w w' => Below w.heap.size w w') hi right HC (.inl ⟨ho, rfl, fun _ h => h⟩))
        · rw [if_neg ho] at hE
          by_cases hm : now + t ≤ 1099511627776
          · rw [if_pos hm] at hE
            obtain ⟨yy, hy⟩ : ∃ yy : Nat, now + t = yy := ⟨(now + t).toNat, by have := hs.1; have := ht.1; omega⟩
            have e2 : D.renew 3 i (D.t.g i) t now = D.until i yy := by unfold Dk.renew; rw [if_pos hE, Int.toNat_natCast, hy, Int.toNat_natCast]
            rw [hE, e2]
            exact erenew_held q c d g i D.t.n cap (D.t.g i) (D.u i) t now w hs ht 0 (fun w w' => QWV q c d g (D.until i yy) w w') hi right HC (.inr (.inr ⟨by omega, hm, rfl, fun W hW => by
              rw [hy]
              obtain ⟨h1, h2⟩ := (h.below hW).put hi (y := yy) (by omega)
              exact ⟨h1, (Kept.of_below hW).trans (h2.mono fun _ _ e => .inr (.inr (.inr e)))⟩⟩))
          · rw [if_neg hm] at hE
            exact same 17 hE (by decide) (erenew_held q c d g i D.t.n cap (D.t.g i) (D.u i) t now w hs ht 17 (fun w w' => Below w.heap.size w w') hi right HC (.inr (.inl ⟨by omega, by omega, rfl, fun _ h => h⟩)))
      · have hE : D.rE x y z t now = D.chk x y z := by
          unfold Dk.rE Dk.chk at *
          by_cases hf : IsLease x y z
          · rw [if_pos hf] at h0 ⊢
            rw [if_pos ⟨hf, hs, ht⟩, if_neg h0]
          · rw [if_neg hf, if_neg fun e => hf e.1]
        exact same _ hE h0 (erenew_c _ x y z t now _ w hs ht h0 right)
    · exact same 2 (if_neg fun e => ht e.2.2) (by decide) (erenew_b _ x y z t now 2 w hs ht (by decide) wrong)
  · exact same 2 (if_neg fun e => hs e.2.1) (by decide) (erenew_a _ x y z t now 2 w hs (by decide) wrong)
end Go.Proofs.Ytfemfgpciogbeaa
