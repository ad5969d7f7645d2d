/- The walk of the statement DescrSorted: it returns true for any numbers. -/
import Derived.Test.YtnjmlecbljeofaaDoorLDOrd
namespace Go.Proofs.YtnjmlecbljeofaaDoor
open Go.RowKit

set_option maxHeartbeats 2000000 in
set_option maxRecDepth 100000 in
theorem dSrt_eq (k p g k2 p2 g2 y z : Int) (w : World) 
    (hy : y = -1 ∨ y = 0 ∨ y = 1) (hz : z = -1 ∨ z = 0 ∨ z = 1) (hyz : z = y)
    (hA : Gives 30 #[.agg #[.int .i64 k, .int .i64 p, .int .u32 g], .agg #[.int .i64 k, .int .i64 p, .int .u32 g]] (.int .i64 (0))) (hB : Gives 30 #[.agg #[.int .i64 k, .int .i64 p, .int .u32 g], .agg #[.int .i64 k2, .int .i64 p2, .int .u32 g2]] (.int .i64 y)) (hC : Gives 30 #[.agg #[.int .i64 k, .int .i64 p, .int .u32 g], .agg #[.int .i64 k2, .int .i64 p2, .int .u32 g2]] (.int .i64 z)) (hD : Gives 30 #[.agg #[.int .i64 k, .int .i64 p, .int .u32 g], .agg #[.int .i64 k, .int .i64 p, .int .u32 g]] (.int .i64 (0)))
    (he : Env w) : Calls Tryd.prog 9 #[.agg #[.int .i64 k, .int .i64 p, .int .u32 g], .agg #[.int .i64 k, .int .i64 p, .int .u32 g], .agg #[.int .i64 k2, .int .i64 p2, .int .u32 g2]] w fun e w' => e = .returned (.bool true) ∧ Below w.heap.size w w' := by
  have HE := Lib.hid he
  have HA := Lib.hid hA
  have HB := Lib.hid hB
  have HC := Lib.hid hC
  have HD := Lib.hid hD
  clear he hA hB hC hD
  go_enter Tryd.func9, Tryd.ntmps9
  go_wp2
  obtain ⟨W, hW⟩ : ∃ W, ((w.alloc (.cells #[.int .i64 k, .int .i64 p, .int .u32 g] 24)).alloc (.cells #[.int .i64 k, .int .i64 p, .int .u32 g] 24)).alloc (.cells #[.int .i64 k2, .int .i64 p2, .int .u32 g2] 24) = W := ⟨_, rfl⟩
  obtain ⟨a, ha⟩ : ∃ a, a = w.heap.size := ⟨_, rfl⟩
  obtain ⟨b, hb⟩ : ∃ b, b = w.heap.size + 1 := ⟨_, rfl⟩
  obtain ⟨c, hc⟩ : ∃ c, c = w.heap.size + 1 + 1 := ⟨_, rfl⟩
  have hz0 : W.cell? ⟨a, 0, none⟩ = some (.int .i64 k) ∧ W.cell? ⟨a, 1, none⟩ = some (.int .i64 p) ∧ W.cell? ⟨a, 2, none⟩ = some (.int .u32 g) ∧ W.cell? ⟨b, 0, none⟩ = some (.int .i64 k) ∧ W.cell? ⟨b, 1, none⟩ = some (.int .i64 p) ∧ W.cell? ⟨b, 2, none⟩ = some (.int .u32 g) ∧ W.cell? ⟨c, 0, none⟩ = some (.int .i64 k2) ∧ W.cell? ⟨c, 1, none⟩ = some (.int .i64 p2) ∧ W.cell? ⟨c, 2, none⟩ = some (.int .u32 g2) := by
    subst hW ha hb hc
    refine ⟨?_, ?_, ?_, ?_, ?_, ?_, ?_, ?_, ?_⟩ <;> go_simp
  have HBW : Hid (Below w.heap.size w W) := by
    subst hW
    exact bel2 (bup w _) (bel2 (bup _ _) (bup _ _))
  rw [hW, ← hc, ← hb, ← ha]
  clear hW ha hb hc
  go_region_held3 (fun W => W.cell? ⟨a, 0, none⟩ = some (.int .i64 k) ∧ W.cell? ⟨a, 1, none⟩ = some (.int .i64 p) ∧ W.cell? ⟨a, 2, none⟩ = some (.int .u32 g) ∧ W.cell? ⟨b, 0, none⟩ = some (.int .i64 k) ∧ W.cell? ⟨b, 1, none⟩ = some (.int .i64 p) ∧ W.cell? ⟨b, 2, none⟩ = some (.int .u32 g) ∧ W.cell? ⟨c, 0, none⟩ = some (.int .i64 k2) ∧ W.cell? ⟨c, 1, none⟩ = some (.int .i64 p2) ∧ W.cell? ⟨c, 2, none⟩ = some (.int .u32 g2))
    (first | exact hz0 | exact hz1 | exact hz2 | exact hz3)
    (first
    | (go_at_call 30; (with_reducible refine at_two (.agg #[.int .i64 k, .int .i64 p, .int .u32 g]) (.agg #[.int .i64 k, .int .i64 p, .int .u32 g]) ?_); refine (HA.out _).mono ?_; rintro e s1 ⟨rfl, b1⟩; have hz1 := nine_b b1 hz0; have HB1 := Lib.hid (bel2 HBW.out (bel2 (bel_dr _) b1)))
    | (go_at_call 30; (with_reducible refine at_two (.agg #[.int .i64 k, .int .i64 p, .int .u32 g]) (.agg #[.int .i64 k2, .int .i64 p2, .int .u32 g2]) ?_); refine (HB.out _).mono ?_; rintro e s2 ⟨rfl, b2⟩; have hz2 := nine_b b2 hz1; have HB2 := Lib.hid (bel2 HB1.out b2))
    | (go_at_call 30; (with_reducible refine at_two (.agg #[.int .i64 k, .int .i64 p, .int .u32 g]) (.agg #[.int .i64 k2, .int .i64 p2, .int .u32 g2]) ?_); refine (HC.out _).mono ?_; rintro e s3 ⟨rfl, b3⟩; have hz3 := nine_b b3 hz2; have HB3 := Lib.hid (bel2 HB2.out b3)))
  clear hz0 hz1 hz2
  obtain ⟨c0, c1, c2, c3, c4, c5, c6, c7, c8⟩ := hz3
  go_wp2_with fail
  refine (HD.out _).mono ?_
  rintro e s4 ⟨rfl, b4⟩
  have HB4 := Lib.hid (bel2 HB3.out b4)
  replace c0 := cell_keeps b4 c0
  replace c1 := cell_keeps b4 c1
  replace c2 := cell_keeps b4 c2
  replace c3 := cell_keeps b4 c3
  replace c4 := cell_keeps b4 c4
  replace c5 := cell_keeps b4 c5
  clear c6 c7 c8 b4
  have HW := Lib.hid (works_ok _ (HE.out.below HB4.out))
  rcases hy with rfl | rfl | rfl <;> rcases hz with rfl | rfl | rfl
  all_goals first
    | (exfalso; revert hyz; decide)
    | (go_wp2_with fail
       all_goals first
         | (refine HW.out.mono ?_
            rintro e s5 ⟨rfl, b5⟩
            go_wp2
            go_ret
            exact ⟨rfl, bel2 HB4.out b5⟩))

set_option maxHeartbeats 2000000 in
set_option maxRecDepth 100000 in
theorem dSrt_lt (k p g k' p' g' k2 p2 g2 y z : Int) (w : World) (hne : Hid (¬ (k = k' ∧ p = p' ∧ g = g')))
    (hy : y = -1 ∨ y = 0 ∨ y = 1) (hz : z = -1 ∨ z = 0 ∨ z = 1) (hyz : (y ≤ 0 → z = -1))
    (hA : Gives 30 #[.agg #[.int .i64 k, .int .i64 p, .int .u32 g], .agg #[.int .i64 k', .int .i64 p', .int .u32 g']] (.int .i64 (-1))) (hB : Gives 30 #[.agg #[.int .i64 k', .int .i64 p', .int .u32 g'], .agg #[.int .i64 k2, .int .i64 p2, .int .u32 g2]] (.int .i64 y)) (hC : Gives 30 #[.agg #[.int .i64 k, .int .i64 p, .int .u32 g], .agg #[.int .i64 k2, .int .i64 p2, .int .u32 g2]] (.int .i64 z)) (hD : Gives 30 #[.agg #[.int .i64 k', .int .i64 p', .int .u32 g'], .agg #[.int .i64 k, .int .i64 p, .int .u32 g]] (.int .i64 (1)))
    (he : Env w) : Calls Tryd.prog 9 #[.agg #[.int .i64 k, .int .i64 p, .int .u32 g], .agg #[.int .i64 k', .int .i64 p', .int .u32 g'], .agg #[.int .i64 k2, .int .i64 p2, .int .u32 g2]] w fun e w' => e = .returned (.bool true) ∧ Below w.heap.size w w' := by
  have HE := Lib.hid he
  have HA := Lib.hid hA
  have HB := Lib.hid hB
  have HC := Lib.hid hC
  have HD := Lib.hid hD
  clear he hA hB hC hD
  go_enter Tryd.func9, Tryd.ntmps9
  go_wp2
  obtain ⟨W, hW⟩ : ∃ W, ((w.alloc (.cells #[.int .i64 k, .int .i64 p, .int .u32 g] 24)).alloc (.cells #[.int .i64 k', .int .i64 p', .int .u32 g'] 24)).alloc (.cells #[.int .i64 k2, .int .i64 p2, .int .u32 g2] 24) = W := ⟨_, rfl⟩
  obtain ⟨a, ha⟩ : ∃ a, a = w.heap.size := ⟨_, rfl⟩
  obtain ⟨b, hb⟩ : ∃ b, b = w.heap.size + 1 := ⟨_, rfl⟩
  obtain ⟨c, hc⟩ : ∃ c, c = w.heap.size + 1 + 1 := ⟨_, rfl⟩
  have hz0 : W.cell? ⟨a, 0, none⟩ = some (.int .i64 k) ∧ W.cell? ⟨a, 1, none⟩ = some (.int .i64 p) ∧ W.cell? ⟨a, 2, none⟩ = some (.int .u32 g) ∧ W.cell? ⟨b, 0, none⟩ = some (.int .i64 k') ∧ W.cell? ⟨b, 1, none⟩ = some (.int .i64 p') ∧ W.cell? ⟨b, 2, none⟩ = some (.int .u32 g') ∧ W.cell? ⟨c, 0, none⟩ = some (.int .i64 k2) ∧ W.cell? ⟨c, 1, none⟩ = some (.int .i64 p2) ∧ W.cell? ⟨c, 2, none⟩ = some (.int .u32 g2) := by
    subst hW ha hb hc
    refine ⟨?_, ?_, ?_, ?_, ?_, ?_, ?_, ?_, ?_⟩ <;> go_simp
  have HBW : Hid (Below w.heap.size w W) := by
    subst hW
    exact bel2 (bup w _) (bel2 (bup _ _) (bup _ _))
  rw [hW, ← hc, ← hb, ← ha]
  clear hW ha hb hc
  go_region_held3 (fun W => W.cell? ⟨a, 0, none⟩ = some (.int .i64 k) ∧ W.cell? ⟨a, 1, none⟩ = some (.int .i64 p) ∧ W.cell? ⟨a, 2, none⟩ = some (.int .u32 g) ∧ W.cell? ⟨b, 0, none⟩ = some (.int .i64 k') ∧ W.cell? ⟨b, 1, none⟩ = some (.int .i64 p') ∧ W.cell? ⟨b, 2, none⟩ = some (.int .u32 g') ∧ W.cell? ⟨c, 0, none⟩ = some (.int .i64 k2) ∧ W.cell? ⟨c, 1, none⟩ = some (.int .i64 p2) ∧ W.cell? ⟨c, 2, none⟩ = some (.int .u32 g2))
    (first | exact hz0 | exact hz1 | exact hz2 | exact hz3)
    (first
    | (go_at_call 30; (with_reducible refine at_two (.agg #[.int .i64 k, .int .i64 p, .int .u32 g]) (.agg #[.int .i64 k', .int .i64 p', .int .u32 g']) ?_); refine (HA.out _).mono ?_; rintro e s1 ⟨rfl, b1⟩; have hz1 := nine_b b1 hz0; have HB1 := Lib.hid (bel2 HBW.out (bel2 (bel_dr _) b1)))
    | (go_at_call 30; (with_reducible refine at_two (.agg #[.int .i64 k', .int .i64 p', .int .u32 g']) (.agg #[.int .i64 k2, .int .i64 p2, .int .u32 g2]) ?_); refine (HB.out _).mono ?_; rintro e s2 ⟨rfl, b2⟩; have hz2 := nine_b b2 hz1; have HB2 := Lib.hid (bel2 HB1.out b2))
    | (go_at_call 30; (with_reducible refine at_two (.agg #[.int .i64 k, .int .i64 p, .int .u32 g]) (.agg #[.int .i64 k2, .int .i64 p2, .int .u32 g2]) ?_); refine (HC.out _).mono ?_; rintro e s3 ⟨rfl, b3⟩; have hz3 := nine_b b3 hz2; have HB3 := Lib.hid (bel2 HB2.out b3)))
  clear hz0 hz1 hz2
  obtain ⟨c0, c1, c2, c3, c4, c5, c6, c7, c8⟩ := hz3
  go_wp2_with fail
  refine (HD.out _).mono ?_
  rintro e s4 ⟨rfl, b4⟩
  have HB4 := Lib.hid (bel2 HB3.out b4)
  replace c0 := cell_keeps b4 c0
  replace c1 := cell_keeps b4 c1
  replace c2 := cell_keeps b4 c2
  replace c3 := cell_keeps b4 c3
  replace c4 := cell_keeps b4 c4
  replace c5 := cell_keeps b4 c5
  clear c6 c7 c8 b4
  have HW := Lib.hid (works_ok _ (HE.out.below HB4.out))
  rcases hy with rfl | rfl | rfl <;> rcases hz with rfl | rfl | rfl
  all_goals first
    | (exfalso; revert hyz; decide)
    | (go_wp2_with fail
       all_goals first
         | (exfalso; have hne' := hne.out; omega)
         | (refine HW.out.mono ?_
            rintro e s5 ⟨rfl, b5⟩
            go_wp2
            go_ret
            exact ⟨rfl, bel2 HB4.out b5⟩))

set_option maxHeartbeats 2000000 in
set_option maxRecDepth 100000 in
theorem dSrt_gt (k p g k' p' g' k2 p2 g2 y z : Int) (w : World) (hne : Hid (¬ (k = k' ∧ p = p' ∧ g = g')))
    (hy : y = -1 ∨ y = 0 ∨ y = 1) (hz : z = -1 ∨ z = 0 ∨ z = 1) (hyz : (y ≥ 0 → z = 1))
    (hA : Gives 30 #[.agg #[.int .i64 k, .int .i64 p, .int .u32 g], .agg #[.int .i64 k', .int .i64 p', .int .u32 g']] (.int .i64 (1))) (hB : Gives 30 #[.agg #[.int .i64 k', .int .i64 p', .int .u32 g'], .agg #[.int .i64 k2, .int .i64 p2, .int .u32 g2]] (.int .i64 y)) (hC : Gives 30 #[.agg #[.int .i64 k, .int .i64 p, .int .u32 g], .agg #[.int .i64 k2, .int .i64 p2, .int .u32 g2]] (.int .i64 z)) (hD : Gives 30 #[.agg #[.int .i64 k', .int .i64 p', .int .u32 g'], .agg #[.int .i64 k, .int .i64 p, .int .u32 g]] (.int .i64 (-1)))
    (he : Env w) : Calls Tryd.prog 9 #[.agg #[.int .i64 k, .int .i64 p, .int .u32 g], .agg #[.int .i64 k', .int .i64 p', .int .u32 g'], .agg #[.int .i64 k2, .int .i64 p2, .int .u32 g2]] w fun e w' => e = .returned (.bool true) ∧ Below w.heap.size w w' := by
  have HE := Lib.hid he
  have HA := Lib.hid hA
  have HB := Lib.hid hB
  have HC := Lib.hid hC
  have HD := Lib.hid hD
  clear he hA hB hC hD
  go_enter Tryd.func9, Tryd.ntmps9
  go_wp2
  obtain ⟨W, hW⟩ : ∃ W, ((w.alloc (.cells #[.int .i64 k, .int .i64 p, .int .u32 g] 24)).alloc (.cells #[.int .i64 k', .int .i64 p', .int .u32 g'] 24)).alloc (.cells #[.int .i64 k2, .int .i64 p2, .int .u32 g2] 24) = W := ⟨_, rfl⟩
  obtain ⟨a, ha⟩ : ∃ a, a = w.heap.size := ⟨_, rfl⟩
  obtain ⟨b, hb⟩ : ∃ b, b = w.heap.size + 1 := ⟨_, rfl⟩
  obtain ⟨c, hc⟩ : ∃ c, c = w.heap.size + 1 + 1 := ⟨_, rfl⟩
  have hz0 : W.cell? ⟨a, 0, none⟩ = some (.int .i64 k) ∧ W.cell? ⟨a, 1, none⟩ = some (.int .i64 p) ∧ W.cell? ⟨a, 2, none⟩ = some (.int .u32 g) ∧ W.cell? ⟨b, 0, none⟩ = some (.int .i64 k') ∧ W.cell? ⟨b, 1, none⟩ = some (.int .i64 p') ∧ W.cell? ⟨b, 2, none⟩ = some (.int .u32 g') ∧ W.cell? ⟨c, 0, none⟩ = some (.int .i64 k2) ∧ W.cell? ⟨c, 1, none⟩ = some (.int .i64 p2) ∧ W.cell? ⟨c, 2, none⟩ = some (.int .u32 g2) := by
    subst hW ha hb hc
    refine ⟨?_, ?_, ?_, ?_, ?_, ?_, ?_, ?_, ?_⟩ <;> go_simp
  have HBW : Hid (Below w.heap.size w W) := by
    subst hW
    exact bel2 (bup w _) (bel2 (bup _ _) (bup _ _))
  rw [hW, ← hc, ← hb, ← ha]
  clear hW ha hb hc
  go_region_held3 (fun W => W.cell? ⟨a, 0, none⟩ = some (.int .i64 k) ∧ W.cell? ⟨a, 1, none⟩ = some (.int .i64 p) ∧ W.cell? ⟨a, 2, none⟩ = some (.int .u32 g) ∧ W.cell? ⟨b, 0, none⟩ = some (.int .i64 k') ∧ W.cell? ⟨b, 1, none⟩ = some (.int .i64 p') ∧ W.cell? ⟨b, 2, none⟩ = some (.int .u32 g') ∧ W.cell? ⟨c, 0, none⟩ = some (.int .i64 k2) ∧ W.cell? ⟨c, 1, none⟩ = some (.int .i64 p2) ∧ W.cell? ⟨c, 2, none⟩ = some (.int .u32 g2))
    (first | exact hz0 | exact hz1 | exact hz2 | exact hz3)
    (first
    | (go_at_call 30; (with_reducible refine at_two (.agg #[.int .i64 k, .int .i64 p, .int .u32 g]) (.agg #[.int .i64 k', .int .i64 p', .int .u32 g']) ?_); refine (HA.out _).mono ?_; rintro e s1 ⟨rfl, b1⟩; have hz1 := nine_b b1 hz0; have HB1 := Lib.hid (bel2 HBW.out (bel2 (bel_dr _) b1)))
    | (go_at_call 30; (with_reducible refine at_two (.agg #[.int .i64 k', .int .i64 p', .int .u32 g']) (.agg #[.int .i64 k2, .int .i64 p2, .int .u32 g2]) ?_); refine (HB.out _).mono ?_; rintro e s2 ⟨rfl, b2⟩; have hz2 := nine_b b2 hz1; have HB2 := Lib.hid (bel2 HB1.out b2))
    | (go_at_call 30; (with_reducible refine at_two (.agg #[.int .i64 k, .int .i64 p, .int .u32 g]) (.agg #[.int .i64 k2, .int .i64 p2, .int .u32 g2]) ?_); refine (HC.out _).mono ?_; rintro e s3 ⟨rfl, b3⟩; have hz3 := nine_b b3 hz2; have HB3 := Lib.hid (bel2 HB2.out b3)))
  clear hz0 hz1 hz2
  obtain ⟨c0, c1, c2, c3, c4, c5, c6, c7, c8⟩ := hz3
  go_wp2_with fail
  refine (HD.out _).mono ?_
  rintro e s4 ⟨rfl, b4⟩
  have HB4 := Lib.hid (bel2 HB3.out b4)
  replace c0 := cell_keeps b4 c0
  replace c1 := cell_keeps b4 c1
  replace c2 := cell_keeps b4 c2
  replace c3 := cell_keeps b4 c3
  replace c4 := cell_keeps b4 c4
  replace c5 := cell_keeps b4 c5
  clear c6 c7 c8 b4
  have HW := Lib.hid (works_ok _ (HE.out.below HB4.out))
  rcases hy with rfl | rfl | rfl <;> rcases hz with rfl | rfl | rfl
  all_goals first
    | (exfalso; revert hyz; decide)
    | (go_wp2_with fail
       all_goals first
         | (exfalso; have hne' := hne.out; omega)
         | (refine HW.out.mono ?_
            rintro e s5 ⟨rfl, b5⟩
            go_wp2
            go_ret
            exact ⟨rfl, bel2 HB4.out b5⟩))

theorem ord_cases (k p g k' p' g' : Int) : (ord k p g k' p' g' = -1 ∧ (k < k' ∨ k = k' ∧ (p < p' ∨ p = p' ∧ g < g'))) ∨ (ord k p g k' p' g' = 0 ∧ k = k' ∧ p = p' ∧ g = g') ∨ (ord k p g k' p' g' = 1 ∧ (k' < k ∨ k = k' ∧ (p' < p ∨ p = p' ∧ g' < g))) := by
  unfold ord
  by_cases h1 : k < k'
  · rw [if_pos h1]; omega
  rw [if_neg h1]
  by_cases h2 : k' < k
  · rw [if_pos h2]; omega
  rw [if_neg h2]
  by_cases h3 : p < p'
  · rw [if_pos h3]; omega
  rw [if_neg h3]
  by_cases h4 : p' < p
  · rw [if_pos h4]; omega
  rw [if_neg h4]
  by_cases h5 : g < g'
  · rw [if_pos h5]; omega
  rw [if_neg h5]
  by_cases h6 : g' < g
  · rw [if_pos h6]; omega
  rw [if_neg h6]
  omega
theorem dSrt_walk (k p g k' p' g' k2 p2 g2 : Int) (w : World) (h1 : Rg k p g) (h2 : Rg k' p' g') (h3 : Rg k2 p2 g2) (he : Env w) :
    Calls Tryd.prog 9 #[.agg #[.int .i64 k, .int .i64 p, .int .u32 g], .agg #[.int .i64 k', .int .i64 p', .int .u32 g'], .agg #[.int .i64 k2, .int .i64 p2, .int .u32 g2]] w fun e w' => e = .returned (.bool true) ∧ Below w.heap.size w w' := by
  have hA := fun W => order_ok k p g k' p' g' h1 h2 W
  have hB := fun W => order_ok k' p' g' k2 p2 g2 h2 h3 W
  have hC := fun W => order_ok k p g k2 p2 g2 h1 h3 W
  have hD := fun W => order_ok k' p' g' k p g h2 h1 W
  have c1 := ord_cases k p g k' p' g'
  have c2 := ord_cases k' p' g' k2 p2 g2
  have c3 := ord_cases k p g k2 p2 g2
  have c4 := ord_cases k' p' g' k p g
  have hy : ord k' p' g' k2 p2 g2 = -1 ∨ ord k' p' g' k2 p2 g2 = 0 ∨ ord k' p' g' k2 p2 g2 = 1 := by
    rcases c2 with h | h | h
    · exact .inl h.1
    · exact .inr (.inl h.1)
    · exact .inr (.inr h.1)
  have hz : ord k p g k2 p2 g2 = -1 ∨ ord k p g k2 p2 g2 = 0 ∨ ord k p g k2 p2 g2 = 1 := by
    rcases c3 with h | h | h
    · exact .inl h.1
    · exact .inr (.inl h.1)
    · exact .inr (.inr h.1)
  rcases c1 with ⟨e, h⟩ | ⟨e, rfl, rfl, rfl⟩ | ⟨e, h⟩
  · rw [e] at hA
    have e4 : ord k' p' g' k p g = 1 := by rcases c4 with h' | h' | h' <;> omega
    rw [e4] at hD
    exact dSrt_lt k p g k' p' g' k2 p2 g2 _ _ w (Lib.hid (show ¬ (k = k' ∧ p = p' ∧ g = g') by omega)) hy hz (fun q => by rcases c2 with h' | h' | h' <;> rcases c3 with h'' | h'' | h'' <;> omega) hA hB hC hD he
  · rw [e] at hA hD
    exact dSrt_eq k p g k2 p2 g2 _ _ w hy hz rfl hA hB hC hD he
  · rw [e] at hA
    have e4 : ord k' p' g' k p g = -1 := by rcases c4 with h' | h' | h' <;> omega
    rw [e4] at hD
    exact dSrt_gt k p g k' p' g' k2 p2 g2 _ _ w (Lib.hid (show ¬ (k = k' ∧ p = p' ∧ g = g') by omega)) hy hz (fun q => by rcases c2 with h' | h' | h' <;> rcases c3 with h'' | h'' | h'' <;> omega) hA hB hC hD he
end Go.Proofs.YtnjmlecbljeofaaDoor
