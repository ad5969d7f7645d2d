/- The walk of the statement DescrOrders: it returns true for any numbers. -/
import Derived.Test.YtnjmlecbljeofaaDoorDz3
import Derived.Deep.RegionHeld3
namespace Go.Proofs.YtnjmlecbljeofaaDoor
open Go.RowKit

/-- A call at two given values. -/
theorem at_two {f : Nat} {W : World} {Q : Ending → World → Prop} (v u : Value) (h : Calls Tryd.prog f #[v, u] W Q) : Calls Tryd.prog f #[v, u] W Q := h
theorem ord_self (k p g : Int) : ord k p g k p g = 0 := by unfold ord; simp

set_option maxHeartbeats 2000000 in
set_option maxRecDepth 100000 in
theorem dOrd_walk (k p g k' p' g' : Int) (w : World) (hr : Rg k p g) (hr' : Rg k' p' g') (he : Env w) :
    Calls Tryd.prog 6 #[.agg #[.int .i64 k, .int .i64 p, .int .u32 g], .agg #[.int .i64 k', .int .i64 p', .int .u32 g']] w fun e w' => e = .returned (.bool true) ∧ Below w.heap.size w w' := by
  have HE := Lib.hid he
  obtain ⟨E1, hA⟩ : ∃ E1, E1 = ord k p g k' p' g' := ⟨_, rfl⟩
  obtain ⟨E2, hB⟩ : ∃ E2, E2 = ord k' p' g' k p g := ⟨_, rfl⟩
  have HA : Hid (∀ W, Calls Tryd.prog 30 #[.agg #[.int .i64 k, .int .i64 p, .int .u32 g], .agg #[.int .i64 k', .int .i64 p', .int .u32 g']] W fun e w' => e = .returned (.int .i64 E1) ∧ Below W.heap.size W w') := fun W => by rw [hA]; exact order_ok k p g k' p' g' hr hr' W
  have HA' : Hid (∀ W, Calls Tryd.prog 31 #[.agg #[.int .i64 k, .int .i64 p, .int .u32 g], .agg #[.int .i64 k', .int .i64 p', .int .u32 g']] W fun e w' => e = .returned (.int .i64 E1) ∧ Below W.heap.size W w') := fun W => by rw [hA]; exact rorder_ok k p g k' p' g' W
  have HB : Hid (∀ W, Calls Tryd.prog 30 #[.agg #[.int .i64 k', .int .i64 p', .int .u32 g'], .agg #[.int .i64 k, .int .i64 p, .int .u32 g]] W fun e w' => e = .returned (.int .i64 E2) ∧ Below W.heap.size W w') := fun W => by rw [hB]; exact order_ok k' p' g' k p g hr' hr W
  have HB' : Hid (∀ W, Calls Tryd.prog 31 #[.agg #[.int .i64 k', .int .i64 p', .int .u32 g'], .agg #[.int .i64 k, .int .i64 p, .int .u32 g]] W fun e w' => e = .returned (.int .i64 E2) ∧ Below W.heap.size W w') := fun W => by rw [hB]; exact rorder_ok k' p' g' k p g W
  have HC : Hid (∀ W, Calls Tryd.prog 30 #[.agg #[.int .i64 k, .int .i64 p, .int .u32 g], .agg #[.int .i64 k, .int .i64 p, .int .u32 g]] W fun e w' => e = .returned (.int .i64 0) ∧ Below W.heap.size W w') := fun W => by have h := order_ok k p g k p g hr hr W; rw [ord_self] at h; exact h
  clear hA hB hr hr' he
  go_enter Tryd.func6, Tryd.ntmps6
  go_wp2
  obtain ⟨W, hW⟩ : ∃ W, (w.alloc (.cells #[.int .i64 k, .int .i64 p, .int .u32 g] 24)).alloc (.cells #[.int .i64 k', .int .i64 p', .int .u32 g'] 24) = W := ⟨_, rfl⟩
  obtain ⟨a, ha⟩ : ∃ a, a = w.heap.size := ⟨_, rfl⟩
  obtain ⟨b, hb⟩ : ∃ b, b = w.heap.size + 1 := ⟨_, rfl⟩
  have hz0 : W.cell? ⟨a, 0, none⟩ = some (.int .i64 k) ∧ W.cell? ⟨a, 1, none⟩ = some (.int .i64 p) ∧ W.cell? ⟨a, 2, none⟩ = some (.int .u32 g) ∧ W.cell? ⟨b, 0, none⟩ = some (.int .i64 k') ∧ W.cell? ⟨b, 1, none⟩ = some (.int .i64 p') ∧ W.cell? ⟨b, 2, none⟩ = some (.int .u32 g') := by
    subst hW ha hb
    refine ⟨?_, ?_, ?_, ?_, ?_, ?_⟩ <;> go_simp
  have HBW : Hid (Below w.heap.size w W) := by
    subst hW
    exact ((Below.refl _ _).alloc (Nat.le_refl _) _).alloc (by simp) _
  rw [hW, ← hb, ← ha]
  clear hW ha hb
  go_region_held3 (fun W => W.cell? ⟨a, 0, none⟩ = some (.int .i64 k) ∧ W.cell? ⟨a, 1, none⟩ = some (.int .i64 p) ∧ W.cell? ⟨a, 2, none⟩ = some (.int .u32 g) ∧ W.cell? ⟨b, 0, none⟩ = some (.int .i64 k') ∧ W.cell? ⟨b, 1, none⟩ = some (.int .i64 p') ∧ W.cell? ⟨b, 2, none⟩ = some (.int .u32 g'))
    (first | exact hz0 | exact hz1 | exact hz2 | exact hz3 | exact hz4 | exact hz5 | exact hz6)
    (first
    | (go_at_call 30; (with_reducible refine at_two (.agg #[.int .i64 k, .int .i64 p, .int .u32 g]) (.agg #[.int .i64 k', .int .i64 p', .int .u32 g']) ?_); refine (HA.out _).mono ?_; rintro e s1 ⟨rfl, b1⟩; have hz1 := Two.b b1 hz0; have HB1 := Lib.hid (bel2 HBW.out (bel2 (bel_dr _) b1)))
    | (go_at_call 31; (with_reducible refine at_two (.agg #[.int .i64 k, .int .i64 p, .int .u32 g]) (.agg #[.int .i64 k', .int .i64 p', .int .u32 g']) ?_); refine (HA'.out _).mono ?_; rintro e s2 ⟨rfl, b2⟩; have hz2 := Two.b b2 hz1; have HB2 := Lib.hid (bel2 HB1.out b2))
    | (go_at_call 30; (with_reducible refine at_two (.agg #[.int .i64 k', .int .i64 p', .int .u32 g']) (.agg #[.int .i64 k, .int .i64 p, .int .u32 g]) ?_); refine (HB.out _).mono ?_; rintro e s3 ⟨rfl, b3⟩; have hz3 := Two.b b3 hz2; have HB3 := Lib.hid (bel2 HB2.out b3))
    | (go_at_call 31; (with_reducible refine at_two (.agg #[.int .i64 k', .int .i64 p', .int .u32 g']) (.agg #[.int .i64 k, .int .i64 p, .int .u32 g]) ?_); refine (HB'.out _).mono ?_; rintro e s4 ⟨rfl, b4⟩; have hz4 := Two.b b4 hz3; have HB4 := Lib.hid (bel2 HB3.out b4))
    | (go_at_call 30; (with_reducible refine at_two (.agg #[.int .i64 k, .int .i64 p, .int .u32 g]) (.agg #[.int .i64 k, .int .i64 p, .int .u32 g]) ?_); refine (HC.out _).mono ?_; rintro e s5 ⟨rfl, b5⟩; have hz5 := Two.b b5 hz4; have HB5 := Lib.hid (bel2 HB4.out b5))
    | (go_at_call 19; refine (works_ok _ (HE.out.below HB5.out)).mono ?_; rintro e s6 ⟨rfl, b6⟩; have hz6 := Two.b b6 hz5; have HB6 := Lib.hid (bel2 HB5.out b6)))
  all_goals
    clear hz0 hz1 hz2 hz3 hz4 hz5 hz6
    go_wp2
    go_ret
    exact ⟨rfl, HB6.out⟩
end Go.Proofs.YtnjmlecbljeofaaDoor
