/- The contract of the examples that every statement about package gens ends with: they hold. -/
import Derived.Test.YtkpgogleehmoaaaDoorGd
namespace Go.Proofs.YtkpgogleehmoaaaDoor
open Go.RowKit

theorem newer_yes (a b : Int) (w : World) (h1 : 1 ≤ b) (h2 : b < a) (h3 : a ≤ 4294967295) :
    Calls Tryd.prog 25 #[.int .u32 a, .int .u32 b] w fun e w' => e = .returned (.tuple #[.bool true, .int .i64 0]) ∧ Below w.heap.size w w' := by
  have h := newer_ok a b w (by omega) h3 h1 (by omega)
  rwa [decide_eq_true h2] at h
theorem newer_no (a b : Int) (w : World) (h1 : 1 ≤ a) (h2 : a ≤ b) (h3 : b ≤ 4294967295) :
    Calls Tryd.prog 25 #[.int .u32 a, .int .u32 b] w fun e w' => e = .returned (.tuple #[.bool false, .int .i64 0]) ∧ Below w.heap.size w w' := by
  have h := newer_ok a b w h1 (by omega) (by omega) h3
  rwa [decide_eq_false (by omega)] at h

theorem parse_example (w : World) :
    Calls Tryd.prog 23 #[.string ⟨#[48, 55]⟩] w fun e w' => e = .returned (.tuple #[.int .u32 0, .int .i64 9]) ∧ Below w.heap.size w w' := by
  refine parse_other ⟨#[48, 55]⟩ (by decide) 7 (by omega) (by rfl) ?_ w (.inl (by omega))
  rw [Lib.decDigits, dif_pos (by omega)]
  decide

set_option maxHeartbeats 400000 in
set_option maxRecDepth 100000 in
theorem works_ok (w : World) :
    Calls Tryd.prog 20 #[] w fun e w' => e = .returned (.bool true) ∧ Below w.heap.size w w' := by
  go_enter Tryd.func20, Tryd.ntmps20
  go_wp2_with fail
  refine (next_yes 1 _ (by omega) (by omega)).mono ?_
  rintro e w1 ⟨rfl, hb1⟩
  go_wp2_with fail
  refine (next_last _).mono ?_
  rintro e w2 ⟨rfl, hb2⟩
  go_wp2_with fail
  refine (left_ok 1 _ (by omega) (by omega)).mono ?_
  rintro e w3 ⟨rfl, hb3⟩
  go_wp2_with fail
  refine (after_yes 5 4294967290 _ (by omega) (by omega) (by omega) (by omega)).mono ?_
  rintro e w4 ⟨rfl, hb4⟩
  go_wp2_with fail
  refine (after_no 5 4294967291 _ (by omega) (by omega) (by omega)).mono ?_
  rintro e w5 ⟨rfl, hb5⟩
  go_wp2_with fail
  refine (newer_yes 3 2 _ (by omega) (by omega) (by omega)).mono ?_
  rintro e w6 ⟨rfl, hb6⟩
  go_wp2_with fail
  refine (parse_example _).mono ?_
  rintro e w7 ⟨rfl, hb7⟩
  go_wp2
  go_ret
  refine ⟨rfl, ?_⟩
  have s1 := hb1.size
  have s2 := hb2.size
  have s3 := hb3.size
  have s4 := hb4.size
  have s5 := hb5.size
  have s6 := hb6.size
  exact hb1.trans ((hb2.mono (by omega)).trans ((hb3.mono (by omega)).trans ((hb4.mono (by omega)).trans ((hb5.mono (by omega)).trans ((hb6.mono (by omega)).trans (hb7.mono (by omega)))))))
end Go.Proofs.YtkpgogleehmoaaaDoor
