/- The walk of the statement GensNone: it returns true for every number. -/
import Derived.Test.YtkpgogleehmoaaaDoorGe
namespace Go.Proofs.YtkpgogleehmoaaaDoor
open Go.RowKit

theorem newer_right_any (a : Int) (w : World) (h1 : 0 ≤ a) (h2 : a ≤ 4294967295) :
    Calls Tryd.prog 25 #[.int .u32 a, .int .u32 0] w fun e w' => e = .returned (.tuple #[.bool false, .int .i64 2]) ∧ Below w.heap.size w w' := by
  by_cases h : a = 0
  · subst h; exact newer_zero_left 0 w
  · exact newer_zero_right a w (by omega) h2

set_option maxHeartbeats 400000 in
set_option maxRecDepth 100000 in
theorem none_walk (n : Int) (w : World) :
    Calls Tryd.prog 11 #[.int .u64 n] w fun e w' => e = .returned (.bool true) ∧ Below w.heap.size w w' := by
  go_enter Tryd.func11, Tryd.ntmps11
  go_wp2_with fail
  refine (next_zero _).mono ?_
  rintro e w1 ⟨rfl, hb1⟩
  go_wp2_with fail
  refine (left_zero _).mono ?_
  rintro e w2 ⟨rfl, hb2⟩
  go_wp2_with fail
  refine (after_zero _ _).mono ?_
  rintro e w3 ⟨rfl, hb3⟩
  go_wp2_with fail
  refine (text_zero _).mono ?_
  rintro e w4 ⟨rfl, hb4⟩
  go_wp2_with fail
  refine (newer_zero_left _ _).mono ?_
  rintro e w5 ⟨rfl, hb5⟩
  go_wp2_with fail
  refine (newer_right_any (n % 4294967296) _ (by omega) (by omega)).mono ?_
  rintro e w6 ⟨rfl, hb6⟩
  go_wp2_with fail
  refine (check_zero _).mono ?_
  rintro e w7 ⟨rfl, rfl⟩
  go_wp2_with fail
  refine (works_ok _).mono ?_
  rintro e w8 ⟨rfl, hb8⟩
  go_wp2
  go_ret
  refine ⟨rfl, ?_⟩
  have s1 := hb1.size
  have s2 := hb2.size
  have s3 := hb3.size
  have s4 := hb4.size
  have s5 := hb5.size
  have s6 := hb6.size
  exact hb1.trans ((hb2.mono (by omega)).trans ((hb3.mono (by omega)).trans ((hb4.mono (by omega)).trans ((hb5.mono (by omega)).trans ((hb6.mono (by omega)).trans (hb8.mono (by omega)))))))
end Go.Proofs.YtkpgogleehmoaaaDoor
