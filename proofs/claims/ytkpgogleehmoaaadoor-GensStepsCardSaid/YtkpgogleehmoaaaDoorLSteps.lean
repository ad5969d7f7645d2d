/- The walk of the statement GensSteps: it returns true for any two numbers. -/
import Derived.Test.YtkpgogleehmoaaaDoorLNewer
namespace Go.Proofs.YtkpgogleehmoaaaDoor
open Go.RowKit

set_option maxHeartbeats 400000 in
theorem rnext_zero (w : World) : Calls Tryd.prog 13 #[.int .u32 0] w fun e w' => e = .returned (.tuple #[.int .u32 0, .bool false, .int .i64 2]) ∧ w = w' := by
  go_enter Tryd.func13, Tryd.ntmps13
  go_wp2
  go_ret3
  exact ⟨rfl, rfl⟩
set_option maxHeartbeats 400000 in
theorem rnext_last (w : World) : Calls Tryd.prog 13 #[.int .u32 4294967295] w fun e w' => e = .returned (.tuple #[.int .u32 0, .bool false, .int .i64 0]) ∧ w = w' := by
  go_enter Tryd.func13, Tryd.ntmps13
  go_wp2
  go_ret3
  exact ⟨rfl, rfl⟩
set_option maxHeartbeats 400000 in
theorem rnext_yes (g : Int) (w : World) (h1 : 1 ≤ g) (h2 : g < 4294967295) : Calls Tryd.prog 13 #[.int .u32 g] w fun e w' => e = .returned (.tuple #[.int .u32 (g + 1), .bool true, .int .i64 0]) ∧ w = w' := by
  have hz1 : (g == 0) = false := beq_eq_false_iff_ne.2 (by omega)
  have hz2 : (g == 4294967295) = false := beq_eq_false_iff_ne.2 (by omega)
  go_enter Tryd.func13, Tryd.ntmps13
  go_wp2
  go_ret3
  exact ⟨rfl, rfl⟩
set_option maxHeartbeats 400000 in
theorem rafter_zero (n : Int) (w : World) : Calls Tryd.prog 17 #[.int .u32 0, .int .u64 n] w fun e w' => e = .returned (.tuple #[.int .u32 0, .bool false, .int .i64 2]) ∧ w = w' := by
  go_enter Tryd.func17, Tryd.ntmps17
  go_wp2
  go_ret3
  exact ⟨rfl, rfl⟩
set_option maxHeartbeats 400000 in
theorem rafter_yes (g n : Int) (w : World) (h1 : 1 ≤ g) (h2 : g ≤ 4294967295) (h3 : 0 ≤ n) (h4 : n ≤ 4294967295 - g) : Calls Tryd.prog 17 #[.int .u32 g, .int .u64 n] w fun e w' => e = .returned (.tuple #[.int .u32 (g + n), .bool true, .int .i64 0]) ∧ w = w' := by
  have hz1 : (g == 0) = false := beq_eq_false_iff_ne.2 (by omega)
  have hd : decide (4294967295 - g < n) = false := decide_eq_false (by omega)
  go_enter Tryd.func17, Tryd.ntmps17
  go_wp2
  go_ret3
  exact ⟨rfl, rfl⟩
set_option maxHeartbeats 400000 in
theorem rafter_no (g n : Int) (w : World) (h1 : 1 ≤ g) (h2 : g ≤ 4294967295) (h4 : 4294967295 - g < n) : Calls Tryd.prog 17 #[.int .u32 g, .int .u64 n] w fun e w' => e = .returned (.tuple #[.int .u32 0, .bool false, .int .i64 0]) ∧ w = w' := by
  have hz1 : (g == 0) = false := beq_eq_false_iff_ne.2 (by omega)
  go_enter Tryd.func17, Tryd.ntmps17
  go_wp2
  go_ret3
  exact ⟨rfl, rfl⟩

set_option maxHeartbeats 1000000 in
set_option maxRecDepth 100000 in
theorem steps_walk (g n : Int) (w : World) (hg : 0 ≤ g) (hg' : g ≤ 4294967295) (hn : 0 ≤ n) (_ : n ≤ 18446744073709551615) :
    Calls Tryd.prog 3 #[.int .u32 g, .int .u64 n] w fun e w' => e = .returned (.bool true) ∧ Below w.heap.size w w' := by
  by_cases h0 : g = 0
  · subst h0
    go_enter Tryd.func3, Tryd.ntmps3
    go_wp2_with (first | (go_at_call 12; refine (next_zero _).mono ?_; rintro e w1 ⟨rfl, hb1⟩) | (go_at_call 14; refine (left_zero _).mono ?_; rintro e w2 ⟨rfl, hb2⟩) | (go_at_call 16; refine (after_zero _ _).mono ?_; rintro e w3 ⟨rfl, hb3⟩) | (go_at_call 20; refine (works_ok _).mono ?_; rintro e w4 ⟨rfl, hb4⟩) | (go_at_call 13; refine (rnext_zero _).mono ?_; rintro e w' ⟨rfl, rfl⟩) | (go_at_call 17; refine (rafter_zero _ _).mono ?_; rintro e w' ⟨rfl, rfl⟩) | go_in)
    go_ret
    exact ⟨rfl, bel2 (bel2 (bel2 ‹Below w.heap.size w _› ‹_›) ‹_›) ‹_›⟩
  have h1 : 1 ≤ g := by omega
  have hz1 : (g == 0) = false := beq_eq_false_iff_ne.2 h0
  clear h0
  by_cases hm : g = 4294967295
  · subst hm
    by_cases hl : n = 0
    · subst hl
      go_enter Tryd.func3, Tryd.ntmps3
      go_wp2_with (first | (go_at_call 12; refine (next_last _).mono ?_; rintro e w1 ⟨rfl, hb1⟩) | (go_at_call 14; refine (left_ok 4294967295 _ (by omega) (by omega)).mono ?_; rintro e w2 ⟨rfl, hb2⟩) | (go_at_call 16; refine (after_yes 4294967295 0 _ (by omega) (by omega) (by omega) (by omega)).mono ?_; rintro e w3 ⟨rfl, hb3⟩) | (go_at_call 20; refine (works_ok _).mono ?_; rintro e w4 ⟨rfl, hb4⟩) | (go_at_call 13; refine (rnext_last _).mono ?_; rintro e w' ⟨rfl, rfl⟩) | (go_at_call 17; refine (rafter_yes 4294967295 0 _ (by omega) (by omega) (by omega) (by omega)).mono ?_; rintro e w' ⟨rfl, rfl⟩) | go_in)
      go_ret
      exact ⟨rfl, bel2 (bel2 (bel2 ‹Below w.heap.size w _› ‹_›) ‹_›) ‹_›⟩
    · have hl' : 0 < n := by omega
      clear hl
      go_enter Tryd.func3, Tryd.ntmps3
      go_wp2_with (first | (go_at_call 12; refine (next_last _).mono ?_; rintro e w1 ⟨rfl, hb1⟩) | (go_at_call 14; refine (left_ok 4294967295 _ (by omega) (by omega)).mono ?_; rintro e w2 ⟨rfl, hb2⟩) | (go_at_call 16; refine (after_no 4294967295 n _ (by omega) (by omega) (by omega)).mono ?_; rintro e w3 ⟨rfl, hb3⟩) | (go_at_call 20; refine (works_ok _).mono ?_; rintro e w4 ⟨rfl, hb4⟩) | (go_at_call 13; refine (rnext_last _).mono ?_; rintro e w' ⟨rfl, rfl⟩) | (go_at_call 17; refine (rafter_no 4294967295 n _ (by omega) (by omega) (by omega)).mono ?_; rintro e w' ⟨rfl, rfl⟩) | go_in)
      go_ret
      exact ⟨rfl, bel2 (bel2 (bel2 ‹Below w.heap.size w _› ‹_›) ‹_›) ‹_›⟩
  have hm1 : g < 4294967295 := by omega
  have hz2 : (g == 4294967295) = false := beq_eq_false_iff_ne.2 hm
  clear hm
  by_cases hl : n ≤ 4294967295 - g
  · go_enter Tryd.func3, Tryd.ntmps3
    go_wp2_with (first | (go_at_call 12; refine (next_yes g _ h1 hm1).mono ?_; rintro e w1 ⟨rfl, hb1⟩) | (go_at_call 14; refine (left_ok g _ h1 hg').mono ?_; rintro e w2 ⟨rfl, hb2⟩) | (go_at_call 16; refine (after_yes g n _ h1 hg' hn hl).mono ?_; rintro e w3 ⟨rfl, hb3⟩) | (go_at_call 20; refine (works_ok _).mono ?_; rintro e w4 ⟨rfl, hb4⟩) | (go_at_call 13; refine (rnext_yes g _ h1 hm1).mono ?_; rintro e w' ⟨rfl, rfl⟩) | (go_at_call 17; refine (rafter_yes g n _ h1 hg' hn hl).mono ?_; rintro e w' ⟨rfl, rfl⟩) | go_in)
    go_ret
    exact ⟨rfl, bel2 (bel2 (bel2 ‹Below w.heap.size w _› ‹_›) ‹_›) ‹_›⟩
  · have hl' : 4294967295 - g < n := by omega
    clear hl
    go_enter Tryd.func3, Tryd.ntmps3
    go_wp2_with (first | (go_at_call 12; refine (next_yes g _ h1 hm1).mono ?_; rintro e w1 ⟨rfl, hb1⟩) | (go_at_call 14; refine (left_ok g _ h1 hg').mono ?_; rintro e w2 ⟨rfl, hb2⟩) | (go_at_call 16; refine (after_no g n _ h1 hg' hl').mono ?_; rintro e w3 ⟨rfl, hb3⟩) | (go_at_call 20; refine (works_ok _).mono ?_; rintro e w4 ⟨rfl, hb4⟩) | (go_at_call 13; refine (rnext_yes g _ h1 hm1).mono ?_; rintro e w' ⟨rfl, rfl⟩) | (go_at_call 17; refine (rafter_no g n _ h1 hg' hl').mono ?_; rintro e w' ⟨rfl, rfl⟩) | go_in)
    go_ret
    exact ⟨rfl, bel2 (bel2 (bel2 ‹Below w.heap.size w _› ‹_›) ‹_›) ‹_›⟩
end Go.Proofs.YtkpgogleehmoaaaDoor
