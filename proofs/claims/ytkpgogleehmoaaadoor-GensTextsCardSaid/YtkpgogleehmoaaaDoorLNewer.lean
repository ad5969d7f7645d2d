/- The walk of the statement GensNewer: it returns true for any two numbers. -/
import Derived.Test.YtkpgogleehmoaaaDoorLNone
namespace Go.Proofs.YtkpgogleehmoaaaDoor
open Go.RowKit

theorem bel2 {w a b : World} (h1 : Below w.heap.size w a) (h2 : Below a.heap.size a b) : Below w.heap.size w b := h1.trans (h2.mono h1.size)

set_option maxHeartbeats 400000 in
theorem newer_walk (a b : Int) (w : World) (ha : 0 ≤ a) (ha' : a ≤ 4294967295) (hb : 0 ≤ b) (hb' : b ≤ 4294967295) :
    Calls Tryd.prog 5 #[.int .u32 a, .int .u32 b] w fun e w' => e = .returned (.bool true) ∧ Below w.heap.size w w' := by
  by_cases h0 : a = 0
  · subst h0
    go_enter Tryd.func5, Tryd.ntmps5
    go_wp2_with (first | (go_at_call 25; refine (newer_zero_left _ _).mono ?_; rintro e w1 ⟨rfl, hb1⟩) | (go_at_call 20; refine (works_ok _).mono ?_; rintro e w2 ⟨rfl, hb2⟩) | go_in)
    go_ret
    exact ⟨rfl, bel2 ‹_› ‹_›⟩
  by_cases h1 : b = 0
  · subst h1
    go_enter Tryd.func5, Tryd.ntmps5
    go_wp2_with (first | (go_at_call 25; refine (newer_right_any _ _ ha ha').mono ?_; rintro e w1 ⟨rfl, hb1⟩) | (go_at_call 20; refine (works_ok _).mono ?_; rintro e w2 ⟨rfl, hb2⟩) | go_in)
    all_goals
      go_ret
      exact ⟨rfl, bel2 ‹_› ‹_›⟩
  have ha1 : 1 ≤ a := by omega
  have hb1 : 1 ≤ b := by omega
  have hz1 : (a == 0) = false := beq_eq_false_iff_ne.2 h0
  have hz2 : (b == 0) = false := beq_eq_false_iff_ne.2 h1
  clear h0 h1
  by_cases h : b < a
  · go_enter Tryd.func5, Tryd.ntmps5
    go_wp2_with (first | (go_at_call 25; refine (newer_yes _ _ _ hb1 h ha').mono ?_; rintro e w1 ⟨rfl, hb1⟩) | (go_at_call 20; refine (works_ok _).mono ?_; rintro e w2 ⟨rfl, hb2⟩) | go_in)
    go_ret
    exact ⟨rfl, bel2 ‹_› ‹_›⟩
  · have h' : a ≤ b := by omega
    have hd : decide (b < a) = false := decide_eq_false h
    clear h
    go_enter Tryd.func5, Tryd.ntmps5
    go_wp2_with (first | (go_at_call 25; refine (newer_no _ _ _ ha1 h' hb').mono ?_; rintro e w1 ⟨rfl, hb1⟩) | (go_at_call 20; refine (works_ok _).mono ?_; rintro e w2 ⟨rfl, hb2⟩) | go_in)
    go_ret
    exact ⟨rfl, bel2 ‹_› ‹_›⟩
end Go.Proofs.YtkpgogleehmoaaaDoor
