/- The walk of the statement GensSplit: it returns true for any three numbers. -/
import Derived.Test.YtkpgogleehmoaaaDoorLNewer
namespace Go.Proofs.YtkpgogleehmoaaaDoor
open Go.RowKit

set_option maxHeartbeats 1000000 in
set_option maxRecDepth 100000 in
theorem split_none (g a m n : Int) (w : World) (hmax : max g 1 = a) (ha : 1 ≤ a) (ha' : a ≤ 4294967295) (hm : 0 ≤ m) (hm' : m ≤ 4294967295) (hn : 0 ≤ n) (hn' : n ≤ 4294967295) (hp : 4294967295 - a < m) :
    Calls Tryd.prog 7 #[.int .u32 g, .int .u32 m, .int .u32 n] w fun e w' => e = .returned (.bool true) ∧ Below w.heap.size w w' := by
  go_enter Tryd.func7, Tryd.ntmps7
  go_wp2_with fail
  refine (after_no a m _ ha ha' hp).mono ?_
  rintro e w1 ⟨rfl, hb1⟩
  go_wp2_with fail
  refine (after_no a (m + n) _ ha ha' (by omega)).mono ?_
  rintro e w2 ⟨rfl, hb2⟩
  go_wp2_with fail
  refine (works_ok _).mono ?_
  rintro e w3 ⟨rfl, hb3⟩
  go_wp2
  go_ret
  exact ⟨rfl, bel2 (bel2 hb1 hb2) hb3⟩

set_option maxHeartbeats 1000000 in
set_option maxRecDepth 100000 in
theorem split_both (g a m n : Int) (w : World) (hmax : max g 1 = a) (ha : 1 ≤ a) (ha' : a ≤ 4294967295) (hm : 0 ≤ m) (hm' : m ≤ 4294967295) (hn : 0 ≤ n) (hn' : n ≤ 4294967295) (hp : m + n ≤ 4294967295 - a) :
    Calls Tryd.prog 7 #[.int .u32 g, .int .u32 m, .int .u32 n] w fun e w' => e = .returned (.bool true) ∧ Below w.heap.size w w' := by
  have he1 : (a + m + n == a + (m + n)) = true := beq_iff_eq.2 (by omega)
  have he2 : (a + (m + n) == a + m + n) = true := beq_iff_eq.2 (by omega)
  go_enter Tryd.func7, Tryd.ntmps7
  go_wp2_with fail
  refine (after_yes a m _ ha ha' hm (by omega)).mono ?_
  rintro e w1 ⟨rfl, hb1⟩
  go_wp2_with fail
  refine (after_yes a (m + n) _ ha ha' (by omega) (by omega)).mono ?_
  rintro e w2 ⟨rfl, hb2⟩
  go_wp2_with fail
  refine (after_yes (a + m) n _ (by omega) (by omega) (by omega) (by omega)).mono ?_
  rintro e w3 ⟨rfl, hb3⟩
  go_wp2_with fail
  refine (works_ok _).mono ?_
  rintro e w4 ⟨rfl, hb4⟩
  go_wp2
  go_ret
  exact ⟨rfl, bel2 (bel2 (bel2 hb1 hb2) hb3) hb4⟩

set_option maxHeartbeats 1000000 in
set_option maxRecDepth 100000 in
theorem split_first (g a m n : Int) (w : World) (hmax : max g 1 = a) (ha : 1 ≤ a) (ha' : a ≤ 4294967295) (hm : 0 ≤ m) (hm' : m ≤ 4294967295) (hn : 0 ≤ n) (hn' : n ≤ 4294967295) (hp : m ≤ 4294967295 - a) (hq : 4294967295 - a < m + n) :
    Calls Tryd.prog 7 #[.int .u32 g, .int .u32 m, .int .u32 n] w fun e w' => e = .returned (.bool true) ∧ Below w.heap.size w w' := by
  go_enter Tryd.func7, Tryd.ntmps7
  go_wp2_with fail
  refine (after_yes a m _ ha ha' hm hp).mono ?_
  rintro e w1 ⟨rfl, hb1⟩
  go_wp2_with fail
  refine (after_no a (m + n) _ ha ha' hq).mono ?_
  rintro e w2 ⟨rfl, hb2⟩
  go_wp2_with fail
  refine (after_no (a + m) n _ (by omega) (by omega) (by omega)).mono ?_
  rintro e w3 ⟨rfl, hb3⟩
  go_wp2_with fail
  refine (works_ok _).mono ?_
  rintro e w4 ⟨rfl, hb4⟩
  go_wp2
  go_ret
  exact ⟨rfl, bel2 (bel2 (bel2 hb1 hb2) hb3) hb4⟩

theorem split_walk (g m n : Int) (w : World) (hg : 0 ≤ g) (hg' : g ≤ 4294967295) (hm : 0 ≤ m) (hm' : m ≤ 4294967295) (hn : 0 ≤ n) (hn' : n ≤ 4294967295) :
    Calls Tryd.prog 7 #[.int .u32 g, .int .u32 m, .int .u32 n] w fun e w' => e = .returned (.bool true) ∧ Below w.heap.size w w' := by
  have h1 : 1 ≤ max g 1 := by omega
  have h2 : max g 1 ≤ 4294967295 := by omega
  by_cases hp : m ≤ 4294967295 - max g 1
  · by_cases hq : m + n ≤ 4294967295 - max g 1
    · exact split_both g _ m n w rfl h1 h2 hm hm' hn hn' hq
    · exact split_first g _ m n w rfl h1 h2 hm hm' hn hn' hp (by omega)
  · exact split_none g _ m n w rfl h1 h2 hm hm' hn hn' (by omega)
end Go.Proofs.YtkpgogleehmoaaaDoor
