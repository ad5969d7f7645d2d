/- The walk of the statement GensChain: it returns true for any two numbers. -/
import Derived.Test.YtkpgogleehmoaaaDoorLNewer
namespace Go.Proofs.YtkpgogleehmoaaaDoor
open Go.RowKit

set_option maxHeartbeats 2000000 in
set_option maxRecDepth 100000 in
theorem chain_yes (g n a : Int) (T : Nat) (w : World) (hmax : max g 1 = a) (hT : n % 301 = (T : Int)) (hn : 0 ≤ n) (hn' : n ≤ 65535) (hT' : T ≤ 300) (ha : 1 ≤ a) (ha' : a ≤ 4294967295) (hy : (T : Int) ≤ 4294967295 - a) :
    Calls Tryd.prog 6 #[.int .u32 g, .int .u16 n] w fun e w' => e = .returned (.bool true) ∧ Below w.heap.size w w' := by
  go_enter Tryd.func6, Tryd.ntmps6
  go_wp2_with fail
  refine (after_yes a T _ ha ha' (by omega) hy).mono ?_
  rintro e w1 ⟨rfl, hb1⟩
  go_wp2_with fail
  go_loopw [5, 33] (fun at_ i wr => ∃ k : Nat, k ≤ T ∧ i = .int .u64 k ∧ at_ = .int .u32 (a + k) ∧ Below w.heap.size w wr) (fun _ i _ => T - (intOf i).toNat)
  case atStart => exact ⟨0, by omega, rfl, by simp, hb1⟩
  case round =>
    obtain ⟨k, hk, rfl, rfl, hbk⟩ := hrel
    by_cases hlt : k < T
    · have hd1 : decide (0 < 4294967295 - (a + (k : Int))) = true := decide_eq_true (by omega)
      have he : (4294967295 - (a + (k : Int) + 1) != 4294967295 - (a + (k : Int)) - 1) = false := by rw [bne_eq_false_iff_eq]; omega
      go_wp2_with fail
      refine (left_ok (a + k) _ (by omega) (by omega)).mono ?_
      rintro e w2 ⟨rfl, hb2⟩
      go_wp2_with fail
      refine (next_yes (a + k) _ (by omega) (by omega)).mono ?_
      rintro e w3 ⟨rfl, hb3⟩
      go_wp2_with fail
      refine (left_ok (a + k + 1) _ (by omega) (by omega)).mono ?_
      rintro e w4 ⟨rfl, hb4⟩
      go_wp2
      go_roundw
      case rel => exact ⟨k + 1, by omega, by go_num, by go_num, bel2 (bel2 (bel2 hbk hb2) hb3) hb4⟩
      case measure => simp [intOf]; omega
    · obtain rfl : k = T := by omega
      go_wp2_with fail
      refine (works_ok _).mono ?_
      rintro e w2 ⟨rfl, hb2⟩
      go_wp2
      go_ret
      exact ⟨rfl, bel2 hbk hb2⟩

set_option maxHeartbeats 2000000 in
set_option maxRecDepth 100000 in
theorem chain_no (g n a : Int) (T : Nat) (w : World) (hmax : max g 1 = a) (hT : n % 301 = (T : Int)) (hn : 0 ≤ n) (hn' : n ≤ 65535) (ha : 1 ≤ a) (ha' : a ≤ 4294967295) (hy : 4294967295 - a < (T : Int)) :
    Calls Tryd.prog 6 #[.int .u32 g, .int .u16 n] w fun e w' => e = .returned (.bool true) ∧ Below w.heap.size w w' := by
  go_enter Tryd.func6, Tryd.ntmps6
  go_wp2_with fail
  refine (after_no a T _ ha ha' hy).mono ?_
  rintro e w1 ⟨rfl, hb1⟩
  go_wp2_with fail
  go_loopw [5, 33] (fun at_ i wr => ∃ k : Nat, a + (k : Int) ≤ 4294967295 ∧ i = .int .u64 k ∧ at_ = .int .u32 (a + k) ∧ Below w.heap.size w wr) (fun _ i _ => T - (intOf i).toNat)
  case atStart => exact ⟨0, by omega, rfl, by simp, hb1⟩
  case round =>
    obtain ⟨k, hk, rfl, rfl, hbk⟩ := hrel
    have hlt : k < T := by omega
    by_cases hm : a + (k : Int) = 4294967295
    · have he : ((k : Int) == 4294967295 - a) = true := beq_iff_eq.2 (by omega)
      go_wp2_with fail
      refine (left_ok 4294967295 _ (by omega) (by omega)).mono ?_
      rintro e w2 ⟨rfl, hb2⟩
      go_wp2_with fail
      refine (next_last _).mono ?_
      rintro e w3 ⟨rfl, hb3⟩
      go_wp2_with fail
      refine (works_ok _).mono ?_
      rintro e w4 ⟨rfl, hb4⟩
      go_wp2
      go_ret
      exact ⟨rfl, bel2 (bel2 (bel2 hbk hb2) hb3) hb4⟩
    · have hd1 : decide (0 < 4294967295 - (a + (k : Int))) = true := decide_eq_true (by omega)
      have he : (4294967295 - (a + (k : Int) + 1) != 4294967295 - (a + (k : Int)) - 1) = false := by rw [bne_eq_false_iff_eq]; omega
      have hm' : a + (k : Int) < 4294967295 := by omega
      clear hm
      go_wp2_with fail
      refine (left_ok (a + k) _ (by omega) (by omega)).mono ?_
      rintro e w2 ⟨rfl, hb2⟩
      go_wp2_with fail
      refine (next_yes (a + k) _ (by omega) (by omega)).mono ?_
      rintro e w3 ⟨rfl, hb3⟩
      go_wp2_with fail
      refine (left_ok (a + k + 1) _ (by omega) (by omega)).mono ?_
      rintro e w4 ⟨rfl, hb4⟩
      go_wp2
      go_roundw
      case rel => exact ⟨k + 1, by omega, by go_num, by go_num, bel2 (bel2 (bel2 hbk hb2) hb3) hb4⟩
      case measure => simp [intOf]; omega

theorem chain_walk (g n : Int) (w : World) (hg : 0 ≤ g) (hg' : g ≤ 4294967295) (hn : 0 ≤ n) (hn' : n ≤ 65535) :
    Calls Tryd.prog 6 #[.int .u32 g, .int .u16 n] w fun e w' => e = .returned (.bool true) ∧ Below w.heap.size w w' := by
  have h1 : 1 ≤ max g 1 := by omega
  have h2 : max g 1 ≤ 4294967295 := by omega
  obtain ⟨T, hT⟩ : ∃ T : Nat, n % 301 = (T : Int) := ⟨(n % 301).toNat, by omega⟩
  by_cases hy : (T : Int) ≤ 4294967295 - max g 1
  · exact chain_yes g n _ T w rfl hT hn hn' (by omega) h1 h2 hy
  · exact chain_no g n _ T w rfl hT hn hn' h1 h2 (by omega)
end Go.Proofs.YtkpgogleehmoaaaDoor
