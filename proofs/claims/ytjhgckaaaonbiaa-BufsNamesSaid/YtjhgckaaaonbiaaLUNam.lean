/- The walk of BufsNames: it returns true for every input. -/
import Derived.Test.YtjhgckaaaonbiaaLUNa
import Derived.Test.YtjhgckaaaonbiaaLUNb
import Derived.Test.YtjhgckaaaonbiaaLUNc
namespace Go.Proofs.Ytjhgckaaaonbiaa
open Go.RowKit

set_option maxHeartbeats 1000000 in
set_option maxRecDepth 100000 in
theorem uNam_long (x0 x1 x2 : Int) (a : Option Addr) (len cap : Nat) (w : World) (hl : 200 < len) :
    Calls Try.prog 5 #[.int .u8 x0, .int .u16 x1, .int .u32 x2, .slice a len cap] w fun e w' => e = .returned (.bool true) ∧ Below w.heap.size w w' := by
  have h : (200 : Int) < len := by omega
  clear hl
  go_enter Try.func5, Try.ntmps5
  go_wp2_with (go_at_call 10; refine (works_ok _).mono ?_; rintro e w' ⟨rfl, hb⟩; have HB := Lib.hid hb; clear hb)
  go_ret
  exact ⟨rfl, HB.out⟩

theorem uNam_walk (x0 x1 x2 : Int) (a : Option Addr) (len cap : Nat) (cl : Nat → Bool) (num : Nat → Nat) (w : World) (h00 : 0 ≤ x0) (h01 : x0 ≤ 255) (h10 : 0 ≤ x1) (h11 : x1 ≤ 65535) (h20 : 0 ≤ x2) (h21 : x2 ≤ 4294967295) (_lc : len ≤ cap) (_cm : cap ≤ 9223372036854775807) (hu : Turns w a len cl num) :
    Calls Try.prog 5 #[.int .u8 x0, .int .u16 x1, .int .u32 x2, .slice a len cap] w fun e w' => e = .returned (.bool true) ∧ Below w.heap.size w w' := by
  by_cases hl : 200 < len
  · exact uNam_long x0 x1 x2 a len cap w hl
  · rcases (show x2 = 0 ∨ x2 = 1 ∨ 1 < x2 by omega) with rfl | rfl | hx
    · exact uNam_a x0 x1 a len cap cl num 1 w h00 h01 h10 h11 (by omega) (by omega) rfl (by omega) hu
    · exact uNam_b x0 x1 a len cap cl num 1 w h00 h01 h10 h11 (by omega) (by omega) rfl (by omega) hu
    · obtain ⟨f, rfl⟩ : ∃ f : Nat, x2 = (f : Int) := ⟨x2.toNat, by omega⟩
      exact uNam_c x0 x1 a len cap cl num f w h00 h01 h10 h11 (by omega) (by omega) hx (by omega) hu
end Go.Proofs.Ytjhgckaaaonbiaa
