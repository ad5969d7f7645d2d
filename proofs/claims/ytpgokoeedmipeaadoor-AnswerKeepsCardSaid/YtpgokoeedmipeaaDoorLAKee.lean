/- The walk of the statement AnswerKeeps: it returns true for all letters, places, bytes and numbers. -/
import Derived.Test.YtpgokoeedmipeaaDoorLAKe1
import Derived.Test.YtpgokoeedmipeaaDoorLAKe2
import Derived.Test.YtpgokoeedmipeaaDoorLAKe3
namespace Go.Proofs.YtpgokoeedmipeaaDoor
open Go.RowKit

set_option maxRecDepth 100000 in
theorem aKee_long (a : Option Addr) (n c : Nat) (at_ o m : Int) (w : World) (hl : 200 < n) (he : Env w) :
    Calls Tryd.prog 3 #[.slice a n c, .int .u8 at_, .int .u8 o, .int .i64 m] w fun e w' => e = .returned (.bool true) ∧ Below w.heap.size w w' := by
  have HE := Lib.hid he
  clear he
  go_enter Tryd.func3, Tryd.ntmps3
  go_wp2_with fail
  refine (works_ok _ HE.out).mono ?_
  rintro e w3 ⟨rfl, hb3⟩
  go_wp2
  go_ret
  exact ⟨rfl, hb3⟩
theorem aKee_walk (a : Option Addr) (n c : Nat) (l : List Int) (at_ o m : Int) (w : World) (hu : U8 w a n c l) (h0 : 0 ≤ at_) (h1 : at_ ≤ 255) (h2 : 0 ≤ o) (h3 : o ≤ 255) (_ : -9223372036854775808 ≤ m) (_ : m ≤ 9223372036854775807) (he : Env w) :
    Calls Tryd.prog 3 #[.slice a n c, .int .u8 at_, .int .u8 o, .int .i64 m] w fun e w' => e = .returned (.bool true) ∧ Below w.heap.size w w' := by
  have hn := hu.len
  by_cases h : l.length ≤ 200
  · have hk := Int.emod_nonneg at_ (show ((l.length : Int) + 1) ≠ 0 by omega)
    have hK : at_ % ((l.length : Int) + 1) = ((at_ % ((l.length : Int) + 1)).toNat : Nat) := by omega
    by_cases ha : a = none
    · exact aKee_nil a n c l at_ o m w h hu h0 h1 h2 h3 he _ hK ha
    by_cases hc : c = (at_ % ((l.length : Int) + 1)).toNat
    · exact aKee_end a n c l at_ o m w h hu h0 h1 h2 h3 he _ hK ⟨ha, hc⟩
    · exact aKee_mid a n c l at_ o m w h hu h0 h1 h2 h3 he _ hK ⟨ha, hc⟩
  · exact aKee_long a n c at_ o m w (by omega) he
end Go.Proofs.YtpgokoeedmipeaaDoor
