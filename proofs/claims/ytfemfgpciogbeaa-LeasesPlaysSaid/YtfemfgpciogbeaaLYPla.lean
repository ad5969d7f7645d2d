/- LeasesPlays returns true for every input. -/
import Derived.Test.YtfemfgpciogbeaaLYPlb
import Derived.Test.YtfemfgpciogbeaaLYPlc
namespace Go.Proofs.Ytfemfgpciogbeaa
open Go.RowKit

theorem yPla_walk (x0 x1 : Int) (a0 : Option Addr) (len cap : Nat) (s : Nat → Sp) (w : World) (h00 : -9223372036854775808 ≤ x0) (h01 : x0 ≤ 9223372036854775807) (h10 : 0 ≤ x1) (h11 : x1 ≤ 4294967295) (_l : len ≤ cap) (_m : cap ≤ 9223372036854775807) (u : Sps w a0 len s) :
    Calls Try.prog 3 #[.int .i64 x0, .int .u32 x1, .slice a0 len cap] w fun e w' => e = .returned (.bool true) ∧ Below w.heap.size w w' := by
  by_cases hl : len ≤ 60
  · by_cases hb : DBad x0 x1
    · exact plays_bad x0 x1 a0 len cap s w ⟨h00, h01⟩ ⟨h10, h11⟩ hb hl u
    · unfold DBad at hb
      obtain ⟨n, rfl⟩ := Int.eq_ofNat_of_zero_le (show 0 ≤ x0 by omega)
      obtain ⟨g, rfl⟩ := Int.eq_ofNat_of_zero_le h10
      exact plays_ok n g a0 len cap s w (by omega) (by omega) (by omega) (by omega) hl u
  · exact plays_works x0 x1 a0 len cap w (by omega)
end Go.Proofs.Ytfemfgpciogbeaa
