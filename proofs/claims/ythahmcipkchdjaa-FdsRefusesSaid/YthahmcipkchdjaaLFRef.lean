/- The walk of FdsRefuses: it returns true for every input; by the size of the table. -/
import Derived.Test.YthahmcipkchdjaaLFRa
import Derived.Test.YthahmcipkchdjaaLFRb
import Derived.Test.YthahmcipkchdjaaLFRc
namespace Go.Proofs.Ythahmcipkchdjaa
open Go.RowKit

theorem fRef_walk (x0 x1 x2 : Int) (w : World) (h00 : 0 ≤ x0) (h01 : x0 ≤ 255) (h10 : 0 ≤ x1) (h11 : x1 ≤ 4294967295) (h20 : 0 ≤ x2) (h21 : x2 ≤ 65535) :
    Calls Try.prog 8 #[.int .u8 x0, .int .u32 x1, .int .u16 x2] w fun e w' => e = .returned (.bool true) ∧ Below w.heap.size w w' := by
  rcases (show 1 + x0 % 64 = 64 ∨ (1 < 1 + x0 % 64 ∧ 1 + x0 % 64 < 64) ∨ 1 + x0 % 64 = 1 by omega) with h | h | h
  · exact fRef_a x0 x1 x2 w (fun n hn => by omega) h00 h01 h10 h11 h20 h21
  · exact fRef_b x0 x1 x2 w (fun n hn => by omega) h00 h01 h10 h11 h20 h21
  · exact fRef_c x0 x1 x2 w (fun n hn => by omega) h00 h01 h10 h11 h20 h21
end Go.Proofs.Ythahmcipkchdjaa
