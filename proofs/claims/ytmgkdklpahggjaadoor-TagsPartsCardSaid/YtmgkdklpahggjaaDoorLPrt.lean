/- The walk of the statement TagsParts, texts that are no tags among them. -/
import Derived.Test.YtmgkdklpahggjaaDoorLParts
namespace Go.Proofs.YtmgkdklpahggjaaDoor
open Go.RowKit

set_option maxRecDepth 100000 in
set_option maxHeartbeats 1000000 in
theorem prt_walk (s : ByteArray) (x1 x2 : Int) (w : World) (hs : s.size ≤ 140737488351232) (h1 : 0 ≤ x1) (h1' : x1 ≤ 255) (h2 : 0 ≤ x2) (h2' : x2 ≤ 255) (he : Env w) :
    Calls Tryd.prog 9 #[.string s, .int .u8 x1, .int .u8 x2] w fun e w' => e = .returned (.bool true) ∧ Below w.heap.size w w' := by
  by_cases hl : 500 < s.size
  · go_enter Tryd.func9, Tryd.ntmps9
    go_wp2_with fail
    refine (works_ok _ he).mono ?_
    rintro e w1 ⟨rfl, hb1⟩
    go_wp2
    go_ret
    exact ⟨rfl, hb1⟩
  rcases tag_dec s.data.toList with ⟨rs, ht⟩ | ht
  · obtain ⟨n1, rfl⟩ : ∃ n : Nat, x1 = (n : Int) := ⟨x1.toNat, by omega⟩
    obtain ⟨n2, rfl⟩ : ∃ n : Nat, x2 = (n : Int) := ⟨x2.toNat, by omega⟩
    exact parts_tag s _ _ rs _ n1 n2 _ _ w he ht (by omega) (by omega) rfl rfl rfl rfl rfl
  · have HN := Lib.hid ht
    clear ht
    go_enter Tryd.func9, Tryd.ntmps9
    go_wp2_with fail
    refine (check_no s _ he (by omega) HN.out).mono ?_
    rintro e w1 ⟨rfl, hb1⟩
    go_wp2_with fail
    refine (works_ok _ (he.below hb1)).mono ?_
    rintro e w2 ⟨rfl, hb2⟩
    go_wp2
    go_ret
    exact ⟨rfl, bel2 hb1 hb2⟩
end Go.Proofs.YtmgkdklpahggjaaDoor
