/- The walk of the statement TagsCuts: it returns true for every text and width. -/
import Derived.Test.YtmgkdklpahggjaaDoorRe
import Derived.Test.YtmgkdklpahggjaaDoorWe
namespace Go.Proofs.YtmgkdklpahggjaaDoor
open Go.RowKit

/-- What Cut says, be it the program's or the document's: a text and a number. -/
def CutV (s : ByteArray) (wd : Int) (r : ByteArray) (v : Int) : Prop :=
  (∃ rs, Tag s.data.toList rs ∧ ∃ n : Nat, wd = n ∧ r = cutB s rs n ∧ v = 0) ∨ (∃ rs, Tag s.data.toList rs ∧ wd < 0 ∧ r = ⟨#[]⟩ ∧ v = 2) ∨ (NoTag s.data.toList ∧ r = ⟨#[]⟩ ∧ v = 16)
theorem cutV_any (s : ByteArray) (wd : Int) : ∃ r v, CutV s wd r v := by
  rcases tag_dec s.data.toList with ⟨rs, h⟩ | h
  · by_cases hw : wd < 0
    · exact ⟨_, _, .inr (.inl ⟨rs, h, hw, rfl, rfl⟩)⟩
    · exact ⟨_, _, .inl ⟨rs, h, wd.toNat, by omega, rfl, rfl⟩⟩
  · exact ⟨_, _, .inr (.inr ⟨h, rfl, rfl⟩)⟩
theorem cut_val (s : ByteArray) (wd : Int) (r : ByteArray) (v : Int) (w : World) (he : Env w) (hs : s.size ≤ 500) (hw : wd ≤ 9223372036854775807) (h : CutV s wd r v) :
    Calls Tryd.prog 24 #[.string s, .int .i64 wd] w fun e w' => e = .returned (.tuple #[.string r, .int .i64 v]) ∧ Below w.heap.size w w' := by
  rcases h with ⟨rs, h, n, rfl, rfl, rfl⟩ | ⟨rs, h, hn, rfl, rfl⟩ | ⟨h, rfl, rfl⟩
  · exact cut_tag s rs n w he h (by omega)
  · exact cut_neg s rs wd w he h hn
  · exact cut_no s wd w he (by omega) h
theorem rcut_val (s : ByteArray) (wd : Int) (r : ByteArray) (v : Int) (w : World) (hs : s.size ≤ 500) (hw : wd ≤ 9223372036854775807) (h : CutV s wd r v) :
    Calls Tryd.prog 25 #[.string s, .int .i64 wd] w fun e w' => e = .returned (.tuple #[.string r, .int .i64 v]) ∧ Below w.heap.size w w' := by
  rcases h with ⟨rs, h, n, rfl, rfl, rfl⟩ | ⟨rs, h, hn, rfl, rfl⟩ | ⟨h, rfl, rfl⟩
  · exact rcut_tag s rs n w h (by omega)
  · exact rcut_neg s rs wd w h hn
  · exact rcut_no s wd w (by omega) h

set_option maxRecDepth 100000 in
set_option maxHeartbeats 1000000 in
theorem cuts_walk (s : ByteArray) (wd : Int) (w : World) (hs : s.size ≤ 140737488351232) (hw0 : -9223372036854775808 ≤ wd) (hw : wd ≤ 9223372036854775807) (he : Env w) :
    Calls Tryd.prog 5 #[.string s, .int .i64 wd] w fun e w' => e = .returned (.bool true) ∧ Below w.heap.size w w' := by
  by_cases hl : 500 < s.size
  · go_enter Tryd.func5, Tryd.ntmps5
    go_wp2_with fail
    refine (works_ok _ he).mono ?_
    rintro e w1 ⟨rfl, hb1⟩
    go_wp2
    go_ret
    exact ⟨rfl, hb1⟩
  obtain ⟨r, v, hv⟩ := cutV_any s wd
  have HV := Lib.hid hv
  clear hv
  go_enter Tryd.func5, Tryd.ntmps5
  go_wp2_with fail
  refine (cut_val s wd r v _ he (by omega) hw HV.out).mono ?_
  rintro e w1 ⟨rfl, hb1⟩
  have B1 := Lib.hid hb1
  clear hb1
  go_wp2_with fail
  refine (rcut_val s wd r v _ (by omega) hw HV.out).mono ?_
  rintro e w2 ⟨rfl, hb2⟩
  have B2 := Lib.hid (bel2 B1.out hb2)
  clear hb2
  go_wp2_with fail
  refine (works_ok _ (he.below B2.out)).mono ?_
  rintro e w3 ⟨rfl, hb3⟩
  go_wp2
  go_ret
  exact ⟨rfl, bel2 B2.out hb3⟩
end Go.Proofs.YtmgkdklpahggjaaDoor
