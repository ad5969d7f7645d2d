/- The walk of the statement TagsChecks: it returns true for every text. -/
import Derived.Test.YtmgkdklpahggjaaDoorRh
import Derived.Test.YtmgkdklpahggjaaDoorWe
namespace Go.Proofs.YtmgkdklpahggjaaDoor
open Go.RowKit

/-- What the functions say of a text, be they the program's or the document's: Check, Quote, Width, Plain. -/
def ChV (s : ByteArray) (v : Int) (q : ByteArray) (n : Int) (p : Bool) : Prop :=
  (∃ rs, Tag s.data.toList rs ∧ v = 0 ∧ q = ⟨(quo s.data.toList).toArray⟩ ∧ n = ((wids rs : Nat) : Int) ∧ p = decide (∀ r ∈ rs, PlainR r)) ∨ (NoTag s.data.toList ∧ v = 16 ∧ q = ⟨#[]⟩ ∧ n = 0 ∧ p = false)
theorem chV_any (s : ByteArray) : ∃ v q n p, ChV s v q n p := by
  rcases tag_dec s.data.toList with ⟨rs, h⟩ | h
  · exact ⟨_, _, _, _, .inl ⟨rs, h, rfl, rfl, rfl, rfl⟩⟩
  · exact ⟨_, _, _, _, .inr ⟨h, rfl, rfl, rfl, rfl⟩⟩
theorem ch_quote {s : ByteArray} {v : Int} {q : ByteArray} {n : Int} {p : Bool} (h : ChV s v q n p) (hs : s.size ≤ 500) (w : World) (he : Env w) : Calls Tryd.prog 14 #[.string s] w fun e w' => e = .returned (.tuple #[.string q, .int .i64 v]) ∧ Below w.heap.size w w' := by
  rcases h with ⟨rs, ht, rfl, rfl, rfl, rfl⟩ | ⟨ht, rfl, rfl, rfl, rfl⟩
  · exact quote_tag s rs w he ht
  · exact quote_no s w he (by omega) ht
theorem ch_rquote {s : ByteArray} {v : Int} {q : ByteArray} {n : Int} {p : Bool} (h : ChV s v q n p) (hs : s.size ≤ 500) (w : World) : Calls Tryd.prog 15 #[.string s] w fun e w' => e = .returned (.tuple #[.string q, .int .i64 v]) ∧ Below w.heap.size w w' := by
  rcases h with ⟨rs, ht, rfl, rfl, rfl, rfl⟩ | ⟨ht, rfl, rfl, rfl, rfl⟩
  · exact rquote_tag s rs w ht
  · exact rquote_no s w (by omega) ht
theorem ch_width {s : ByteArray} {v : Int} {q : ByteArray} {n : Int} {p : Bool} (h : ChV s v q n p) (hs : s.size ≤ 500) (w : World) (he : Env w) : Calls Tryd.prog 16 #[.string s] w fun e w' => e = .returned (.tuple #[.int .i64 n, .int .i64 v]) ∧ Below w.heap.size w w' := by
  rcases h with ⟨rs, ht, rfl, rfl, rfl, rfl⟩ | ⟨ht, rfl, rfl, rfl, rfl⟩
  · exact width_tag s rs w he ht
  · exact width_no s w he (by omega) ht
theorem ch_rwidth {s : ByteArray} {v : Int} {q : ByteArray} {n : Int} {p : Bool} (h : ChV s v q n p) (hs : s.size ≤ 500) (w : World) : Calls Tryd.prog 17 #[.string s] w fun e w' => e = .returned (.tuple #[.int .i64 n, .int .i64 v]) ∧ Below w.heap.size w w' := by
  rcases h with ⟨rs, ht, rfl, rfl, rfl, rfl⟩ | ⟨ht, rfl, rfl, rfl, rfl⟩
  · exact rwidth_tag s rs w ht
  · exact rwidth_no s w (by omega) ht
theorem ch_check {s : ByteArray} {v : Int} {q : ByteArray} {n : Int} {p : Bool} (h : ChV s v q n p) (hs : s.size ≤ 500) (w : World) (he : Env w) : Calls Tryd.prog 18 #[.string s] w fun e w' => e = .returned (.int .i64 v) ∧ Below w.heap.size w w' := by
  rcases h with ⟨rs, ht, rfl, rfl, rfl, rfl⟩ | ⟨ht, rfl, rfl, rfl, rfl⟩
  · exact check_tag s rs w he ht
  · exact check_no s w he (by omega) ht
theorem ch_rcheck {s : ByteArray} {v : Int} {q : ByteArray} {n : Int} {p : Bool} (h : ChV s v q n p) (hs : s.size ≤ 500) (w : World) : Calls Tryd.prog 19 #[.string s] w fun e w' => e = .returned (.int .i64 v) ∧ Below w.heap.size w w' := by
  rcases h with ⟨rs, ht, rfl, rfl, rfl, rfl⟩ | ⟨ht, rfl, rfl, rfl, rfl⟩
  · exact rcheck_tag s rs w ht
  · exact rcheck_no s w (by omega) ht
theorem ch_plain {s : ByteArray} {v : Int} {q : ByteArray} {n : Int} {p : Bool} (h : ChV s v q n p) (hs : s.size ≤ 500) (w : World) (he : Env w) : Calls Tryd.prog 20 #[.string s] w fun e w' => e = .returned (.bool p) ∧ Below w.heap.size w w' := by
  rcases h with ⟨rs, ht, rfl, rfl, rfl, rfl⟩ | ⟨ht, rfl, rfl, rfl, rfl⟩
  · exact plain_tag s rs w he ht
  · exact plain_no s w he (by omega) ht
theorem ch_rplain {s : ByteArray} {v : Int} {q : ByteArray} {n : Int} {p : Bool} (h : ChV s v q n p) (hs : s.size ≤ 500) (w : World) : Calls Tryd.prog 21 #[.string s] w fun e w' => e = .returned (.bool p) ∧ Below w.heap.size w w' := by
  rcases h with ⟨rs, ht, rfl, rfl, rfl, rfl⟩ | ⟨ht, rfl, rfl, rfl, rfl⟩
  · exact rplain_tag s rs w ht
  · exact rplain_no s w (by omega) ht

set_option maxRecDepth 100000 in
set_option maxHeartbeats 2000000 in
theorem checks_walk (s : ByteArray) (w : World) (hs : s.size ≤ 140737488351232) (he : Env w) :
    Calls Tryd.prog 3 #[.string s] w fun e w' => e = .returned (.bool true) ∧ Below w.heap.size w w' := by
  by_cases hl : 500 < s.size
  · go_enter Tryd.func3, Tryd.ntmps3
    go_wp2_with fail
    refine (works_ok _ he).mono ?_
    rintro e w1 ⟨rfl, hb1⟩
    go_wp2
    go_ret
    exact ⟨rfl, hb1⟩
  obtain ⟨v, q, n, p, hv⟩ := chV_any s
  have HV := Lib.hid hv
  have HE := Lib.hid he
  clear hv he
  go_enter Tryd.func3, Tryd.ntmps3
  go_wp2_with fail
  refine (ch_quote HV.out (by omega) _ HE.out).mono ?_
  rintro e w1 ⟨rfl, hb1⟩
  have B1 := Lib.hid hb1
  clear hb1
  go_wp2_with fail
  refine (ch_rquote HV.out (by omega) _).mono ?_
  rintro e w2 ⟨rfl, hb2⟩
  have B2 := Lib.hid (bel2 B1.out hb2)
  clear hb2 B1
  go_wp2_with fail
  refine (ch_width HV.out (by omega) _ (HE.out.below B2.out)).mono ?_
  rintro e w3 ⟨rfl, hb3⟩
  have B3 := Lib.hid (bel2 B2.out hb3)
  clear hb3 B2
  go_wp2_with fail
  refine (ch_rwidth HV.out (by omega) _).mono ?_
  rintro e w4 ⟨rfl, hb4⟩
  have B4 := Lib.hid (bel2 B3.out hb4)
  clear hb4 B3
  go_wp2_with fail
  refine (ch_check HV.out (by omega) _ (HE.out.below B4.out)).mono ?_
  rintro e w5 ⟨rfl, hb5⟩
  have B5 := Lib.hid (bel2 B4.out hb5)
  clear hb5 B4
  go_wp2_with fail
  refine (ch_rcheck HV.out (by omega) _).mono ?_
  rintro e w6 ⟨rfl, hb6⟩
  have B6 := Lib.hid (bel2 B5.out hb6)
  clear hb6 B5
  go_wp2_with fail
  refine (ch_plain HV.out (by omega) _ (HE.out.below B6.out)).mono ?_
  rintro e w7 ⟨rfl, hb7⟩
  have B7 := Lib.hid (bel2 B6.out hb7)
  clear hb7 B6
  go_wp2_with fail
  refine (ch_rplain HV.out (by omega) _).mono ?_
  rintro e w8 ⟨rfl, hb8⟩
  have B8 := Lib.hid (bel2 B7.out hb8)
  clear hb8 B7
  go_wp2_with fail
  refine (works_ok _ (HE.out.below B8.out)).mono ?_
  rintro e w9 ⟨rfl, hb9⟩
  go_wp2
  go_ret
  exact ⟨rfl, bel2 B8.out hb9⟩
end Go.Proofs.YtmgkdklpahggjaaDoor
