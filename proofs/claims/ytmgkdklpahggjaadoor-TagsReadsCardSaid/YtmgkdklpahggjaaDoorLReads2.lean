/- The walk of the statement TagsReads: it returns true for every text. -/
import Derived.Test.YtmgkdklpahggjaaDoorRg
import Derived.Test.YtmgkdklpahggjaaDoorWe
namespace Go.Proofs.YtmgkdklpahggjaaDoor
open Go.RowKit

/-- What Unquote says, be it the program's or the document's: a text and two numbers. -/
def UnqV (s : ByteArray) (x : ByteArray) (k v : Int) : Prop :=
  (read s.data.toList = none ∧ x = ⟨#[]⟩ ∧ k = 0 ∧ v = 9) ∨
  (∃ y n, read s.data.toList = some (y, n) ∧ (((∃ rs, Tag y rs) ∧ x = ⟨y.toArray⟩ ∧ k = ((n : Nat) : Int) ∧ v = 0) ∨ (NoTag y ∧ x = ⟨#[]⟩ ∧ k = 0 ∧ v = 16)))
theorem unqV_any (s : ByteArray) : ∃ x k v, UnqV s x k v := by
  cases hr : read s.data.toList with
  | none => exact ⟨_, _, _, .inl ⟨hr, rfl, rfl, rfl⟩⟩
  | some p =>
    rcases tag_dec p.1 with h | h
    · exact ⟨_, _, _, .inr ⟨p.1, p.2, hr, .inl ⟨h, rfl, rfl, rfl⟩⟩⟩
    · exact ⟨_, _, _, .inr ⟨p.1, p.2, hr, .inr ⟨h, rfl, rfl, rfl⟩⟩⟩
theorem unq_val (s x : ByteArray) (k v : Int) (w : World) (he : Env w) (hs : s.size ≤ 500) (h : UnqV s x k v) :
    Calls Tryd.prog 22 #[.string s] w fun e w' => e = .returned (.tuple #[.string x, .int .i64 k, .int .i64 v]) ∧ Below w.heap.size w w' := by
  rcases h with ⟨hr, rfl, rfl, rfl⟩ | ⟨y, n, hr, ⟨⟨rs, ht⟩, rfl, rfl, rfl⟩ | ⟨ht, rfl, rfl, rfl⟩⟩
  · exact unquote_form s w (by omega) hr
  · exact unquote_tag s y n rs w he (by omega) hr ht
  · exact unquote_no s y n w he (by omega) hr ht
theorem runq_val (s x : ByteArray) (k v : Int) (w : World) (hs : s.size ≤ 500) (h : UnqV s x k v) :
    Calls Tryd.prog 23 #[.string s] w fun e w' => e = .returned (.tuple #[.string x, .int .i64 k, .int .i64 v]) ∧ Below w.heap.size w w' := by
  refine (runq_any s w hs).mono ?_
  rintro e w' ⟨hb, hr2⟩
  rcases h with ⟨hr, rfl, rfl, rfl⟩ | ⟨y, n, hr, hx⟩
  · rcases hr2 with ⟨_, he⟩ | ⟨y2, n2, hr3, _⟩
    · exact ⟨he, hb⟩
    · rw [hr] at hr3; cases hr3
  · rcases hr2 with ⟨hr3, _⟩ | ⟨y2, n2, hr3, h3⟩
    · rw [hr] at hr3; cases hr3
    · rw [hr] at hr3
      cases hr3
      rcases hx with ⟨⟨rs, ht⟩, rfl, rfl, rfl⟩ | ⟨ht, rfl, rfl, rfl⟩ <;> rcases h3 with ⟨⟨ts, ht2⟩, he⟩ | ⟨ht2, he⟩
      · exact ⟨he, hb⟩
      · exact absurd ht (ht2 rs)
      · exact absurd ht2 (ht ts)
      · exact ⟨he, hb⟩

set_option maxRecDepth 100000 in
set_option maxHeartbeats 1000000 in
theorem reads2_walk (s : ByteArray) (w : World) (hs : s.size ≤ 140737488351232) (he : Env w) :
    Calls Tryd.prog 4 #[.string s] w fun e w' => e = .returned (.bool true) ∧ Below w.heap.size w w' := by
  by_cases hl : 500 < s.size
  · go_enter Tryd.func4, Tryd.ntmps4
    go_wp2_with fail
    refine (works_ok _ he).mono ?_
    rintro e w1 ⟨rfl, hb1⟩
    go_wp2
    go_ret
    exact ⟨rfl, hb1⟩
  obtain ⟨x, k, v, hv⟩ := unqV_any s
  have HV := Lib.hid hv
  clear hv
  go_enter Tryd.func4, Tryd.ntmps4
  go_wp2_with fail
  refine (unq_val s x k v _ he (by omega) HV.out).mono ?_
  rintro e w1 ⟨rfl, hb1⟩
  have B1 := Lib.hid hb1
  clear hb1
  go_wp2_with fail
  refine (runq_val s x k v _ (by omega) HV.out).mono ?_
  rintro e w2 ⟨rfl, hb2⟩
  have B2 := Lib.hid (bel2 B1.out hb2)
  clear hb2
  go_wp2_with fail
  refine (works_ok _ (he.below B2.out)).mono ?_
  rintro e w3 ⟨rfl, hb3⟩
  go_wp2
  go_ret
  exact ⟨rfl, bel2 B2.out hb3⟩
end Go.Proofs.YtmgkdklpahggjaaDoor
