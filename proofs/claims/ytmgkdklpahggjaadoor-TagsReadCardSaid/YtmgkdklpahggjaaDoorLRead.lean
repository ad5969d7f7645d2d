/- The walk of the statement TagsRead: it returns true for every text. -/
import Derived.Test.YtmgkdklpahggjaaDoorWe
namespace Go.Proofs.YtmgkdklpahggjaaDoor
open Go.RowKit

theorem extract_of_take (s : ByteArray) (k : Nat) (l : List UInt8) (h : s.data.toList.take k = l) : s.extract 0 k = ⟨l.toArray⟩ := by
  rw [Lib.extract_eq, List.drop_zero, Nat.sub_zero, h]

set_option maxRecDepth 100000 in
set_option maxHeartbeats 1000000 in
theorem read_walk (s : ByteArray) (w : World) (hs : s.size ≤ 140737488351232) (he : Env w) :
    Calls Tryd.prog 8 #[.string s] w fun e w' => e = .returned (.bool true) ∧ Below w.heap.size w w' := by
  by_cases hl : 500 < s.size
  · go_enter Tryd.func8, Tryd.ntmps8
    go_wp2_with fail
    refine (works_ok _ he).mono ?_
    rintro e w1 ⟨rfl, hb1⟩
    go_wp2
    go_ret
    exact ⟨rfl, hb1⟩
  cases hr : read s.data.toList with
  | none =>
    have HR := Lib.hid hr
    clear hr
    go_enter Tryd.func8, Tryd.ntmps8
    go_wp2_with fail
    refine (unquote_form s _ hs HR.out).mono ?_
    rintro e w1 ⟨rfl, hb1⟩
    go_wp2_with fail
    refine (works_ok _ (he.below hb1)).mono ?_
    rintro e w2 ⟨rfl, hb2⟩
    go_wp2
    go_ret
    exact ⟨rfl, bel2 hb1 hb2⟩
  | some xk =>
    obtain ⟨x, k⟩ := xk
    rcases tag_dec x with ⟨rs, ht⟩ | ht
    · obtain ⟨h1, h2, h3, h4⟩ := read_len hr
      have hx := extract_of_take s k _ h3
      obtain ⟨q, hq⟩ : ∃ q : ByteArray, (⟨(quo x).toArray⟩ : ByteArray) = q := ⟨_, rfl⟩
      rw [hq] at hx
      have hkq : k = q.size := by rw [h4, ← hq, arr_size]
      subst hkq
      have hqs : q.size ≤ s.size := by rw [Lib.size_eq s]; exact h1
      have HR := Lib.hid hr
      have HT := Lib.hid ht
      have HQ := Lib.hid hq
      clear hr ht h1 h2 h3 h4 hq
      go_enter Tryd.func8, Tryd.ntmps8
      go_wp2_with fail
      refine (unquote_tag s x _ rs _ he hs HR.out HT.out).mono ?_
      rintro e w1 ⟨rfl, hb1⟩
      go_wp2_with fail
      refine (quote_tag _ rs _ (he.below hb1) HT.out).mono ?_
      rintro e w2 ⟨rfl, hb2⟩
      rw [HQ.out]
      have B2 := Lib.hid (bel2 hb1 hb2)
      clear hb1 hb2
      go_wp2_with fail
      refine (works_ok _ (he.below B2.out)).mono ?_
      rintro e w3 ⟨rfl, hb3⟩
      go_wp2
      go_ret
      exact ⟨rfl, bel2 B2.out hb3⟩
    · have HR := Lib.hid hr
      have HT := Lib.hid ht
      clear hr ht
      go_enter Tryd.func8, Tryd.ntmps8
      go_wp2_with fail
      refine (unquote_no s x _ _ he hs HR.out HT.out).mono ?_
      rintro e w1 ⟨rfl, hb1⟩
      go_wp2_with fail
      refine (works_ok _ (he.below hb1)).mono ?_
      rintro e w2 ⟨rfl, hb2⟩
      go_wp2
      go_ret
      exact ⟨rfl, bel2 hb1 hb2⟩
end Go.Proofs.YtmgkdklpahggjaaDoor
