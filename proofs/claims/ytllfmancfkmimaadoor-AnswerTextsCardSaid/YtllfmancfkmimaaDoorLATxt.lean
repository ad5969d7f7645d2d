/- The walk of the statement AnswerTexts: it returns true for all texts and lists. -/
import Derived.Test.YtllfmancfkmimaaDoorAo
namespace Go.Proofs.YtllfmancfkmimaaDoor
open Go.RowKit

set_option maxRecDepth 100000 in
set_option maxHeartbeats 4000000 in
theorem aTxt_core (s : ByteArray) (a : Option Addr) (n c : Nat) (l : List Int) (w : World) (hs : s.size ≤ 3000) (hl : l.length ≤ 3000) (he : Env w) (hr : Rd .i64 w (.slice a n c) l) :
    Calls Tryd.prog 3 #[.string s, .slice a n c] w fun e w' => e = .returned (.bool true) ∧ Below w.heap.size w w' := by
  obtain ⟨rfl, _⟩ := hr.cap
  have HE := Lib.hid he
  have HR := Lib.hid hr
  clear he hr
  go_enter Tryd.func3, Tryd.ntmps3
  go_wp2_with fail
  refine (parse_to s _ HE.out (by omega) rfl rfl rfl).mono ?_
  rintro e w1 ⟨a1, c1, rfl, hs1, hb1⟩
  have HS1 := Lib.hid hs1
  have HB1 := Lib.hid hb1
  clear hs1 hb1
  go_wp2_with fail
  refine (rparse_ok s _ (by omega)).mono ?_
  rintro e w2 ⟨v, rfl, hv, hb2⟩
  obtain ⟨a2, c2, rfl, hs2⟩ := hv.len
  have HS1' := Lib.hid (HS1.out.below hb2)
  have HS2 := Lib.hid hs2
  have HB2 := Lib.hid (bel2 HB1.out hb2)
  clear hs2 hb2 HS1 HB1 hv
  generalize pL s.data.toList = L at *
  generalize pE s.data.toList = E at *
  go_wp2_with fail
  refine (print_ok _ _ _ l _ (HE.out.below HB2.out) (HR.out.below HB2.out)).mono ?_
  rintro e w3 ⟨rfl, hb3⟩
  have HS1b := Lib.hid (HS1'.out.below hb3)
  have HS2b := Lib.hid (HS2.out.below hb3)
  have HB3 := Lib.hid (bel2 HB2.out hb3)
  clear hb3 HS1' HS2 HB2
  go_wp2_with fail
  refine (rprint_ok _ _ _ l _ (HR.out.below HB3.out)).mono ?_
  rintro e w4 ⟨rfl, hb4⟩
  have HS1c := Lib.hid (HS1b.out.below hb4)
  have HS2c := Lib.hid (HS2b.out.below hb4)
  have HB4 := Lib.hid (bel2 HB3.out hb4)
  clear hb4 HS1b HS2b HB3
  generalize (⟨(wT l).toArray⟩ : ByteArray) = t at *
  generalize wE l = F at *
  go_wp2_with fail
  refine (same_yes _ _ _ _ _ _ L _ (Rd.of_sl HS1c.out) (Rd.of_sl HS2c.out)).mono ?_
  rintro e w5 ⟨rfl, q, rfl⟩
  have HB5 := Lib.hid (bel_drewN HB4.out q)
  have hee : ((E : Int) == (E : Int)) = true := by simp
  have hff : ((F : Int) == (F : Int)) = true := by simp
  have htt : (t.toList == t.toList) = true := by simp
  clear HS1c HS2c HB4
  obtain ⟨w6, hw6⟩ : ∃ w6, w4.drewN q = w6 := ⟨_, rfl⟩
  rw [hw6] at HB5 ⊢
  clear hw6
  go_wp2_with fail
  refine (works_ok _ (HE.out.below HB5.out)).mono ?_
  rintro e w7 ⟨rfl, hb7⟩
  go_wp2
  go_ret
  exact ⟨rfl, bel2 HB5.out hb7⟩
set_option maxRecDepth 100000 in
theorem aTxt_long (s : ByteArray) (a : Option Addr) (n c : Nat) (w : World) (hs : s.size ≤ 140737488351232) (hl : 3000 < s.size ∨ s.size ≤ 3000 ∧ 3000 < n) (he : Env w) :
    Calls Tryd.prog 3 #[.string s, .slice a n c] w fun e w' => e = .returned (.bool true) ∧ Below w.heap.size w w' := by
  have HE := Lib.hid he
  clear he
  rcases hl with hl | ⟨h1, hl⟩
  all_goals
    go_enter Tryd.func3, Tryd.ntmps3
    go_wp2_with fail
    refine (works_ok _ HE.out).mono ?_
    rintro e w3 ⟨rfl, hb3⟩
    go_wp2
    go_ret
    exact ⟨rfl, hb3⟩
theorem aTxt_walk (s : ByteArray) (a : Option Addr) (n c : Nat) (l : List Int) (w : World) (hs : s.size ≤ 140737488351232) (hr : Rd .i64 w (.slice a n c) l) (he : Env w) :
    Calls Tryd.prog 3 #[.string s, .slice a n c] w fun e w' => e = .returned (.bool true) ∧ Below w.heap.size w w' := by
  have hn := hr.cap.1
  by_cases h1 : s.size ≤ 3000
  · by_cases h2 : l.length ≤ 3000
    · exact aTxt_core s a n c l w h1 h2 he hr
    · exact aTxt_long s a n c w hs (.inr ⟨h1, by omega⟩) he
  · exact aTxt_long s a n c w hs (.inl (by omega)) he
end Go.Proofs.YtllfmancfkmimaaDoor
