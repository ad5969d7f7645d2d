/- The walk of the statement AnswerBack: it returns true for all texts and letters. -/
import Derived.Test.YtllfmancfkmimaaDoorAp
namespace Go.Proofs.YtllfmancfkmimaaDoor
open Go.RowKit

set_option maxRecDepth 100000 in
set_option maxHeartbeats 4000000 in
theorem aBak_core (s : ByteArray) (a : Option Addr) (n c : Nat) (l : List Int) (w : World) (hs : s.size ≤ 2500) (hl : l.length ≤ 1000) (hu : U8 w a n c l) (he : Env w) :
    Calls Tryd.prog 7 #[.string s, .slice a n c] w fun e w' => e = .returned (.bool true) ∧ Below w.heap.size w w' := by
  obtain rfl := hu.len
  have HE := Lib.hid he
  have HU := Lib.hid hu
  obtain ⟨sl, hsl0⟩ : ∃ sl, str (text (ans_ l)) = sl := ⟨_, rfl⟩
  have HSL := Lib.hid hsl0
  clear he hu hsl0
  by_cases hE : pE s.data.toList = 0
  · have hz := pE_zero hE
    have HL := Lib.hid (pL_ok hE)
    have HEE := Lib.hid hE
    have hnl : (nums s.data.toList).length = s.size := by rw [nums_length, size_data]
    have hwE : wE (nums s.data.toList) = 0 := wE_ok (by rw [nums_length]; exact hz.1) (ans_nums hz.2)
    have hwT : str (wT (nums s.data.toList)) = s := by rw [wT_ok hwE, text_nums hz.2]; exact str_of s
    have HW := Lib.hid (And.intro hwE hwT)
    clear hE hz hwE hwT
    go_enter Tryd.func7, Tryd.ntmps7
    go_wp2_with fail
    refine (parse_to s _ HE.out (by omega) rfl HL.out HEE.out).mono ?_
    rintro e w1 ⟨a1, c1, rfl, hs1, hb1⟩
    have HS1 := Lib.hid hs1
    have HB1 := Lib.hid hb1
    clear hs1 hb1
    rw [hnl] at HS1 ⊢
    go_wp2_with fail
    refine (print_str _ _ _ _ (HE.out.below HB1.out) (Rd.of_sl HS1.out) HW.out.2 HW.out.1).mono ?_
    rintro e w2 ⟨rfl, hb2⟩
    have HBx := Lib.hid (bel2 HB1.out hb2)
    have hss := eq_self s
    clear hb2 hnl
    go_wp2_with fail
    refine (let_str a _ c l _ (HU.out.below HBx.out) (by omega) HSL.out).mono ?_
    rintro e w4 ⟨rfl, hb4⟩
    have HB4 := Lib.hid (bel2 HBx.out hb4)
    clear hb4
    go_wp2_with fail
    refine (parse_to sl _ (HE.out.below HB4.out) (by rw [size_let HSL.out]; omega) (data_let HSL.out) (pL_let l (by omega)) (pE_let l (by omega))).mono ?_
    rintro e w5 ⟨a5, c5, rfl, hs5, hb5⟩
    have HB5 := Lib.hid (bel2 HB4.out hb5)
    have HS5 := Lib.hid hs5
    clear hb5 hs5
    go_wp2_with fail
    refine (print_str _ _ _ _ (HE.out.below HB5.out) (Rd.of_sl HS5.out) (s := sl) (E := 0) (by rw [wT_let l (by omega)]; exact HSL.out) (wE_let l (by omega))).mono ?_
    rintro e w6 ⟨rfl, hb6⟩
    have HB6 := Lib.hid (bel2 HB5.out hb6)
    have hsl := eq_self sl
    clear hb6 HS5
    go_wp2_with fail
    refine (works_ok _ (HE.out.below HB6.out)).mono ?_
    rintro e w7 ⟨rfl, hb7⟩
    go_wp2
    go_ret
    exact ⟨rfl, bel2 HB6.out hb7⟩
  · have HL := Lib.hid (pL_no hE)
    have hne : ((pE s.data.toList : Int) == 0) = false := by simp; omega
    obtain ⟨E, eE⟩ : ∃ E, pE s.data.toList = E := ⟨_, rfl⟩
    have HEE := Lib.hid eE
    rw [eE] at hne
    clear hE eE
    go_enter Tryd.func7, Tryd.ntmps7
    go_wp2_with fail
    refine (parse_to s _ HE.out (by omega) rfl HL.out HEE.out).mono ?_
    rintro e w1 ⟨a1, c1, rfl, _, hb1⟩
    have HBx := Lib.hid hb1
    clear hb1
    simp only [List.length_nil]
    go_wp2_with fail
    refine (let_str a _ c l _ (HU.out.below HBx.out) (by omega) HSL.out).mono ?_
    rintro e w4 ⟨rfl, hb4⟩
    have HB4 := Lib.hid (bel2 HBx.out hb4)
    clear hb4
    go_wp2_with fail
    refine (parse_to sl _ (HE.out.below HB4.out) (by rw [size_let HSL.out]; omega) (data_let HSL.out) (pL_let l (by omega)) (pE_let l (by omega))).mono ?_
    rintro e w5 ⟨a5, c5, rfl, hs5, hb5⟩
    have HB5 := Lib.hid (bel2 HB4.out hb5)
    have HS5 := Lib.hid hs5
    clear hb5 hs5
    go_wp2_with fail
    refine (print_str _ _ _ _ (HE.out.below HB5.out) (Rd.of_sl HS5.out) (s := sl) (E := 0) (by rw [wT_let l (by omega)]; exact HSL.out) (wE_let l (by omega))).mono ?_
    rintro e w6 ⟨rfl, hb6⟩
    have HB6 := Lib.hid (bel2 HB5.out hb6)
    have hsl := eq_self sl
    clear hb6 HS5
    go_wp2_with fail
    refine (works_ok _ (HE.out.below HB6.out)).mono ?_
    rintro e w7 ⟨rfl, hb7⟩
    go_wp2
    go_ret
    exact ⟨rfl, bel2 HB6.out hb7⟩

set_option maxRecDepth 100000 in
theorem aBak_long (s : ByteArray) (a : Option Addr) (n c : Nat) (w : World) (hs : s.size ≤ 140737488351232) (hl : 2500 < s.size ∨ s.size ≤ 2500 ∧ 1000 < n) (he : Env w) :
    Calls Tryd.prog 7 #[.string s, .slice a n c] w fun e w' => e = .returned (.bool true) ∧ Below w.heap.size w w' := by
  have HE := Lib.hid he
  clear he
  rcases hl with hl | ⟨h1, hl⟩
  all_goals
    go_enter Tryd.func7, Tryd.ntmps7
    go_wp2_with fail
    refine (works_ok _ HE.out).mono ?_
    rintro e w3 ⟨rfl, hb3⟩
    go_wp2
    go_ret
    exact ⟨rfl, hb3⟩
theorem aBak_walk (s : ByteArray) (a : Option Addr) (n c : Nat) (l : List Int) (w : World) (hs : s.size ≤ 140737488351232) (hu : U8 w a n c l) (he : Env w) :
    Calls Tryd.prog 7 #[.string s, .slice a n c] w fun e w' => e = .returned (.bool true) ∧ Below w.heap.size w w' := by
  have hn := hu.len
  by_cases h1 : s.size ≤ 2500
  · by_cases h2 : l.length ≤ 1000
    · exact aBak_core s a n c l w h1 h2 hu he
    · exact aBak_long s a n c w hs (.inr ⟨h1, by omega⟩) he
  · exact aBak_long s a n c w hs (.inl (by omega)) he
end Go.Proofs.YtllfmancfkmimaaDoor
