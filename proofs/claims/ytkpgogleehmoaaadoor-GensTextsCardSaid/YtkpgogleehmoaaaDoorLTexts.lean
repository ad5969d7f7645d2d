/- The walk of the statement GensTexts: it returns true for every number and every text. -/
import Derived.Test.YtkpgogleehmoaaaDoorRef
namespace Go.Proofs.YtkpgogleehmoaaaDoor
open Go.RowKit

theorem number_any (s : ByteArray) (w : World) (hs : s.size ≤ 140737488351232) :
    Calls Tryd.prog 36 #[.string s] w fun e w' => NumRes s e ∧ Below w.heap.size w w' := by
  by_cases h : s.size = 0 ∨ 10 < s.size
  · exact number_len s w hs h
  · exact number_loop s w (by omega) (by omega)

set_option maxHeartbeats 400000 in
theorem rparse_yes (s : ByteArray) (u : Nat) (w : World) (hs : s.size ≤ 140737488351232) (h : IsGen s.data.toList u) :
    Calls Tryd.prog 24 #[.string s] w fun e w' => e = .returned (.tuple #[.int .u32 u, .int .i64 0]) ∧ Below w.heap.size w w' := by
  have H := Lib.hid h
  have h1 : 1 ≤ u := h.1
  have h2 : u ≤ 4294967295 := h.2.1
  clear h
  go_enter Tryd.func24, Tryd.ntmps24
  go_wp2_with fail
  refine (number_any s _ hs).mono ?_
  rintro e w1 ⟨hr | hr, hb1⟩
  · obtain ⟨n, hn, hl, rfl⟩ := hr
    obtain rfl : n = u := digits_inj (hl.symm.trans H.out.2.2)
    have hz : ((n : Int) == 0) = false := beq_eq_false_iff_ne.2 (by omega)
    have hd : decide ((4294967295 : Int) < (n : Int)) = false := decide_eq_false (by omega)
    clear hl
    go_wp2
    go_ret2
    exact ⟨rfl, hb1⟩
  · obtain ⟨n, hn, hno, rfl⟩ := hr
    exact absurd H.out.2.2 (hno u h1 h2)

set_option maxHeartbeats 400000 in
theorem rparse_no (s : ByteArray) (w : World) (hs : s.size ≤ 140737488351232) (h : NoGen s.data.toList) :
    Calls Tryd.prog 24 #[.string s] w fun e w' => e = .returned (.tuple #[.int .u32 0, .int .i64 9]) ∧ Below w.heap.size w w' := by
  have H := Lib.hid h
  clear h
  go_enter Tryd.func24, Tryd.ntmps24
  go_wp2_with fail
  refine (number_any s _ hs).mono ?_
  rintro e w1 ⟨hr | hr, hb1⟩
  · obtain ⟨n, hn, hl, rfl⟩ := hr
    have hr : n = 0 ∨ 4294967295 < n := by
      by_cases h : n = 0 ∨ 4294967295 < n
      · exact h
      · exact absurd hl (H.out n (by omega) (by omega))
    clear hl
    rcases hr with rfl | hr
    · go_wp2
      go_ret2
      exact ⟨rfl, hb1⟩
    · have hz : ((n : Int) == 0) = false := beq_eq_false_iff_ne.2 (by omega)
      go_wp2
      go_ret2
      exact ⟨rfl, hb1⟩
  · obtain ⟨n, hn, hno, rfl⟩ := hr
    clear hno
    go_wp2
    go_ret2
    exact ⟨rfl, hb1⟩

/-- Both readings of one text. -/
structure Reading (s : ByteArray) (c e : Int) : Prop where
  code : ∀ w, Tab w ∧ Sent w → Calls Tryd.prog 23 #[.string s] w fun r w' => r = .returned (.tuple #[.int .u32 c, .int .i64 e]) ∧ Below w.heap.size w w'
  doc : ∀ w, Calls Tryd.prog 24 #[.string s] w fun r w' => r = .returned (.tuple #[.int .u32 c, .int .i64 e]) ∧ Below w.heap.size w w'

theorem reading (s : ByteArray) (hs : s.size ≤ 140737488351232) : ∃ c e, Reading s c e := by
  rcases gen_or s.data.toList with ⟨u, h1, h2, h3⟩ | h
  · refine ⟨u, 0, fun w he => ?_, fun w => rparse_yes s u w hs ⟨h1, h2, h3⟩⟩
    rw [bytes_of h3]
    exact parse_same u h1 h2 w (.inr he.1)
  · exact ⟨0, 9, fun w he => parse_nogen s hs h w he, fun w => rparse_no s w hs h⟩

set_option maxHeartbeats 400000 in
set_option maxRecDepth 100000 in
theorem texts_long (g : Int) (s : ByteArray) (w : World) (hs : s.size ≤ 140737488351232) (hl : 1000 < s.size) :
    Calls Tryd.prog 4 #[.int .u32 g, .string s] w fun e w' => e = .returned (.bool true) ∧ Below w.heap.size w w' := by
  go_enter Tryd.func4, Tryd.ntmps4
  go_wp2_with fail
  refine (works_ok _).mono ?_
  rintro e w1 ⟨rfl, hb1⟩
  go_wp2
  go_ret
  exact ⟨rfl, hb1⟩

set_option maxHeartbeats 1000000 in
set_option maxRecDepth 100000 in
theorem texts_zero (s : ByteArray) (w : World) (hl : s.size ≤ 1000) (c e : Int) (hr : Reading s c e) (he : Tab w ∧ Sent w) :
    Calls Tryd.prog 4 #[.int .u32 0, .string s] w fun e w' => e = .returned (.bool true) ∧ Below w.heap.size w w' := by
  have HE := Lib.hid he
  have HR := Lib.hid hr
  clear he hr
  go_enter Tryd.func4, Tryd.ntmps4
  go_wp2_with fail
  refine (text_zero _).mono ?_
  rintro e w1 ⟨rfl, hb1⟩
  go_wp2_with fail
  refine (rtext_zero _).mono ?_
  rintro e w' ⟨rfl, rfl⟩
  go_wp2_with fail
  refine (HR.out.code _ ⟨HE.out.1.below hb1, HE.out.2.below hb1⟩).mono ?_
  rintro e w2 ⟨rfl, hb2⟩
  go_wp2_with fail
  refine (HR.out.doc _).mono ?_
  rintro e w3 ⟨rfl, hb3⟩
  go_wp2_with fail
  refine (works_ok _).mono ?_
  rintro e w4 ⟨rfl, hb4⟩
  go_wp2
  go_ret
  exact ⟨rfl, bel2 (bel2 (bel2 hb1 hb2) hb3) hb4⟩

set_option maxHeartbeats 1000000 in
set_option maxRecDepth 100000 in
theorem texts_gen (u : Nat) (s : ByteArray) (w : World) (h1 : 1 ≤ u) (h2 : u ≤ 4294967295) (hl : s.size ≤ 1000) (c e : Int) (hr : Reading s c e) (he : Tab w ∧ Sent w) :
    Calls Tryd.prog 4 #[.int .u32 u, .string s] w fun e w' => e = .returned (.bool true) ∧ Below w.heap.size w w' := by
  have HE := Lib.hid he
  have HR := Lib.hid hr
  clear he hr
  go_enter Tryd.func4, Tryd.ntmps4
  go_wp2_with fail
  refine (text_ok u h1 h2 _ (.inr HE.out.1)).mono ?_
  rintro e w1 ⟨rfl, hb1⟩
  go_wp2_with fail
  refine (rtext_ok u h1 h2 _).mono ?_
  rintro e w2 ⟨rfl, hb2⟩
  have HB := Lib.hid (bel2 hb1 hb2)
  go_wp2_with fail
  refine (HR.out.code _ ⟨HE.out.1.below HB.out, HE.out.2.below HB.out⟩).mono ?_
  rintro e w3 ⟨rfl, hb3⟩
  go_wp2_with fail
  refine (HR.out.doc _).mono ?_
  rintro e w4 ⟨rfl, hb4⟩
  go_wp2_with fail
  refine (works_ok _).mono ?_
  rintro e w5 ⟨rfl, hb5⟩
  go_wp2
  go_ret
  exact ⟨rfl, bel2 (bel2 (bel2 HB.out hb3) hb4) hb5⟩

theorem texts_walk (g : Int) (s : ByteArray) (w : World) (hg : 0 ≤ g) (hg' : g ≤ 4294967295) (hs : s.size ≤ 140737488351232) (he : Tab w ∧ Sent w) :
    Calls Tryd.prog 4 #[.int .u32 g, .string s] w fun e w' => e = .returned (.bool true) ∧ Below w.heap.size w w' := by
  by_cases hl : 1000 < s.size
  · exact texts_long g s w hs hl
  obtain ⟨c, e, hr⟩ := reading s hs
  by_cases h0 : g = 0
  · subst h0
    exact texts_zero s w (by omega) c e hr he
  · obtain ⟨u, rfl⟩ : ∃ u : Nat, g = (u : Int) := ⟨g.toNat, by omega⟩
    exact texts_gen u s w (by omega) (by omega) (by omega) c e hr he
end Go.Proofs.YtkpgogleehmoaaaDoor
