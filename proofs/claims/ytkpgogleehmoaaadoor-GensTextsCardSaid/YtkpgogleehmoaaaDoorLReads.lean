/- The walk of the statement GensReads: it returns true for every text. -/
import Derived.Test.YtkpgogleehmoaaaDoorLNewer
namespace Go.Proofs.YtkpgogleehmoaaaDoor
open Go.RowKit

theorem parse_nogen (s : ByteArray) (hs : s.size ≤ 140737488351232) (h : NoGen s.data.toList) (w : World) (he : Tab w ∧ Sent w) :
    Calls Tryd.prog 23 #[.string s] w fun e w' => e = .returned (.tuple #[.int .u32 0, .int .i64 9]) ∧ Below w.heap.size w w' := by
  by_cases hx : ∃ u, Lib.parseUintB 32 s.data.toList = .ok u
  · obtain ⟨u, hu⟩ := hx
    by_cases h0 : u = 0
    · subst h0
      exact parse_naught s (by omega) hu w
    · exact parse_other s (by omega) u (by omega) hu (h u (by omega) (by have := Lib.parseUintB_le hu; omega)) w (.inr he.1)
  · exact parse_bad s (by omega) (fun u hu => hx ⟨u, hu⟩) w he.2

theorem bytes_of {s : ByteArray} {l : List UInt8} (h : s.data.toList = l) : s = ⟨l.toArray⟩ := by
  subst h
  rfl

set_option maxHeartbeats 400000 in
theorem reads_long (s : ByteArray) (w : World) (hl : 300 < s.size) (hs : s.size ≤ 140737488351232) :
    Calls Tryd.prog 10 #[.string s] w fun e w' => e = .returned (.bool true) ∧ Below w.heap.size w w' := by
  go_enter Tryd.func10, Tryd.ntmps10
  go_wp2_with fail
  refine (works_ok _).mono ?_
  rintro e w1 ⟨rfl, hb1⟩
  go_wp2
  go_ret
  exact ⟨rfl, hb1⟩

set_option maxHeartbeats 400000 in
theorem reads_no (s : ByteArray) (w : World) (hl : s.size ≤ 300) (he : Tab w ∧ Sent w) (h : NoGen s.data.toList) :
    Calls Tryd.prog 10 #[.string s] w fun e w' => e = .returned (.bool true) ∧ Below w.heap.size w w' := by
  have H := Lib.hid h
  have HE := Lib.hid he
  clear h he
  go_enter Tryd.func10, Tryd.ntmps10
  go_wp2_with fail
  refine (parse_nogen s (by omega) H.out _ HE.out).mono ?_
  rintro e w1 ⟨rfl, hb1⟩
  go_wp2_with fail
  refine (works_ok _).mono ?_
  rintro e w2 ⟨rfl, hb2⟩
  go_wp2
  go_ret
  exact ⟨rfl, bel2 hb1 hb2⟩

set_option maxHeartbeats 400000 in
theorem reads_yes (u : Nat) (w : World) (h1 : 1 ≤ u) (h2 : u ≤ 4294967295) (he : Tab w ∧ Sent w) :
    Calls Tryd.prog 10 #[.string ⟨(Lib.decDigits u).toArray⟩] w fun e w' => e = .returned (.bool true) ∧ Below w.heap.size w w' := by
  have HE := Lib.hid he
  have hl := decBytes_size u h2
  have hl' : (Lib.decDigits u).length ≤ 20 := by simpa [ByteArray.size] using hl
  clear he hl
  go_enter Tryd.func10, Tryd.ntmps10
  go_wp2_with fail
  refine (parse_same u h1 h2 _ (.inr HE.out.1)).mono ?_
  rintro e w1 ⟨rfl, hb1⟩
  go_wp2_with fail
  refine (text_ok u h1 h2 _ (.inr (HE.out.1.below hb1))).mono ?_
  rintro e w2 ⟨rfl, hb2⟩
  go_wp2_with fail
  refine (check_ok u _ (by omega) (by omega)).mono ?_
  rintro e w' ⟨rfl, rfl⟩
  go_wp2_with fail
  refine (works_ok _).mono ?_
  rintro e w3 ⟨rfl, hb3⟩
  go_wp2
  go_ret
  exact ⟨rfl, bel2 (bel2 hb1 hb2) hb3⟩

theorem reads_walk (s : ByteArray) (w : World) (hs : s.size ≤ 140737488351232) (he : Tab w ∧ Sent w) :
    Calls Tryd.prog 10 #[.string s] w fun e w' => e = .returned (.bool true) ∧ Below w.heap.size w w' := by
  by_cases hl : 300 < s.size
  · exact reads_long s w hl hs
  rcases gen_or s.data.toList with ⟨u, h1, h2, h3⟩ | h
  · rw [bytes_of h3]
    exact reads_yes u w h1 h2 he
  · exact reads_no s w (by omega) he h
end Go.Proofs.YtkpgogleehmoaaaDoor
