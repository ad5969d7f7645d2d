/- The walk of the statement AnswerNil: it returns true for all texts and numbers. -/
import Derived.Test.YtllfmancfkmimaaDoorAo
namespace Go.Proofs.YtllfmancfkmimaaDoor
open Go.RowKit

set_option maxRecDepth 100000 in
set_option maxHeartbeats 4000000 in
theorem aNil_core (s : ByteArray) (n : Int) (w : World) (hs : s.size ≤ 2500) (he : Env w) :
    Calls Tryd.prog 5 #[.string s, .int .i64 n] w fun e w' => e = .returned (.bool true) ∧ Below w.heap.size w w' := by
  have HE := Lib.hid he
  clear he
  go_enter Tryd.func5, Tryd.ntmps5
  go_wp2
  have hb1 := Bk.new w 43 #[.bool false, .slice none 0 0]
  have hb2 := Bk.new (w.alloc (.cells #[.bool false, .slice none 0 0] 43)) 32 #[.pointer none, .pointer (some ⟨w.heap.size, 0, none⟩)]
  obtain ⟨w2, hw2⟩ : ∃ w2, (w.alloc (.cells #[.bool false, .slice none 0 0] 43)).alloc (.cells #[.pointer none, .pointer (some ⟨w.heap.size, 0, none⟩)] 32) = w2 := ⟨_, rfl⟩
  have hB : Below w.heap.size w w2 := by rw [← hw2]; exact ((Below.refl _ w).alloc (Nat.le_refl _) _).alloc (by simp) _
  have hb1' : Bk w2 w.heap.size 43 #[.bool false, .slice none 0 0] := by rw [← hw2]; exact hb1.same (Below.heap_alloc _ _ _ (by simp))
  rw [World.size_alloc, hw2] at hb2
  rw [hw2]
  have hc0 : w2.cell? ⟨w.heap.size + 1, 0, none⟩ = some (.pointer none) := hb2.cell 0
  have hc1 : w2.cell? ⟨w.heap.size + 1, 1, none⟩ = some (.pointer (some ⟨w.heap.size, 0, none⟩)) := hb2.cell 1
  have HB := Lib.hid hB
  have HI0 : Hid (Inv w2 none) := .inl rfl
  have HI1 : Hid (Inv w2 (some ⟨w.heap.size, 0, none⟩)) := .inr ⟨_, rfl, hb1'⟩
  clear hb1 hb2 hw2 hB hb1'
  go_loopw [17] (fun i wr => ∃ k : Nat, k ≤ 2 ∧ i = .int .i64 k ∧ wr = w2) (fun i _ => 2 - (intOf i).toNat)
  case atStart => exact ⟨0, by omega, rfl, rfl⟩
  case round =>
    obtain ⟨k, hk, rfl, rfl⟩ := hrel
    by_cases k0 : k = 0
    · subst k0
      have HI := HI0
      go_wp2_with fail
      refine (add_inv _ _ _ HI.out).mono ?_
      rintro e w' ⟨rfl, rfl⟩
      go_wp2_with fail
      refine (next_inv _ _ HI.out).mono ?_
      rintro e w' ⟨rfl, rfl⟩
      go_wp2_with fail
      refine (left_inv _ _ HI.out).mono ?_
      rintro e w' ⟨rfl, rfl⟩
      go_wp2_with fail
      refine (peek_inv _ _ _ HI.out).mono ?_
      rintro e w' ⟨rfl, rfl⟩
      go_wp2_with fail
      refine (copy_inv _ _ HI.out).mono ?_
      rintro e w' ⟨rfl, rfl⟩
      go_wp2
      go_roundw
      case rel => exact ⟨1, by omega, rfl, by first | rfl | trivial⟩
      case measure => simp [intOf]
    by_cases k1 : k = 1
    · subst k1
      have HI := HI1
      go_wp2_with fail
      refine (add_inv _ _ _ HI.out).mono ?_
      rintro e w' ⟨rfl, rfl⟩
      go_wp2_with fail
      refine (next_inv _ _ HI.out).mono ?_
      rintro e w' ⟨rfl, rfl⟩
      go_wp2_with fail
      refine (left_inv _ _ HI.out).mono ?_
      rintro e w' ⟨rfl, rfl⟩
      go_wp2_with fail
      refine (peek_inv _ _ _ HI.out).mono ?_
      rintro e w' ⟨rfl, rfl⟩
      go_wp2_with fail
      refine (copy_inv _ _ HI.out).mono ?_
      rintro e w' ⟨rfl, rfl⟩
      go_wp2
      go_roundw
      case rel => exact ⟨2, by omega, rfl, by first | rfl | trivial⟩
      case measure => simp [intOf]
    · obtain rfl : k = 2 := by omega
      go_wp2_with fail
      refine (works_ok _ (HE.out.below HB.out)).mono ?_
      rintro e w7 ⟨rfl, hb7⟩
      go_wp2
      go_ret
      exact ⟨rfl, bel2 HB.out hb7⟩
set_option maxRecDepth 100000 in
theorem aNil_long (s : ByteArray) (n : Int) (w : World) (hs : s.size ≤ 140737488351232) (hl : 2500 < s.size) (he : Env w) :
    Calls Tryd.prog 5 #[.string s, .int .i64 n] w fun e w' => e = .returned (.bool true) ∧ Below w.heap.size w w' := by
  have HE := Lib.hid he
  clear he
  go_enter Tryd.func5, Tryd.ntmps5
  go_wp2_with fail
  refine (works_ok _ HE.out).mono ?_
  rintro e w3 ⟨rfl, hb3⟩
  go_wp2
  go_ret
  exact ⟨rfl, hb3⟩
theorem aNil_walk (s : ByteArray) (n : Int) (w : World) (hs : s.size ≤ 140737488351232) (_ : -9223372036854775808 ≤ n) (_ : n ≤ 9223372036854775807) (he : Env w) :
    Calls Tryd.prog 5 #[.string s, .int .i64 n] w fun e w' => e = .returned (.bool true) ∧ Below w.heap.size w w' := by
  by_cases h1 : s.size ≤ 2500
  · exact aNil_core s n w h1 he
  · exact aNil_long s n w hs (by omega) he
end Go.Proofs.YtllfmancfkmimaaDoor
