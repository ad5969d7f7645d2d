/- The examples of the chapter hold: works returns true. -/
import Derived.Test.YthcpmcdgojgdlaaCv
namespace Go.Proofs.Ythcpmcdgojgdlaa
open Go.RowKit

def X0 : Pt := white 4
def X1 : Pt := X0.turn 2 0 1
def X2 : Pt := X1.turn 2 0 1
def X3 : Pt := X2.turn 2 1 2
def X4 : Pt := X3.turn 2 1 2
def X5 : Pt := X4.turn 1 1 2
def X6 : Pt := X5.turn 3 0 2
def X7 : Pt := X6.turn 3 0 2
set_option maxRecDepth 100000 in
set_option maxHeartbeats 4000000 in
theorem works_ok (w : World) : Calls Try.prog 9 #[] w fun e w' => e = .returned (.bool true) ∧ Below w.heap.size w w' := by
  go_enter Try.func9, Try.ntmps9
  go_wp2_with fail
  refine (new_ok 4 _ (by decide) (by decide)).mono ?_
  rintro e w1 ⟨rfl, ht, hb⟩
  have S1 : Hid (CSt w w1 w.heap.size X0) := ⟨ht, hb, Nat.le_refl _⟩
  clear ht hb
  generalize w.heap.size = b at *
  go_wp2_with fail
  refine (shade_s 2 true 0 S1.out rfl rfl).mono ?_
  rintro e w2 ⟨rfl, s2, _⟩
  have S2 : Hid (CSt w w2 b X1) := s2
  clear s2 S1
  go_wp2_with fail
  refine (shade_s 2 false 0 S2.out rfl rfl).mono ?_
  rintro e w3 ⟨rfl, s2, _⟩
  have S3 : Hid (CSt w w3 b X2) := s2
  clear s2 S2
  go_wp2_with fail
  refine (counts_s 3 1 0 S3.out rfl rfl rfl).mono ?_
  rintro e w4 ⟨rfl, s2, _⟩
  have S4 : Hid (CSt w w4 b X2) := s2
  clear s2 S3
  go_wp2_with fail
  refine (black_s 2 0 S4.out rfl).mono ?_
  rintro e w5 ⟨rfl, s2, _⟩
  have S5 : Hid (CSt w w5 b X3) := s2
  clear s2 S4
  go_wp2_with fail
  refine (black_s 2 8 S5.out rfl).mono ?_
  rintro e w6 ⟨rfl, s2, _⟩
  have S6 : Hid (CSt w w6 b X4) := s2
  clear s2 S5
  go_wp2_with fail
  refine (black_s 1 8 S6.out rfl).mono ?_
  rintro e w7 ⟨rfl, s2, _⟩
  have S7 : Hid (CSt w w7 b X5) := s2
  clear s2 S6
  go_wp2_with fail
  refine (born_s 3 0 S7.out rfl).mono ?_
  rintro e w8 ⟨rfl, s2, _⟩
  have S8 : Hid (CSt w w8 b X6) := s2
  clear s2 S7
  go_wp2_with fail
  refine (born_s 3 8 S8.out rfl).mono ?_
  rintro e w9 ⟨rfl, s2, _⟩
  have S9 : Hid (CSt w w9 b X7) := s2
  clear s2 S8
  go_wp2_with fail
  refine (counts_s 2 0 2 S9.out rfl rfl rfl).mono ?_
  rintro e wa ⟨rfl, s2, _⟩
  have SA : Hid (CSt w wa b X7) := s2
  clear s2 S9
  go_wp2_with fail
  refine (of_s 2 2 0 SA.out rfl rfl).mono ?_
  rintro e w' ⟨rfl, rfl⟩
  go_wp2_with fail
  refine (of_s 4 0 3 SA.out rfl rfl).mono ?_
  rintro e w' ⟨rfl, rfl⟩
  go_wp2_with fail
  refine (bleach_s 2 0 SA.out rfl).mono ?_
  rintro e wb ⟨rfl, s2, _⟩
  have SB := Lib.hid s2.bel
  clear s2 SA
  go_wp2
  go_ret
  exact ⟨rfl, SB.out⟩
end Go.Proofs.Ythcpmcdgojgdlaa
