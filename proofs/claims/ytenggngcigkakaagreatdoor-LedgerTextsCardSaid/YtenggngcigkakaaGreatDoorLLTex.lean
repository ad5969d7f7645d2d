/- LedgerTexts gives true: the walk. -/
import Derived.Test.YtenggngcigkakaaGreatDoorJc
import Derived.Test.YtenggngcigkakaaGreatDoorIj
namespace Go.Proofs.YtenggngcigkakaaGreatDoor
open Go.RowKit Go.ChangeShapes

theorem both_print (R : List Att) (hg : AllRg R) : ∃ (T : ByteArray) (E : Int), (∀ (W : World) (q : Option Addr) (m k : Nat), RdA W (.slice q m k) R → EnvL W → Calls Tryz.prog 35 #[.slice q m k] W fun e w' => e = .returned (.tuple #[.string T, .int .i64 E]) ∧ Below W.heap.size W w') ∧
    (∀ (W : World) (q : Option Addr) (m k : Nat), RdA W (.slice q m k) R → Calls Tryz.prog 36 #[.slice q m k] W fun e w' => e = .returned (.tuple #[.string T, .int .i64 E]) ∧ Below W.heap.size W w') := by
  by_cases h : AllOk R
  · exact ⟨_, _, fun W q m k hr he => lprint_ok q m k R W hr h he, fun W q m k hr => rprint_ok q m k R W hr h⟩
  · exact ⟨_, _, fun W q m k hr he => lprint_bad q m k R W hr hg h he, fun W q m k hr => rprint_bad q m k R W hr hg h⟩
set_option maxRecDepth 100000 in
set_option maxHeartbeats 8000000 in
theorem lTex_nat (a : Option Addr) (n c : Nat) (l : List Att) (x : Nat) (w : World) (hr : RdA w (.slice a n c) l) (hg : AllRg l) (hx : x ≤ 255) (he : EnvL w) :
    Calls Tryz.prog 4 #[.slice a n c, .int .u8 x] w fun e w' => e = .returned (.bool true) ∧ Below w.heap.size w w' := by
  have HE := Lib.hid he
  obtain ⟨hn, hcap, hcm, _⟩ := hr.cap
  have HR := Lib.hid hr
  have HB0 := Lib.hid (Below.refl w.heap.size w)
  by_cases hlong : 200 < n
  · clear he hr hg hn
    go_enter Tryz.func4, Tryz.ntmps4
    go_wp2_with fail
    refine (works_ok _ HE.out).mono ?_
    rintro e w5 ⟨rfl, hb5⟩
    have HB5 := Lib.hid hb5
    clear hb5
    go_wp2
    go_ret
    exact ⟨rfl, HB5.out⟩
  · have hll : l.length ≤ 200 := by omega
    have HREP : Hid (∀ W, RdA W (.slice a n c) l → Calls Tryz.prog 33 #[.slice a n c, .int .i64 (1 + (x : Int) % 40)] W (NewA (rep l (1 + x % 40)) W)) := fun W h => by
      have := repeat_ok a n c l (1 + x % 40) W h (by omega) (by omega) (by omega)
      rw [show ((1 + x % 40 : Nat) : Int) = 1 + (x : Int) % 40 by omega] at this
      exact this
    have hRl : (rep l (1 + x % 40)).length ≤ 8000 := by
      rw [rep_length]
      exact Nat.le_trans (Nat.mul_le_mul (show 1 + x % 40 ≤ 40 by omega) hll) (by decide)
    have hRg : AllRg (rep l (1 + x % 40)) := fun y hy => hg y (rep_mem hy)
    generalize rep l (1 + x % 40) = R at *
    obtain ⟨T, E, hP, hQ⟩ := both_print R hRg
    have HP := Lib.hid hP
    have HQ := Lib.hid hQ
    obtain ⟨M, hM⟩ : ∃ M, R.length = M := ⟨_, rfl⟩
    have HM := Lib.hid hM
    have HM8 : Hid (R.length ≤ 8000) := hRl
    clear he hr hg hn hll hRl hRg hP hQ hM
    go_enter Tryz.func4, Tryz.ntmps4
    go_wp2_with fail
    refine (HREP.out _ HR.out).mono ?_
    rintro e w1 ⟨v, rfl, ho, hb1⟩
    obtain ⟨p, c1, rfl⟩ : ∃ p c1, v = .slice p M c1 := by have := rd_slice (RdA.of_own ho); rw [HM.out] at this; exact this
    have HB1 := Lib.hid hb1
    have HR1 := Lib.hid (RdA.of_own ho)
    clear ho hb1 HR HREP HB0
    go_wp2_with fail
    refine (clone_ok p M c1 R w1 HR1.out (Nat.le_trans HM8.out (by decide))).mono ?_
    rintro e w2 ⟨v, rfl, ho, hb2⟩
    obtain ⟨p2, c2, rfl⟩ : ∃ p c1, v = .slice p M c1 := by have := rd_slice (RdA.of_own ho); rw [HM.out] at this; exact this
    have HB2 := Lib.hid (bel2 HB1.out hb2)
    have HR2 := Lib.hid (HR1.out.below hb2)
    have HQ2 := Lib.hid (RdA.of_own ho)
    clear ho hb2 HB1 HR1
    go_wp2_with fail
    refine (HP.out _ _ _ _ HQ2.out (HE.out.below HB2.out)).mono ?_
    rintro e w3 ⟨rfl, hb3⟩
    have HB3 := Lib.hid (bel2 HB2.out hb3)
    have HR3 := Lib.hid (HR2.out.below hb3)
    have HQ3 := Lib.hid (HQ2.out.below hb3)
    clear hb3 HB2 HR2 HQ2
    go_wp2_with fail
    refine (HQ.out _ _ _ _ HR3.out).mono ?_
    rintro e w4 ⟨rfl, hb4⟩
    have HB4 := Lib.hid (bel2 HB3.out hb4)
    have HR4 := Lib.hid (HR3.out.below hb4)
    have HQ4 := Lib.hid (HQ3.out.below hb4)
    clear hb4 HB3 HR3 HQ3
    go_wp2_with fail
    refine (equal_yes _ _ _ _ _ _ R _ HQ4.out HR4.out).mono ?_
    rintro e w5 ⟨rfl, hb5⟩
    have HB5 := Lib.hid (bel2 HB4.out hb5)
    clear hb5 HB4 HR4 HQ4
    go_wp2_with fail
    refine (works_ok _ (HE.out.below HB5.out)).mono ?_
    rintro e w6 ⟨rfl, hb6⟩
    have HB6 := Lib.hid (bel2 HB5.out hb6)
    clear hb6
    go_wp2
    go_ret
    exact ⟨rfl, HB6.out⟩
theorem lTex_walk (a : Option Addr) (n c : Nat) (l : List Att) (x : Int) (w : World) (hr : RdA w (.slice a n c) l) (hg : AllRg l) (h0 : 0 ≤ x) (h1 : x ≤ 255) (he : EnvL w) :
    Calls Tryz.prog 4 #[.slice a n c, .int .u8 x] w fun e w' => e = .returned (.bool true) ∧ Below w.heap.size w w' := by
  obtain ⟨x, rfl⟩ := Int.eq_ofNat_of_zero_le h0
  exact lTex_nat a n c l x w hr hg (by omega) he
end Go.Proofs.YtenggngcigkakaaGreatDoor
