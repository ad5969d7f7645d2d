/- The walk of the statement TagsSorts: it returns true for all texts. -/
import Derived.Test.YtmgkdklpahggjaaDoorSo
namespace Go.Proofs.YtmgkdklpahggjaaDoor
open Go.RowKit Go.Lib

set_option maxRecDepth 100000 in
set_option maxHeartbeats 1000000 in
theorem sorts_long (a b c : ByteArray) (w : World) (ha : a.size ≤ 140737488351232) (hb : b.size ≤ 140737488351232) (hc : c.size ≤ 140737488351232) (he : Env w) (h : 300 < a.size ∨ 300 < b.size ∨ 300 < c.size) :
    Calls Tryd.prog 10 #[.string a, .string b, .string c] w fun e w' => e = .returned (.bool true) ∧ Below w.heap.size w w' := by
  by_cases h1 : 300 < a.size
  · go_enter Tryd.func10, Tryd.ntmps10
    go_wp2_with fail
    refine (works_ok _ he).mono ?_
    rintro e w1 ⟨rfl, hb1⟩
    go_wp2
    go_ret
    exact ⟨rfl, hb1⟩
  by_cases h2 : 300 < b.size
  · go_enter Tryd.func10, Tryd.ntmps10
    go_wp2_with fail
    refine (works_ok _ he).mono ?_
    rintro e w1 ⟨rfl, hb1⟩
    go_wp2
    go_ret
    exact ⟨rfl, hb1⟩
  · have h3 : 300 < c.size := by omega
    go_enter Tryd.func10, Tryd.ntmps10
    go_wp2_with fail
    refine (works_ok _ he).mono ?_
    rintro e w1 ⟨rfl, hb1⟩
    go_wp2
    go_ret
    exact ⟨rfl, hb1⟩

set_option maxRecDepth 100000 in
set_option maxHeartbeats 8000000 in
theorem sorts_core (a b c : ByteArray) (w : World) (ha : a.size ≤ 300) (hb : b.size ≤ 300) (hc : c.size ≤ 300) (he : Env w)
    (ab bc ac ba va vb : Int) (lt eq : Bool) (hab : ordT a.data.toList b.data.toList = ab) (hbc : ordT b.data.toList c.data.toList = bc) (hac : ordT a.data.toList c.data.toList = ac) (hba : ordT b.data.toList a.data.toList = ba)
    (hneg : ba = -ab) (hva : ChkV a.data.toList va) (hvb : ChkV b.data.toList vb) (hlt : Op.bytesLess a.toList b.toList = lt) (heq : (a.toList == b.toList) = eq)
    (hok : OrdOk ab bc ac va vb lt eq) :
    Calls Tryd.prog 10 #[.string a, .string b, .string c] w fun e w' => e = .returned (.bool true) ∧ Below w.heap.size w w' := by
  have HAB := Lib.hid hab
  have HBC := Lib.hid hbc
  have HAC := Lib.hid hac
  have HBA := Lib.hid hba
  have HVA := Lib.hid hva
  have HVB := Lib.hid hvb
  have HE := Lib.hid he
  clear hab hbc hac hba hva hvb he
  obtain ⟨h1, h2, h3, h4⟩ := hok
  rcases h1 with rfl | ⟨rfl, rfl⟩ | ⟨rfl, rfl⟩ | ⟨rfl, rfl, rfl⟩ | ⟨rfl, rfl, rfl⟩ | ⟨rfl, rfl, rfl⟩ | ⟨rfl, rfl, rfl⟩ <;>
  rcases h4 with ⟨rfl, rfl, h4⟩ | ⟨rfl, rfl, h4⟩ | ⟨rfl, rfl, h4⟩ | ⟨rfl, rfl, h4⟩ <;>
  first
    | (exfalso; revert h4; decide)
    | (exfalso; omega)
    | skip
  all_goals
    try simp at hneg
    subst hneg
    try simp at h4
    try obtain ⟨rfl, rfl⟩ := h4
    try clear h4
    go_enter Tryd.func10, Tryd.ntmps10
    go_wp2_with fail
    refine (order_val a b _ _ HE.out (by omega) (by omega) HAB.out).mono ?_
    rintro e w1 ⟨rfl, hb1⟩
    have B1 := Lib.hid hb1
    clear hb1
    go_wp2_with fail
    refine (order_val b c _ _ (HE.out.below B1.out) (by omega) (by omega) HBC.out).mono ?_
    rintro e w2 ⟨rfl, hb2⟩
    have B2 := Lib.hid (bel2 B1.out hb2)
    clear hb2 B1
    go_wp2_with fail
    refine (order_val a c _ _ (HE.out.below B2.out) (by omega) (by omega) HAC.out).mono ?_
    rintro e w3 ⟨rfl, hb3⟩
    have B3 := Lib.hid (bel2 B2.out hb3)
    clear hb3 B2
    go_wp2_with fail
    refine (check_val a _ _ (HE.out.below B3.out) (by omega) HVA.out).mono ?_
    rintro e w4 ⟨rfl, hb4⟩
    have B4 := Lib.hid (bel2 B3.out hb4)
    clear hb4 B3
    go_wp2_with fail
    refine (check_val b _ _ (HE.out.below B4.out) (by omega) HVB.out).mono ?_
    rintro e w5 ⟨rfl, hb5⟩
    have B5 := Lib.hid (bel2 B4.out hb5)
    clear hb5 B4
    go_wp2_with fail
    refine (order_val b a _ _ (HE.out.below B5.out) (by omega) (by omega) HBA.out).mono ?_
    rintro e w6 ⟨rfl, hb6⟩
    have B6 := Lib.hid (bel2 B5.out hb6)
    clear hb6 B5
    go_wp2_with fail
    refine (works_ok _ (HE.out.below B6.out)).mono ?_
    rintro e w7 ⟨rfl, hb7⟩
    go_wp2
    go_ret
    exact ⟨rfl, bel2 B6.out hb7⟩

theorem sorts_walk (a b c : ByteArray) (w : World) (ha : a.size ≤ 140737488351232) (hb : b.size ≤ 140737488351232) (hc : c.size ≤ 140737488351232) (he : Env w) :
    Calls Tryd.prog 10 #[.string a, .string b, .string c] w fun e w' => e = .returned (.bool true) ∧ Below w.heap.size w w' := by
  by_cases h : 300 < a.size ∨ 300 < b.size ∨ 300 < c.size
  · exact sorts_long a b c w ha hb hc he h
  obtain ⟨va, hva⟩ := chk_of a.data.toList
  obtain ⟨vb, hvb⟩ := chk_of b.data.toList
  refine sorts_core a b c w (by omega) (by omega) (by omega) he _ _ _ _ va vb _ _ rfl rfl rfl rfl (ordT_swap _ _) hva hvb rfl rfl ?_
  rw [Lib.toList_data, Lib.toList_data]
  exact ord_ok _ _ _ va vb hva hvb
end Go.Proofs.YtmgkdklpahggjaaDoor
