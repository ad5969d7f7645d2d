/- The walk of the statement TagsOrders: it returns true for all texts. -/
import Derived.Test.YtmgkdklpahggjaaDoorRf
import Derived.Test.YtmgkdklpahggjaaDoorSo
namespace Go.Proofs.YtmgkdklpahggjaaDoor
open Go.RowKit

set_option maxRecDepth 100000 in
set_option maxHeartbeats 1000000 in
theorem orders_long (a b : ByteArray) (w : World) (ha : a.size ≤ 140737488351232) (hb : b.size ≤ 140737488351232) (he : Env w) (h : 500 < a.size ∨ 500 < b.size) :
    Calls Tryd.prog 6 #[.string a, .string b] w fun e w' => e = .returned (.bool true) ∧ Below w.heap.size w w' := by
  by_cases h1 : 500 < a.size
  · go_enter Tryd.func6, Tryd.ntmps6
    go_wp2_with fail
    refine (works_ok _ he).mono ?_
    rintro e w1 ⟨rfl, hb1⟩
    go_wp2
    go_ret
    exact ⟨rfl, hb1⟩
  · have h2 : 500 < b.size := by omega
    go_enter Tryd.func6, Tryd.ntmps6
    go_wp2_with fail
    refine (works_ok _ he).mono ?_
    rintro e w1 ⟨rfl, hb1⟩
    go_wp2
    go_ret
    exact ⟨rfl, hb1⟩
set_option maxRecDepth 100000 in
set_option maxHeartbeats 1000000 in
theorem orders_walk (a b : ByteArray) (w : World) (ha : a.size ≤ 140737488351232) (hb : b.size ≤ 140737488351232) (he : Env w) :
    Calls Tryd.prog 6 #[.string a, .string b] w fun e w' => e = .returned (.bool true) ∧ Below w.heap.size w w' := by
  by_cases h : 500 < a.size ∨ 500 < b.size
  · exact orders_long a b w ha hb he h
  have h1 : ¬ 500 < a.size := fun x => h (.inl x)
  have h2 : ¬ 500 < b.size := fun x => h (.inr x)
  have HE := Lib.hid he
  have HV : Hid (∀ W : World, Calls Tryd.prog 27 #[.string a, .string b] W fun e w' => e = .returned (.int .i64 (ordT a.data.toList b.data.toList)) ∧ Below W.heap.size W w') := fun W => rorder_any a b W (by omega) (by omega)
  obtain ⟨v, hv⟩ : ∃ v, ordT a.data.toList b.data.toList = v := ⟨_, rfl⟩
  rw [hv] at HV
  have HO := Lib.hid hv
  clear hv he h
  go_enter Tryd.func6, Tryd.ntmps6
  go_wp2_with fail
  refine (order_val a b v _ HE.out (by omega) (by omega) HO.out).mono ?_
  rintro e w1 ⟨rfl, hb1⟩
  have B1 := Lib.hid hb1
  clear hb1
  go_wp2_with fail
  refine (HV.out _).mono ?_
  rintro e w2 ⟨rfl, hb2⟩
  have B2 := Lib.hid (bel2 B1.out hb2)
  clear hb2
  go_wp2_with fail
  refine (order_val a a 0 _ (HE.out.below B2.out) (by omega) (by omega) (ordT_self _)).mono ?_
  rintro e w3 ⟨rfl, hb3⟩
  have B3 := Lib.hid (bel2 B2.out hb3)
  clear hb3
  go_wp2_with fail
  refine (works_ok _ (HE.out.below B3.out)).mono ?_
  rintro e w4 ⟨rfl, hb4⟩
  go_wp2
  go_ret
  exact ⟨rfl, bel2 B3.out hb4⟩
end Go.Proofs.YtmgkdklpahggjaaDoor
