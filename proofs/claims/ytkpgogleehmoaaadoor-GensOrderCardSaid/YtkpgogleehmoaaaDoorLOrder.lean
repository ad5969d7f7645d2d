/- The walk of the statement GensOrder: it returns true for any three numbers. -/
import Derived.Test.YtkpgogleehmoaaaDoorLNewer
namespace Go.Proofs.YtkpgogleehmoaaaDoor
open Go.RowKit

set_option maxHeartbeats 1000000 in
set_option maxRecDepth 100000 in
theorem order_lt_no (a b c x y z : Int) (w : World) (hmx : max a 1 = x) (hmy : max b 1 = y) (hmz : max c 1 = z) (hx : 1 ≤ x) (hx' : x ≤ 4294967295) (hy : 1 ≤ y) (hy' : y ≤ 4294967295) (hz : 1 ≤ z) (hz' : z ≤ 4294967295) (_h0 : 0 ≤ c) (_h0' : c ≤ 4294967295) (hxy : x < y) (hc : 4294967295 - y < c) :
    Calls Tryd.prog 8 #[.int .u32 a, .int .u32 b, .int .u32 c] w fun e w' => e = .returned (.bool true) ∧ Below w.heap.size w w' := by
  have he : (x == y) = false := beq_eq_false_iff_ne.2 (by omega)
  go_enter Tryd.func8, Tryd.ntmps8
  go_wp2_with fail
  refine (newer_no x y _ hx (by omega) hy').mono ?_
  rintro e w1 ⟨rfl, hb1⟩
  go_wp2_with fail
  refine (newer_yes y x _ hx hxy hy').mono ?_
  rintro e w2 ⟨rfl, hb2⟩
  go_wp2_with fail
  refine (newer_ok y z _ hy hy' hz hz').mono ?_
  rintro e w3 ⟨rfl, hb3⟩
  go_wp2_with fail
  refine (newer_ok x z _ hx hx' hz hz').mono ?_
  rintro e w4 ⟨rfl, hb4⟩
  go_wp2_with fail
  refine (after_no y c _ hy hy' hc).mono ?_
  rintro e w5 ⟨rfl, hb5⟩
  go_wp2_with fail
  refine (works_ok _).mono ?_
  rintro e w6 ⟨rfl, hb6⟩
  go_wp2
  go_ret
  exact ⟨rfl, bel2 (bel2 (bel2 (bel2 (bel2 hb1 hb2) hb3) hb4) hb5) hb6⟩

set_option maxHeartbeats 1000000 in
set_option maxRecDepth 100000 in
theorem order_lt_zero (a b c x y z : Int) (w : World) (hmx : max a 1 = x) (hmy : max b 1 = y) (hmz : max c 1 = z) (hx : 1 ≤ x) (hx' : x ≤ 4294967295) (hy : 1 ≤ y) (hy' : y ≤ 4294967295) (hz : 1 ≤ z) (hz' : z ≤ 4294967295) (_h0 : 0 ≤ c) (_h0' : c ≤ 4294967295) (hxy : x < y) (hc : c = 0) :
    Calls Tryd.prog 8 #[.int .u32 a, .int .u32 b, .int .u32 c] w fun e w' => e = .returned (.bool true) ∧ Below w.heap.size w w' := by
  have he : (x == y) = false := beq_eq_false_iff_ne.2 (by omega)
  subst hc
  go_enter Tryd.func8, Tryd.ntmps8
  go_wp2_with fail
  refine (newer_no x y _ hx (by omega) hy').mono ?_
  rintro e w1 ⟨rfl, hb1⟩
  go_wp2_with fail
  refine (newer_yes y x _ hx hxy hy').mono ?_
  rintro e w2 ⟨rfl, hb2⟩
  go_wp2_with fail
  refine (newer_ok y z _ hy hy' hz hz').mono ?_
  rintro e w3 ⟨rfl, hb3⟩
  go_wp2_with fail
  refine (newer_ok x z _ hx hx' hz hz').mono ?_
  rintro e w4 ⟨rfl, hb4⟩
  go_wp2_with fail
  refine (after_yes y 0 _ hy hy' (by omega) (by omega)).mono ?_
  rintro e w5 ⟨rfl, hb5⟩
  go_wp2_with fail
  refine (newer_no y y _ hy (by omega) hy').mono ?_
  rintro e w6 ⟨rfl, hb6⟩
  go_wp2_with fail
  refine (works_ok _).mono ?_
  rintro e w7 ⟨rfl, hb7⟩
  go_wp2
  go_ret
  exact ⟨rfl, bel2 (bel2 (bel2 (bel2 (bel2 (bel2 hb1 hb2) hb3) hb4) hb5) hb6) hb7⟩

set_option maxHeartbeats 1000000 in
set_option maxRecDepth 100000 in
theorem order_lt_yes (a b c x y z : Int) (w : World) (hmx : max a 1 = x) (hmy : max b 1 = y) (hmz : max c 1 = z) (hx : 1 ≤ x) (hx' : x ≤ 4294967295) (hy : 1 ≤ y) (hy' : y ≤ 4294967295) (hz : 1 ≤ z) (hz' : z ≤ 4294967295) (_h0 : 0 ≤ c) (_h0' : c ≤ 4294967295) (hxy : x < y) (hc : 0 < c) (hc' : c ≤ 4294967295 - y) :
    Calls Tryd.prog 8 #[.int .u32 a, .int .u32 b, .int .u32 c] w fun e w' => e = .returned (.bool true) ∧ Below w.heap.size w w' := by
  have he : (x == y) = false := beq_eq_false_iff_ne.2 (by omega)
  have hd : decide (0 < c) = true := decide_eq_true hc
  go_enter Tryd.func8, Tryd.ntmps8
  go_wp2_with fail
  refine (newer_no x y _ hx (by omega) hy').mono ?_
  rintro e w1 ⟨rfl, hb1⟩
  go_wp2_with fail
  refine (newer_yes y x _ hx hxy hy').mono ?_
  rintro e w2 ⟨rfl, hb2⟩
  go_wp2_with fail
  refine (newer_ok y z _ hy hy' hz hz').mono ?_
  rintro e w3 ⟨rfl, hb3⟩
  go_wp2_with fail
  refine (newer_ok x z _ hx hx' hz hz').mono ?_
  rintro e w4 ⟨rfl, hb4⟩
  go_wp2_with fail
  refine (after_yes y c _ hy hy' (by omega) hc').mono ?_
  rintro e w5 ⟨rfl, hb5⟩
  go_wp2_with fail
  refine (newer_yes (y + c) y _ hy (by omega) (by omega)).mono ?_
  rintro e w6 ⟨rfl, hb6⟩
  go_wp2_with fail
  refine (works_ok _).mono ?_
  rintro e w7 ⟨rfl, hb7⟩
  go_wp2
  go_ret
  exact ⟨rfl, bel2 (bel2 (bel2 (bel2 (bel2 (bel2 hb1 hb2) hb3) hb4) hb5) hb6) hb7⟩

set_option maxHeartbeats 1000000 in
set_option maxRecDepth 100000 in
theorem order_eq_no (a b c x y z : Int) (w : World) (hmx : max a 1 = x) (hmy : max b 1 = y) (hmz : max c 1 = z) (hx : 1 ≤ x) (hx' : x ≤ 4294967295) (_hy : 1 ≤ y) (_hy' : y ≤ 4294967295) (hz : 1 ≤ z) (hz' : z ≤ 4294967295) (_h0 : 0 ≤ c) (_h0' : c ≤ 4294967295) (hxy : x = y) (hc : 4294967295 - y < c) :
    Calls Tryd.prog 8 #[.int .u32 a, .int .u32 b, .int .u32 c] w fun e w' => e = .returned (.bool true) ∧ Below w.heap.size w w' := by
  subst hxy
  go_enter Tryd.func8, Tryd.ntmps8
  go_wp2_with fail
  refine (newer_no x x _ hx (by omega) hx').mono ?_
  rintro e w1 ⟨rfl, hb1⟩
  go_wp2_with fail
  refine (newer_no x x _ hx (by omega) hx').mono ?_
  rintro e w2 ⟨rfl, hb2⟩
  go_wp2_with fail
  refine (newer_ok x z _ hx hx' hz hz').mono ?_
  rintro e w3 ⟨rfl, hb3⟩
  go_wp2_with fail
  refine (newer_ok x z _ hx hx' hz hz').mono ?_
  rintro e w4 ⟨rfl, hb4⟩
  go_wp2_with fail
  refine (after_no x c _ hx hx' hc).mono ?_
  rintro e w5 ⟨rfl, hb5⟩
  go_wp2_with fail
  refine (works_ok _).mono ?_
  rintro e w6 ⟨rfl, hb6⟩
  go_wp2
  go_ret
  exact ⟨rfl, bel2 (bel2 (bel2 (bel2 (bel2 hb1 hb2) hb3) hb4) hb5) hb6⟩

set_option maxHeartbeats 1000000 in
set_option maxRecDepth 100000 in
theorem order_eq_zero (a b c x y z : Int) (w : World) (hmx : max a 1 = x) (hmy : max b 1 = y) (hmz : max c 1 = z) (hx : 1 ≤ x) (hx' : x ≤ 4294967295) (_hy : 1 ≤ y) (_hy' : y ≤ 4294967295) (hz : 1 ≤ z) (hz' : z ≤ 4294967295) (_h0 : 0 ≤ c) (_h0' : c ≤ 4294967295) (hxy : x = y) (hc : c = 0) :
    Calls Tryd.prog 8 #[.int .u32 a, .int .u32 b, .int .u32 c] w fun e w' => e = .returned (.bool true) ∧ Below w.heap.size w w' := by
  subst hxy
  subst hc
  go_enter Tryd.func8, Tryd.ntmps8
  go_wp2_with fail
  refine (newer_no x x _ hx (by omega) hx').mono ?_
  rintro e w1 ⟨rfl, hb1⟩
  go_wp2_with fail
  refine (newer_no x x _ hx (by omega) hx').mono ?_
  rintro e w2 ⟨rfl, hb2⟩
  go_wp2_with fail
  refine (newer_ok x z _ hx hx' hz hz').mono ?_
  rintro e w3 ⟨rfl, hb3⟩
  go_wp2_with fail
  refine (newer_ok x z _ hx hx' hz hz').mono ?_
  rintro e w4 ⟨rfl, hb4⟩
  go_wp2_with fail
  refine (after_yes x 0 _ hx hx' (by omega) (by omega)).mono ?_
  rintro e w5 ⟨rfl, hb5⟩
  go_wp2_with fail
  refine (newer_no x x _ hx (by omega) hx').mono ?_
  rintro e w6 ⟨rfl, hb6⟩
  go_wp2_with fail
  refine (works_ok _).mono ?_
  rintro e w7 ⟨rfl, hb7⟩
  go_wp2
  go_ret
  exact ⟨rfl, bel2 (bel2 (bel2 (bel2 (bel2 (bel2 hb1 hb2) hb3) hb4) hb5) hb6) hb7⟩

set_option maxHeartbeats 1000000 in
set_option maxRecDepth 100000 in
theorem order_eq_yes (a b c x y z : Int) (w : World) (hmx : max a 1 = x) (hmy : max b 1 = y) (hmz : max c 1 = z) (hx : 1 ≤ x) (hx' : x ≤ 4294967295) (_hy : 1 ≤ y) (_hy' : y ≤ 4294967295) (hz : 1 ≤ z) (hz' : z ≤ 4294967295) (_h0 : 0 ≤ c) (_h0' : c ≤ 4294967295) (hxy : x = y) (hc : 0 < c) (hc' : c ≤ 4294967295 - y) :
    Calls Tryd.prog 8 #[.int .u32 a, .int .u32 b, .int .u32 c] w fun e w' => e = .returned (.bool true) ∧ Below w.heap.size w w' := by
  subst hxy
  have hd : decide (0 < c) = true := decide_eq_true hc
  go_enter Tryd.func8, Tryd.ntmps8
  go_wp2_with fail
  refine (newer_no x x _ hx (by omega) hx').mono ?_
  rintro e w1 ⟨rfl, hb1⟩
  go_wp2_with fail
  refine (newer_no x x _ hx (by omega) hx').mono ?_
  rintro e w2 ⟨rfl, hb2⟩
  go_wp2_with fail
  refine (newer_ok x z _ hx hx' hz hz').mono ?_
  rintro e w3 ⟨rfl, hb3⟩
  go_wp2_with fail
  refine (newer_ok x z _ hx hx' hz hz').mono ?_
  rintro e w4 ⟨rfl, hb4⟩
  go_wp2_with fail
  refine (after_yes x c _ hx hx' (by omega) hc').mono ?_
  rintro e w5 ⟨rfl, hb5⟩
  go_wp2_with fail
  refine (newer_yes (x + c) x _ hx (by omega) (by omega)).mono ?_
  rintro e w6 ⟨rfl, hb6⟩
  go_wp2_with fail
  refine (works_ok _).mono ?_
  rintro e w7 ⟨rfl, hb7⟩
  go_wp2
  go_ret
  exact ⟨rfl, bel2 (bel2 (bel2 (bel2 (bel2 (bel2 hb1 hb2) hb3) hb4) hb5) hb6) hb7⟩

set_option maxHeartbeats 1000000 in
set_option maxRecDepth 100000 in
theorem order_gtr_no (a b c x y z : Int) (w : World) (hmx : max a 1 = x) (hmy : max b 1 = y) (hmz : max c 1 = z) (_hx : 1 ≤ x) (hx' : x ≤ 4294967295) (hy : 1 ≤ y) (hy' : y ≤ 4294967295) (hz : 1 ≤ z) (_hz' : z ≤ 4294967295) (_h0 : 0 ≤ c) (_h0' : c ≤ 4294967295) (hxy : y < x) (hr : z < y) (hc : 4294967295 - y < c) :
    Calls Tryd.prog 8 #[.int .u32 a, .int .u32 b, .int .u32 c] w fun e w' => e = .returned (.bool true) ∧ Below w.heap.size w w' := by
  have he : (x == y) = false := beq_eq_false_iff_ne.2 (by omega)
  go_enter Tryd.func8, Tryd.ntmps8
  go_wp2_with fail
  refine (newer_yes x y _ hy hxy hx').mono ?_
  rintro e w1 ⟨rfl, hb1⟩
  go_wp2_with fail
  refine (newer_no y x _ hy (by omega) hx').mono ?_
  rintro e w2 ⟨rfl, hb2⟩
  go_wp2_with fail
  refine (newer_yes y z _ hz hr hy').mono ?_
  rintro e w3 ⟨rfl, hb3⟩
  go_wp2_with fail
  refine (newer_yes x z _ hz (by omega) hx').mono ?_
  rintro e w4 ⟨rfl, hb4⟩
  go_wp2_with fail
  refine (after_no y c _ hy hy' hc).mono ?_
  rintro e w5 ⟨rfl, hb5⟩
  go_wp2_with fail
  refine (works_ok _).mono ?_
  rintro e w6 ⟨rfl, hb6⟩
  go_wp2
  go_ret
  exact ⟨rfl, bel2 (bel2 (bel2 (bel2 (bel2 hb1 hb2) hb3) hb4) hb5) hb6⟩

set_option maxHeartbeats 1000000 in
set_option maxRecDepth 100000 in
theorem order_gtr_zero (a b c x y z : Int) (w : World) (hmx : max a 1 = x) (hmy : max b 1 = y) (hmz : max c 1 = z) (_hx : 1 ≤ x) (hx' : x ≤ 4294967295) (hy : 1 ≤ y) (hy' : y ≤ 4294967295) (hz : 1 ≤ z) (_hz' : z ≤ 4294967295) (_h0 : 0 ≤ c) (_h0' : c ≤ 4294967295) (hxy : y < x) (hr : z < y) (hc : c = 0) :
    Calls Tryd.prog 8 #[.int .u32 a, .int .u32 b, .int .u32 c] w fun e w' => e = .returned (.bool true) ∧ Below w.heap.size w w' := by
  have he : (x == y) = false := beq_eq_false_iff_ne.2 (by omega)
  subst hc
  go_enter Tryd.func8, Tryd.ntmps8
  go_wp2_with fail
  refine (newer_yes x y _ hy hxy hx').mono ?_
  rintro e w1 ⟨rfl, hb1⟩
  go_wp2_with fail
  refine (newer_no y x _ hy (by omega) hx').mono ?_
  rintro e w2 ⟨rfl, hb2⟩
  go_wp2_with fail
  refine (newer_yes y z _ hz hr hy').mono ?_
  rintro e w3 ⟨rfl, hb3⟩
  go_wp2_with fail
  refine (newer_yes x z _ hz (by omega) hx').mono ?_
  rintro e w4 ⟨rfl, hb4⟩
  go_wp2_with fail
  refine (after_yes y 0 _ hy hy' (by omega) (by omega)).mono ?_
  rintro e w5 ⟨rfl, hb5⟩
  go_wp2_with fail
  refine (newer_no y y _ hy (by omega) hy').mono ?_
  rintro e w6 ⟨rfl, hb6⟩
  go_wp2_with fail
  refine (works_ok _).mono ?_
  rintro e w7 ⟨rfl, hb7⟩
  go_wp2
  go_ret
  exact ⟨rfl, bel2 (bel2 (bel2 (bel2 (bel2 (bel2 hb1 hb2) hb3) hb4) hb5) hb6) hb7⟩

set_option maxHeartbeats 1000000 in
set_option maxRecDepth 100000 in
theorem order_gtr_yes (a b c x y z : Int) (w : World) (hmx : max a 1 = x) (hmy : max b 1 = y) (hmz : max c 1 = z) (_hx : 1 ≤ x) (hx' : x ≤ 4294967295) (hy : 1 ≤ y) (hy' : y ≤ 4294967295) (hz : 1 ≤ z) (_hz' : z ≤ 4294967295) (_h0 : 0 ≤ c) (_h0' : c ≤ 4294967295) (hxy : y < x) (hr : z < y) (hc : 0 < c) (hc' : c ≤ 4294967295 - y) :
    Calls Tryd.prog 8 #[.int .u32 a, .int .u32 b, .int .u32 c] w fun e w' => e = .returned (.bool true) ∧ Below w.heap.size w w' := by
  have he : (x == y) = false := beq_eq_false_iff_ne.2 (by omega)
  have hd : decide (0 < c) = true := decide_eq_true hc
  go_enter Tryd.func8, Tryd.ntmps8
  go_wp2_with fail
  refine (newer_yes x y _ hy hxy hx').mono ?_
  rintro e w1 ⟨rfl, hb1⟩
  go_wp2_with fail
  refine (newer_no y x _ hy (by omega) hx').mono ?_
  rintro e w2 ⟨rfl, hb2⟩
  go_wp2_with fail
  refine (newer_yes y z _ hz hr hy').mono ?_
  rintro e w3 ⟨rfl, hb3⟩
  go_wp2_with fail
  refine (newer_yes x z _ hz (by omega) hx').mono ?_
  rintro e w4 ⟨rfl, hb4⟩
  go_wp2_with fail
  refine (after_yes y c _ hy hy' (by omega) hc').mono ?_
  rintro e w5 ⟨rfl, hb5⟩
  go_wp2_with fail
  refine (newer_yes (y + c) y _ hy (by omega) (by omega)).mono ?_
  rintro e w6 ⟨rfl, hb6⟩
  go_wp2_with fail
  refine (works_ok _).mono ?_
  rintro e w7 ⟨rfl, hb7⟩
  go_wp2
  go_ret
  exact ⟨rfl, bel2 (bel2 (bel2 (bel2 (bel2 (bel2 hb1 hb2) hb3) hb4) hb5) hb6) hb7⟩

set_option maxHeartbeats 1000000 in
set_option maxRecDepth 100000 in
theorem order_gtn_no (a b c x y z : Int) (w : World) (hmx : max a 1 = x) (hmy : max b 1 = y) (hmz : max c 1 = z) (hx : 1 ≤ x) (hx' : x ≤ 4294967295) (hy : 1 ≤ y) (hy' : y ≤ 4294967295) (hz : 1 ≤ z) (hz' : z ≤ 4294967295) (_h0 : 0 ≤ c) (_h0' : c ≤ 4294967295) (hxy : y < x) (hr : y ≤ z) (hc : 4294967295 - y < c) :
    Calls Tryd.prog 8 #[.int .u32 a, .int .u32 b, .int .u32 c] w fun e w' => e = .returned (.bool true) ∧ Below w.heap.size w w' := by
  have he : (x == y) = false := beq_eq_false_iff_ne.2 (by omega)
  go_enter Tryd.func8, Tryd.ntmps8
  go_wp2_with fail
  refine (newer_yes x y _ hy hxy hx').mono ?_
  rintro e w1 ⟨rfl, hb1⟩
  go_wp2_with fail
  refine (newer_no y x _ hy (by omega) hx').mono ?_
  rintro e w2 ⟨rfl, hb2⟩
  go_wp2_with fail
  refine (newer_no y z _ hy hr hz').mono ?_
  rintro e w3 ⟨rfl, hb3⟩
  go_wp2_with fail
  refine (newer_ok x z _ hx hx' hz hz').mono ?_
  rintro e w4 ⟨rfl, hb4⟩
  go_wp2_with fail
  refine (after_no y c _ hy hy' hc).mono ?_
  rintro e w5 ⟨rfl, hb5⟩
  go_wp2_with fail
  refine (works_ok _).mono ?_
  rintro e w6 ⟨rfl, hb6⟩
  go_wp2
  go_ret
  exact ⟨rfl, bel2 (bel2 (bel2 (bel2 (bel2 hb1 hb2) hb3) hb4) hb5) hb6⟩

set_option maxHeartbeats 1000000 in
set_option maxRecDepth 100000 in
theorem order_gtn_zero (a b c x y z : Int) (w : World) (hmx : max a 1 = x) (hmy : max b 1 = y) (hmz : max c 1 = z) (hx : 1 ≤ x) (hx' : x ≤ 4294967295) (hy : 1 ≤ y) (hy' : y ≤ 4294967295) (hz : 1 ≤ z) (hz' : z ≤ 4294967295) (_h0 : 0 ≤ c) (_h0' : c ≤ 4294967295) (hxy : y < x) (hr : y ≤ z) (hc : c = 0) :
    Calls Tryd.prog 8 #[.int .u32 a, .int .u32 b, .int .u32 c] w fun e w' => e = .returned (.bool true) ∧ Below w.heap.size w w' := by
  have he : (x == y) = false := beq_eq_false_iff_ne.2 (by omega)
  subst hc
  go_enter Tryd.func8, Tryd.ntmps8
  go_wp2_with fail
  refine (newer_yes x y _ hy hxy hx').mono ?_
  rintro e w1 ⟨rfl, hb1⟩
  go_wp2_with fail
  refine (newer_no y x _ hy (by omega) hx').mono ?_
  rintro e w2 ⟨rfl, hb2⟩
  go_wp2_with fail
  refine (newer_no y z _ hy hr hz').mono ?_
  rintro e w3 ⟨rfl, hb3⟩
  go_wp2_with fail
  refine (newer_ok x z _ hx hx' hz hz').mono ?_
  rintro e w4 ⟨rfl, hb4⟩
  go_wp2_with fail
  refine (after_yes y 0 _ hy hy' (by omega) (by omega)).mono ?_
  rintro e w5 ⟨rfl, hb5⟩
  go_wp2_with fail
  refine (newer_no y y _ hy (by omega) hy').mono ?_
  rintro e w6 ⟨rfl, hb6⟩
  go_wp2_with fail
  refine (works_ok _).mono ?_
  rintro e w7 ⟨rfl, hb7⟩
  go_wp2
  go_ret
  exact ⟨rfl, bel2 (bel2 (bel2 (bel2 (bel2 (bel2 hb1 hb2) hb3) hb4) hb5) hb6) hb7⟩

set_option maxHeartbeats 1000000 in
set_option maxRecDepth 100000 in
theorem order_gtn_yes (a b c x y z : Int) (w : World) (hmx : max a 1 = x) (hmy : max b 1 = y) (hmz : max c 1 = z) (hx : 1 ≤ x) (hx' : x ≤ 4294967295) (hy : 1 ≤ y) (hy' : y ≤ 4294967295) (hz : 1 ≤ z) (hz' : z ≤ 4294967295) (_h0 : 0 ≤ c) (_h0' : c ≤ 4294967295) (hxy : y < x) (hr : y ≤ z) (hc : 0 < c) (hc' : c ≤ 4294967295 - y) :
    Calls Tryd.prog 8 #[.int .u32 a, .int .u32 b, .int .u32 c] w fun e w' => e = .returned (.bool true) ∧ Below w.heap.size w w' := by
  have he : (x == y) = false := beq_eq_false_iff_ne.2 (by omega)
  have hd : decide (0 < c) = true := decide_eq_true hc
  go_enter Tryd.func8, Tryd.ntmps8
  go_wp2_with fail
  refine (newer_yes x y _ hy hxy hx').mono ?_
  rintro e w1 ⟨rfl, hb1⟩
  go_wp2_with fail
  refine (newer_no y x _ hy (by omega) hx').mono ?_
  rintro e w2 ⟨rfl, hb2⟩
  go_wp2_with fail
  refine (newer_no y z _ hy hr hz').mono ?_
  rintro e w3 ⟨rfl, hb3⟩
  go_wp2_with fail
  refine (newer_ok x z _ hx hx' hz hz').mono ?_
  rintro e w4 ⟨rfl, hb4⟩
  go_wp2_with fail
  refine (after_yes y c _ hy hy' (by omega) hc').mono ?_
  rintro e w5 ⟨rfl, hb5⟩
  go_wp2_with fail
  refine (newer_yes (y + c) y _ hy (by omega) (by omega)).mono ?_
  rintro e w6 ⟨rfl, hb6⟩
  go_wp2_with fail
  refine (works_ok _).mono ?_
  rintro e w7 ⟨rfl, hb7⟩
  go_wp2
  go_ret
  exact ⟨rfl, bel2 (bel2 (bel2 (bel2 (bel2 (bel2 hb1 hb2) hb3) hb4) hb5) hb6) hb7⟩

theorem order_walk (a b c : Int) (w : World) (ha : 0 ≤ a) (ha' : a ≤ 4294967295) (hb : 0 ≤ b) (hb' : b ≤ 4294967295) (hc : 0 ≤ c) (hc' : c ≤ 4294967295) :
    Calls Tryd.prog 8 #[.int .u32 a, .int .u32 b, .int .u32 c] w fun e w' => e = .returned (.bool true) ∧ Below w.heap.size w w' := by
  have hx : 1 ≤ max a 1 := by omega
  have hx' : max a 1 ≤ 4294967295 := by omega
  have hy : 1 ≤ max b 1 := by omega
  have hy' : max b 1 ≤ 4294967295 := by omega
  have hz : 1 ≤ max c 1 := by omega
  have hz' : max c 1 ≤ 4294967295 := by omega
  rcases Int.lt_trichotomy (max a 1) (max b 1) with h | h | h
  · by_cases h3 : 4294967295 - max b 1 < c
    · exact order_lt_no a b c _ _ _ w rfl rfl rfl hx hx' hy hy' hz hz' hc hc' h h3
    by_cases h4 : c = 0
    · exact order_lt_zero a b c _ _ _ w rfl rfl rfl hx hx' hy hy' hz hz' hc hc' h h4
    · exact order_lt_yes a b c _ _ _ w rfl rfl rfl hx hx' hy hy' hz hz' hc hc' h (by omega) (by omega)
  · by_cases h3 : 4294967295 - max b 1 < c
    · exact order_eq_no a b c _ _ _ w rfl rfl rfl hx hx' hy hy' hz hz' hc hc' h h3
    by_cases h4 : c = 0
    · exact order_eq_zero a b c _ _ _ w rfl rfl rfl hx hx' hy hy' hz hz' hc hc' h h4
    · exact order_eq_yes a b c _ _ _ w rfl rfl rfl hx hx' hy hy' hz hz' hc hc' h (by omega) (by omega)
  · by_cases h2 : max c 1 < max b 1
    · by_cases h3 : 4294967295 - max b 1 < c
      · exact order_gtr_no a b c _ _ _ w rfl rfl rfl hx hx' hy hy' hz hz' hc hc' h h2 h3
      by_cases h4 : c = 0
      · exact order_gtr_zero a b c _ _ _ w rfl rfl rfl hx hx' hy hy' hz hz' hc hc' h h2 h4
      · exact order_gtr_yes a b c _ _ _ w rfl rfl rfl hx hx' hy hy' hz hz' hc hc' h h2 (by omega) (by omega)
    · by_cases h3 : 4294967295 - max b 1 < c
      · exact order_gtn_no a b c _ _ _ w rfl rfl rfl hx hx' hy hy' hz hz' hc hc' h (by omega) h3
      by_cases h4 : c = 0
      · exact order_gtn_zero a b c _ _ _ w rfl rfl rfl hx hx' hy hy' hz hz' hc hc' h (by omega) h4
      · exact order_gtn_yes a b c _ _ _ w rfl rfl rfl hx hx' hy hy' hz hz' hc hc' h (by omega) (by omega) (by omega)
end Go.Proofs.YtkpgogleehmoaaaDoor
