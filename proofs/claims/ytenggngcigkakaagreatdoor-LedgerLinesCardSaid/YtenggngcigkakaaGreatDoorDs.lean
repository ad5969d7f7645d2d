/- The contracts of whether a name is possible, and of the numbers of descriptors: the program's Check, CheckOuter, Pack, Unpack, and the document's. -/
import Derived.Test.YtenggngcigkakaaGreatDoorDa
import Derived.Test.YtenggngcigkakaaGreatDoorDm
import Derived.RegionTactic
namespace Go.Proofs.YtenggngcigkakaaGreatDoor
open Go.RowKit

/-- A name in numbers, as an array of three. -/
def Nm (k p g : Int) : Value := .agg #[.int .i64 k, .int .i64 p, .int .i64 g]
/-- A descriptor, or a resource of the outer world. -/
def Ds (k p g : Int) : Value := .agg #[.int .i64 k, .int .i64 p, .int .u32 g]
/-- What a name in numbers may hold. -/
structure Rg (k p g : Int) : Prop where
  k0 : -9223372036854775808 ≤ k
  k1 : k ≤ 9223372036854775807
  p0 : -9223372036854775808 ≤ p
  p1 : p ≤ 9223372036854775807
  g0 : 0 ≤ g
  g1 : g ≤ 4294967295
/-- The name is not possible where there are n places. -/
def Bad (n k p g : Int) : Prop := k < 1 ∨ 3 < k ∨ p < 0 ∨ n ≤ p ∨ g = 0

set_option maxHeartbeats 400000 in
theorem chk_ok (n k p g : Nat) (h : Okn n k p g) (_hn : n ≤ 256) (w : World) :
    Calls Tryz.prog 79 #[.agg #[.int .i64 k, .int .i64 p, .int .i64 g], .int .i64 n] w fun e w' => e = .returned (.int .i64 0) ∧ Below w.heap.size w w' := by
  obtain ⟨h1, h2, h3, h4, h5⟩ := h
  go_enter Tryz.func79, Tryz.ntmps79
  go_wp2_with fail
  refine (check_ok _ _ (by omega) (by omega)).mono ?_
  rintro e w1 ⟨rfl, rfl⟩
  go_wp2
  go_ret
  exact ⟨rfl, (Below.refl _ _).alloc (Nat.le_refl _) _⟩

set_option maxHeartbeats 400000 in
theorem chk_bad (n k p g : Int) (hr : Rg k p g) (hn : 0 ≤ n ∧ n ≤ 256) (h : Bad n k p g) (w : World) :
    Calls Tryz.prog 79 #[.agg #[.int .i64 k, .int .i64 p, .int .i64 g], .int .i64 n] w fun e w' => e = .returned (.int .i64 2) ∧ Below w.heap.size w w' := by
  obtain ⟨k0, k1, p0, p1, g0, g1⟩ := hr
  obtain ⟨n0, n1⟩ := hn
  by_cases hk : 1 ≤ k ∧ k ≤ 3 ∧ 0 ≤ p ∧ p < n
  · obtain ⟨h1, h2, h3, h4⟩ := hk
    obtain rfl : g = 0 := by unfold Bad at h; omega
    go_enter Tryz.func79, Tryz.ntmps79
    go_wp2_with fail
    refine (check_zero _).mono ?_
    rintro e w1 ⟨rfl, rfl⟩
    go_wp2
    go_ret
    exact ⟨rfl, (Below.refl _ _).alloc (Nat.le_refl _) _⟩
  · by_cases c1 : k < 1
    · go_enter Tryz.func79, Tryz.ntmps79
      go_wp2
      go_ret
      exact ⟨rfl, (Below.refl _ _).alloc (Nat.le_refl _) _⟩
    by_cases c2 : 3 < k
    · go_enter Tryz.func79, Tryz.ntmps79
      go_wp2
      go_ret
      exact ⟨rfl, (Below.refl _ _).alloc (Nat.le_refl _) _⟩
    by_cases c3 : p < 0
    · go_enter Tryz.func79, Tryz.ntmps79
      go_wp2
      go_ret
      exact ⟨rfl, (Below.refl _ _).alloc (Nat.le_refl _) _⟩
    have c4 : n ≤ p := by omega
    go_enter Tryz.func79, Tryz.ntmps79
    go_wp2
    go_ret
    exact ⟨rfl, (Below.refl _ _).alloc (Nat.le_refl _) _⟩

set_option maxHeartbeats 400000 in
theorem ofOuter_ok (k p g : Int) (hr : Rg k p g) (w : World) :
    Calls Tryz.prog 80 #[.agg #[.int .i64 k, .int .i64 p, .int .u32 g]] w fun e w' => e = .returned (.agg #[.int .i64 k, .int .i64 p, .int .i64 g]) ∧ Below w.heap.size w w' := by
  obtain ⟨k0, k1, p0, p1, g0, g1⟩ := hr
  go_enter Tryz.func80, Tryz.ntmps80
  go_wp2
  refine bodyPost_ret (v := .agg #[.int .i64 k, .int .i64 p, .int .i64 g]) (by simp [results, Tryz.results80, go_sem]) rfl ⟨rfl, ?_⟩
  exact ((Below.refl _ _).alloc (Nat.le_refl _) _).alloc (by simp) _
set_option maxHeartbeats 400000 in
theorem outer_ok (k p g : Int) (hr : Rg k p g) (w : World) :
    Calls Tryz.prog 115 #[.agg #[.int .i64 k, .int .i64 p, .int .i64 g]] w fun e w' => e = .returned (.agg #[.int .i64 k, .int .i64 p, .int .u32 g]) ∧ Below w.heap.size w w' := by
  obtain ⟨k0, k1, p0, p1, g0, g1⟩ := hr
  go_enter Tryz.func115, Tryz.ntmps115
  go_wp2
  refine bodyPost_ret (v := .agg #[.int .i64 k, .int .i64 p, .int .u32 g]) (by simp [results, Tryz.results115, go_sem]) rfl ⟨rfl, ?_⟩
  exact ((Below.refl _ _).alloc (Nat.le_refl _) _).alloc (by simp) _
end Go.Proofs.YtenggngcigkakaaGreatDoor
