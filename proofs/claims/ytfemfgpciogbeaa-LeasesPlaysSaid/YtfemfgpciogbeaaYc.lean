/- The contracts of whether a resource is possible: the program's descr.CheckOuter, and the document's. -/
import Derived.Test.YtfemfgpciogbeaaYk
import Derived.RegionTactic
namespace Go.Proofs.Ytfemfgpciogbeaa
open Go.RowKit

/-- The name is possible where there are n places. -/
def Okn (n k p g : Nat) : Prop := 1 ≤ k ∧ k ≤ 3 ∧ p < n ∧ 1 ≤ g ∧ g ≤ 4294967295
/-- The name is not possible where there are n places. -/
def Bad (n k p g : Int) : Prop := k < 1 ∨ 3 < k ∨ p < 0 ∨ n ≤ p ∨ g = 0

set_option maxHeartbeats 400000 in
theorem chk_ok (n k p g : Nat) (h : Okn n k p g) (_hn : n ≤ 256) (w : World) :
    Calls Try.prog 76 #[.agg #[.int .i64 k, .int .i64 p, .int .i64 g], .int .i64 n] w fun e w' => e = .returned (.int .i64 0) ∧ Below w.heap.size w w' := by
  obtain ⟨h1, h2, h3, h4, h5⟩ := h
  go_enter Try.func76, Try.ntmps76
  go_wp2_with fail
  refine (check_ok _ _ (by omega) (by omega)).mono ?_
  rintro e w1 ⟨rfl, rfl⟩
  go_wp2
  go_ret
  exact ⟨rfl, (Below.refl _ _).alloc (Nat.le_refl _) _⟩

set_option maxHeartbeats 400000 in
theorem chk_bad (n k p g : Int) (hr : RgO k p g) (hn : 0 ≤ n ∧ n ≤ 256) (h : Bad n k p g) (w : World) :
    Calls Try.prog 76 #[.agg #[.int .i64 k, .int .i64 p, .int .i64 g], .int .i64 n] w fun e w' => e = .returned (.int .i64 2) ∧ Below w.heap.size w w' := by
  obtain ⟨k0, k1, p0, p1, g0, g1⟩ := hr
  obtain ⟨n0, n1⟩ := hn
  by_cases hk : 1 ≤ k ∧ k ≤ 3 ∧ 0 ≤ p ∧ p < n
  · obtain ⟨h1, h2, h3, h4⟩ := hk
    obtain rfl : g = 0 := by unfold Bad at h; omega
    go_enter Try.func76, Try.ntmps76
    go_wp2_with fail
    refine (check_zero _).mono ?_
    rintro e w1 ⟨rfl, rfl⟩
    go_wp2
    go_ret
    exact ⟨rfl, (Below.refl _ _).alloc (Nat.le_refl _) _⟩
  · by_cases c1 : k < 1
    · go_enter Try.func76, Try.ntmps76
      go_wp2
      go_ret
      exact ⟨rfl, (Below.refl _ _).alloc (Nat.le_refl _) _⟩
    by_cases c2 : 3 < k
    · go_enter Try.func76, Try.ntmps76
      go_wp2
      go_ret
      exact ⟨rfl, (Below.refl _ _).alloc (Nat.le_refl _) _⟩
    by_cases c3 : p < 0
    · go_enter Try.func76, Try.ntmps76
      go_wp2
      go_ret
      exact ⟨rfl, (Below.refl _ _).alloc (Nat.le_refl _) _⟩
    have c4 : n ≤ p := by omega
    go_enter Try.func76, Try.ntmps76
    go_wp2
    go_ret
    exact ⟨rfl, (Below.refl _ _).alloc (Nat.le_refl _) _⟩

set_option maxHeartbeats 400000 in
theorem ofOuter_ok (k p g : Int) (hr : RgO k p g) (w : World) :
    Calls Try.prog 77 #[.agg #[.int .i64 k, .int .i64 p, .int .u32 g]] w fun e w' => e = .returned (.agg #[.int .i64 k, .int .i64 p, .int .i64 g]) ∧ Below w.heap.size w w' := by
  obtain ⟨k0, k1, p0, p1, g0, g1⟩ := hr
  go_enter Try.func77, Try.ntmps77
  go_wp2
  refine bodyPost_ret (v := .agg #[.int .i64 k, .int .i64 p, .int .i64 g]) (by simp [results, Try.results77, go_sem]) rfl ⟨rfl, ?_⟩
  exact ((Below.refl _ _).alloc (Nat.le_refl _) _).alloc (by simp) _
theorem Okn.rg {n k p g : Nat} (h : Okn n k p g) (hn : n ≤ 256) : RgO k p g := by
  obtain ⟨h1, h2, h3, h4, h5⟩ := h
  exact ⟨by omega, by omega, by omega, by omega, by omega, by omega⟩
theorem ok_or {n : Nat} {k p g : Int} (hr : RgO k p g) : (∃ k' p' g' : Nat, k = k' ∧ p = p' ∧ g = g' ∧ Okn n k' p' g') ∨ Bad n k p g := by
  by_cases h : Bad n k p g
  · exact .inr h
  · obtain ⟨k0, k1, p0, p1, g0, g1⟩ := hr
    unfold Bad at h
    exact .inl ⟨k.toNat, p.toNat, g.toNat, by omega, by omega, by omega, ⟨by omega, by omega, by omega, by omega, by omega⟩⟩

set_option maxHeartbeats 400000 in
theorem ochk_ok (k p g : Nat) (h : Okn 64 k p g) (w : World) :
    Calls Try.prog 67 #[.agg #[.int .i64 k, .int .i64 p, .int .u32 g]] w fun e w' => e = .returned (.int .i64 0) ∧ Below w.heap.size w w' := by
  have HR := Lib.hid (h.rg (by omega))
  have HH := Lib.hid h
  clear h
  go_enter Try.func67, Try.ntmps67
  go_wp2_with fail
  refine (ofOuter_ok _ _ _ HR.out _).mono ?_
  rintro e w1 ⟨rfl, hb1⟩
  go_wp2_with fail
  refine (chk_ok 64 k p g HH.out (by omega) _).mono ?_
  rintro e w2 ⟨rfl, hb2⟩
  go_wp2
  go_ret
  exact ⟨rfl, bel2 (bel2 ((Below.refl _ _).alloc (Nat.le_refl _) _) hb1) hb2⟩
set_option maxHeartbeats 400000 in
theorem ochk_bad (k p g : Int) (hr : RgO k p g) (h : Bad 64 k p g) (w : World) :
    Calls Try.prog 67 #[.agg #[.int .i64 k, .int .i64 p, .int .u32 g]] w fun e w' => e = .returned (.int .i64 2) ∧ Below w.heap.size w w' := by
  have HR := Lib.hid hr
  have HH := Lib.hid h
  clear h hr
  go_enter Try.func67, Try.ntmps67
  go_wp2_with fail
  refine (ofOuter_ok _ _ _ HR.out _).mono ?_
  rintro e w1 ⟨rfl, hb1⟩
  go_wp2_with fail
  refine (chk_bad 64 k p g HR.out (by omega) HH.out _).mono ?_
  rintro e w2 ⟨rfl, hb2⟩
  go_wp2
  go_ret
  exact ⟨rfl, bel2 (bel2 ((Below.refl _ _).alloc (Nat.le_refl _) _) hb1) hb2⟩


set_option maxHeartbeats 400000 in
set_option maxRecDepth 100000 in
theorem rochk_ok (k p g : Nat) (h : Okn 64 k p g) (w : World) :
    Calls Try.prog 69 #[.agg #[.int .i64 k, .int .i64 p, .int .u32 g]] w fun e w' => e = .returned (.int .i64 0) ∧ Below w.heap.size w w' := by
  obtain ⟨h1, h2, h3, h4, h5⟩ := h
  have hz : ((g : Int) == 0) = false := beq_eq_false_iff_ne.2 (by omega)
  go_enter Try.func69, Try.ntmps69
  go_wp2
  go_ret
  exact ⟨rfl, (Below.refl _ _).alloc (Nat.le_refl _) _⟩
set_option maxHeartbeats 400000 in
theorem rochk_bad (k p g : Int) (hr : RgO k p g) (h : Bad 64 k p g) (w : World) :
    Calls Try.prog 69 #[.agg #[.int .i64 k, .int .i64 p, .int .u32 g]] w fun e w' => e = .returned (.int .i64 2) ∧ Below w.heap.size w w' := by
  obtain ⟨k0, k1, p0, p1, g0, g1⟩ := hr
  unfold Bad at h
  by_cases c1 : k < 1
  · go_enter Try.func69, Try.ntmps69
    go_wp2
    go_ret
    exact ⟨rfl, (Below.refl _ _).alloc (Nat.le_refl _) _⟩
  by_cases c2 : 3 < k
  · go_enter Try.func69, Try.ntmps69
    go_wp2
    go_ret
    exact ⟨rfl, (Below.refl _ _).alloc (Nat.le_refl _) _⟩
  by_cases c3 : p < 0
  · go_enter Try.func69, Try.ntmps69
    go_wp2
    go_ret
    exact ⟨rfl, (Below.refl _ _).alloc (Nat.le_refl _) _⟩
  by_cases c4 : 64 ≤ p
  · go_enter Try.func69, Try.ntmps69
    go_wp2
    go_ret
    exact ⟨rfl, (Below.refl _ _).alloc (Nat.le_refl _) _⟩
  obtain rfl : g = 0 := by omega
  go_enter Try.func69, Try.ntmps69
  go_wp2
  go_ret
  exact ⟨rfl, (Below.refl _ _).alloc (Nat.le_refl _) _⟩
end Go.Proofs.Ytfemfgpciogbeaa
