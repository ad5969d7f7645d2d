/- The contracts of Check, CheckOuter and Pack: the program's and the document's. -/
import Derived.Test.YtenggngcigkakaaGreatDoorDs
namespace Go.Proofs.YtenggngcigkakaaGreatDoor
open Go.RowKit

theorem Okn.rg {n k p g : Nat} (h : Okn n k p g) (hn : n ≤ 256) : Rg k p g := by
  obtain ⟨h1, h2, h3, h4, h5⟩ := h
  exact ⟨by omega, by omega, by omega, by omega, by omega, by omega⟩
theorem ok_or {n : Nat} {k p g : Int} (hr : Rg k p g) : (∃ k' p' g' : Nat, k = k' ∧ p = p' ∧ g = g' ∧ Okn n k' p' g') ∨ Bad n k p g := by
  by_cases h : Bad n k p g
  · exact .inr h
  · obtain ⟨k0, k1, p0, p1, g0, g1⟩ := hr
    unfold Bad at h
    exact .inl ⟨k.toNat, p.toNat, g.toNat, by omega, by omega, by omega, ⟨by omega, by omega, by omega, by omega, by omega⟩⟩

set_option maxHeartbeats 400000 in
theorem ochk_ok (k p g : Nat) (h : Okn 64 k p g) (w : World) :
    Calls Tryz.prog 53 #[.agg #[.int .i64 k, .int .i64 p, .int .u32 g]] w fun e w' => e = .returned (.int .i64 0) ∧ Below w.heap.size w w' := by
  have HR := Lib.hid (h.rg (by omega))
  have HH := Lib.hid h
  clear h
  go_enter Tryz.func53, Tryz.ntmps53
  go_wp2_with fail
  refine (ofOuter_ok _ _ _ HR.out _).mono ?_
  rintro e w1 ⟨rfl, hb1⟩
  go_wp2_with fail
  refine (chk_ok 64 k p g HH.out (by omega) _).mono ?_
  rintro e w2 ⟨rfl, hb2⟩
  go_wp2
  go_ret
  exact ⟨rfl, bel2 (bel2 ((Below.refl _ _).alloc (Nat.le_refl _) _) hb1) hb2⟩
set_option maxHeartbeats 400000 in
theorem ochk_bad (k p g : Int) (hr : Rg k p g) (h : Bad 64 k p g) (w : World) :
    Calls Tryz.prog 53 #[.agg #[.int .i64 k, .int .i64 p, .int .u32 g]] w fun e w' => e = .returned (.int .i64 2) ∧ Below w.heap.size w w' := by
  have HR := Lib.hid hr
  have HH := Lib.hid h
  clear h hr
  go_enter Tryz.func53, Tryz.ntmps53
  go_wp2_with fail
  refine (ofOuter_ok _ _ _ HR.out _).mono ?_
  rintro e w1 ⟨rfl, hb1⟩
  go_wp2_with fail
  refine (chk_bad 64 k p g HR.out (by omega) HH.out _).mono ?_
  rintro e w2 ⟨rfl, hb2⟩
  go_wp2
  go_ret
  exact ⟨rfl, bel2 (bel2 ((Below.refl _ _).alloc (Nat.le_refl _) _) hb1) hb2⟩


set_option maxHeartbeats 400000 in
set_option maxRecDepth 100000 in
theorem rochk_ok (k p g : Nat) (h : Okn 64 k p g) (w : World) :
    Calls Tryz.prog 54 #[.agg #[.int .i64 k, .int .i64 p, .int .u32 g]] w fun e w' => e = .returned (.int .i64 0) ∧ Below w.heap.size w w' := by
  obtain ⟨h1, h2, h3, h4, h5⟩ := h
  have hz : ((g : Int) == 0) = false := beq_eq_false_iff_ne.2 (by omega)
  go_enter Tryz.func54, Tryz.ntmps54
  go_wp2
  go_ret
  exact ⟨rfl, (Below.refl _ _).alloc (Nat.le_refl _) _⟩
set_option maxHeartbeats 400000 in
theorem rochk_bad (k p g : Int) (hr : Rg k p g) (h : Bad 64 k p g) (w : World) :
    Calls Tryz.prog 54 #[.agg #[.int .i64 k, .int .i64 p, .int .u32 g]] w fun e w' => e = .returned (.int .i64 2) ∧ Below w.heap.size w w' := by
  obtain ⟨k0, k1, p0, p1, g0, g1⟩ := hr
  unfold Bad at h
  by_cases c1 : k < 1
  · go_enter Tryz.func54, Tryz.ntmps54
    go_wp2
    go_ret
    exact ⟨rfl, (Below.refl _ _).alloc (Nat.le_refl _) _⟩
  by_cases c2 : 3 < k
  · go_enter Tryz.func54, Tryz.ntmps54
    go_wp2
    go_ret
    exact ⟨rfl, (Below.refl _ _).alloc (Nat.le_refl _) _⟩
  by_cases c3 : p < 0
  · go_enter Tryz.func54, Tryz.ntmps54
    go_wp2
    go_ret
    exact ⟨rfl, (Below.refl _ _).alloc (Nat.le_refl _) _⟩
  by_cases c4 : 64 ≤ p
  · go_enter Tryz.func54, Tryz.ntmps54
    go_wp2
    go_ret
    exact ⟨rfl, (Below.refl _ _).alloc (Nat.le_refl _) _⟩
  obtain rfl : g = 0 := by omega
  go_enter Tryz.func54, Tryz.ntmps54
  go_wp2
  go_ret
  exact ⟨rfl, (Below.refl _ _).alloc (Nat.le_refl _) _⟩

/-- The number of a descriptor. -/
def num (k p g : Nat) : Nat := k * 1099511627776 + p * 4294967296 + g

end Go.Proofs.YtenggngcigkakaaGreatDoor
