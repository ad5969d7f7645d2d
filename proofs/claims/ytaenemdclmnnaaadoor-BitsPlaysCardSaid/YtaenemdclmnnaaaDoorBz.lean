/- What a []Step among the arguments holds. -/
import Derived.Test.YtaenemdclmnnaaaDoorBq
import Derived.Test.YtaenemdclmnnaaaDoorBy
import Derived.Deep.SlicePairs
namespace Go.Proofs.YtaenemdclmnnaaaDoor
open Go.ChangeShapes Go.WideShapes Go.ChangeAt Go.RowKit

theorem steps_of {H : Type} {enc : TypeId × Value → H} {W : World} {a : Option Addr} {len cap : Nat} {d : DataW H} {p : List MemPlace} (h : DataW.Trod enc Tryd.prog W 0 (fun _ => true) true 22 (.slice a len cap) d p) : ∃ dos is, StepsA W a len dos is := by
  obtain ⟨fuel, hf⟩ := h
  rcases Go.Deep.open_slice_pairs Tryd.underlying22 Tryd.underlying32 (by kernel_rfl) rfl rfl (by kernel_rfl) (by kernel_rfl) hf with ⟨hcs, hx⟩ | ⟨a', len', cap', m, n, V0, V1, D0, D1, P0, P1, hcs, _, hl, hm, hmm, hx, hi⟩
  · simp [Value.cells] at hcs
    obtain ⟨rfl, rfl, rfl⟩ := hcs
    exact ⟨fun _ => 0, fun _ => 0, fun h => by omega, fun _ _ => by omega, fun _ _ => by omega⟩
  · simp [Value.cells] at hcs
    obtain ⟨rfl, rfl, rfl⟩ := hcs
    simp only [if_true] at hmm
    have each : ∀ j, j < len → ∃ x y, V0 j = .int .u8 x ∧ V1 j = .int .i64 y ∧ (0 ≤ x ∧ x ≤ 255) ∧ (-9223372036854775808 ≤ y ∧ y ≤ 9223372036854775807) ∧ W.cell? (a'.add (j * 2)) = some (.int .u8 x) ∧ W.cell? (a'.add (j * 2 + 1)) = some (.int .i64 y) := by
      intro j hj
      obtain ⟨h0, h1, h2, h3⟩ := hi j (by omega)
      obtain ⟨x, e1, _, w1⟩ := DataW.trod_int (t := 5) Tryd.underlying5 h2
      obtain ⟨y, e2, _, w2⟩ := DataW.trod_int (t := 3) Tryd.underlying3 h3
      simp at e1 e2
      rw [e1] at h0
      rw [e2] at h1
      exact ⟨x, y, e1, e2, bounds_u8 w1, bounds_i64 w2, h0, h1⟩
    refine ⟨fun j => (intOf (V0 j)).toNat, fun j => intOf (V1 j), fun h0 => ?_, fun j hj => ?_, fun j hj => ?_⟩
    · obtain ⟨b, off, spot⟩ := a'
      obtain ⟨x, y, _, _, _, _, hc, _⟩ := each 0 h0
      have hspot : spot = none := by simpa [Addr.add] using World.cell?_spot hc
      subst hspot
      refine ⟨b, off, rfl, World.block_lt_of_cell? _ _ hc, fun j hj => ?_⟩
      obtain ⟨x, y, e1, e2, ⟨g1, _⟩, _, h1, h2⟩ := each j hj
      rw [add_plain] at h1 h2
      rw [e1, e2]
      simp only [intOf]
      rw [Int.toNat_of_nonneg g1]
      exact ⟨h1, by rw [Nat.add_assoc]; exact h2⟩
    · obtain ⟨x, y, e1, _, ⟨g1, g2⟩, _⟩ := each j hj
      rw [e1]
      simp only [intOf]
      omega
    · obtain ⟨x, y, _, e2, _, g, _⟩ := each j hj
      rw [e2]
      exact g
end Go.Proofs.YtaenemdclmnnaaaDoor
