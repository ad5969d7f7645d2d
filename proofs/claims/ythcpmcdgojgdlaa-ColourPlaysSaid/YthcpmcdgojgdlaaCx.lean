/- What a []Step, a []uint8 and a []uint16 among the arguments hold. -/
import Derived.Test.YthcpmcdgojgdlaaCk
import Derived.ProofKit
import Derived.OpenShut
import Derived.Stop.Joined
import Derived.Deep.SlicePairs
import Derived.Lib.SmallJoins
import Derived.SizedLaws
import Derived.Carry
namespace Go.Proofs.Ythcpmcdgojgdlaa
open Go.ChangeShapes Go.WideShapes Go.ChangeAt Go.RowKit

theorem own : ownKnob Try.prog.godebug = none := by kernel_rfl
theorem laidOut : laidOutB Try.prog = true := by kernel_rfl
theorem cells_u8 : Try.prog.cellsOf 5 = 1 := by kernel_rfl
theorem cells_u16 : Try.prog.cellsOf 53 = 1 := by kernel_rfl
/-- A slice of small numbers among the arguments. -/
structure Nums (K : IntKind) (M : Nat) (w : World) (a : Option Addr) (len : Nat) (s : Nat → Nat) : Prop where
  at_ : 0 < len → ∃ b off, a = some ⟨b, off, none⟩ ∧ b < w.heap.size ∧ ∀ j, j < len → w.cell? ⟨b, off + j, none⟩ = some (.int K (s j))
  bd : ∀ j, j < len → s j ≤ M
theorem Nums.below {K : IntKind} {M : Nat} {w w' : World} {a : Option Addr} {len : Nat} {s : Nat → Nat} (h : Nums K M w a len s) (hb : Below w.heap.size w w') : Nums K M w' a len s :=
  ⟨fun h0 => by
    obtain ⟨b, off, e, h1, h2⟩ := h.at_ h0
    exact ⟨b, off, e, Nat.lt_of_lt_of_le h1 hb.size, fun j hj => (hb.cell (p := ⟨b, off + j, none⟩) h1).trans (h2 j hj)⟩, h.bd⟩
theorem Nums.cut {K : IntKind} {M : Nat} {w : World} {a : Option Addr} {len m : Nat} {s : Nat → Nat} (h : Nums K M w a len s) (hm : m ≤ len) : Nums K M w a m s :=
  ⟨fun h0 => by
    obtain ⟨b, off, e, h1, h2⟩ := h.at_ (by omega)
    exact ⟨b, off, e, h1, fun j hj => h2 j (by omega)⟩, fun j hj => h.bd j (by omega)⟩
section
variable {H : Type} {enc : TypeId × Value → H} {W : World} {a : Option Addr} {len cap : Nat} {d : DataW H} {p : List MemPlace}
theorem u8s_of (h : DataW.Trod enc Try.prog W 0 (fun _ => true) true 56 (.slice a len cap) d p) : len ≤ cap ∧ cap ≤ 9223372036854775807 ∧ ∃ s, Nums .u8 255 W a len s := by
  obtain ⟨fuel, hf⟩ := h
  rcases open_ints Try.underlying56 Try.underlying5 cells_u8 hf with ⟨hcs, hx⟩ | ⟨a', len', cap', zs, hcs, _, hl, hm, hz, hx, hcell, hwz⟩
  · simp [Value.cells] at hcs
    obtain ⟨rfl, rfl, rfl⟩ := hcs
    exact ⟨Nat.le_refl _, by omega, fun _ => 0, fun h => by omega, fun _ _ => by omega⟩
  · simp [Value.cells] at hcs
    obtain ⟨rfl, rfl, rfl⟩ := hcs
    simp only [if_true] at hz
    have hmem : ∀ j, j < len → zs.getD j 0 ∈ zs := fun j hj => by
      rw [List.getD_eq_getElem?_getD, List.getElem?_eq_getElem (by omega), Option.getD_some]; exact List.getElem_mem _
    refine ⟨hl, by unfold maxLen at hm; omega, fun j => (zs.getD j 0).toNat, fun h0 => ?_, fun j hj => ?_⟩
    · obtain ⟨b, off, spot⟩ := a'
      have hspot : spot = none := by simpa [Addr.add] using World.cell?_spot (hcell 0 (by omega))
      subst hspot
      have hcl : ∀ j, j < len → W.cell? ⟨b, off + j, none⟩ = some (.int .u8 (((zs.getD j 0).toNat : Nat) : Int)) := by
        intro j hj
        have h := hcell j (by omega)
        rw [add_plain] at h
        have hb := bounds_u8 (hwz _ (hmem j hj))
        rw [h, Int.toNat_of_nonneg hb.1]
      exact ⟨b, off, rfl, World.block_lt_of_cell? _ _ (hcl 0 (by omega)), hcl⟩
    · have hb := bounds_u8 (hwz _ (hmem j hj))
      omega
theorem u16s_of (h : DataW.Trod enc Try.prog W 0 (fun _ => true) true 51 (.slice a len cap) d p) : len ≤ cap ∧ cap ≤ 9223372036854775807 ∧ ∃ s, Nums .u16 65535 W a len s := by
  obtain ⟨fuel, hf⟩ := h
  rcases open_ints Try.underlying51 Try.underlying53 cells_u16 hf with ⟨hcs, hx⟩ | ⟨a', len', cap', zs, hcs, _, hl, hm, hz, hx, hcell, hwz⟩
  · simp [Value.cells] at hcs
    obtain ⟨rfl, rfl, rfl⟩ := hcs
    exact ⟨Nat.le_refl _, by omega, fun _ => 0, fun h => by omega, fun _ _ => by omega⟩
  · simp [Value.cells] at hcs
    obtain ⟨rfl, rfl, rfl⟩ := hcs
    simp only [if_true] at hz
    have hmem : ∀ j, j < len → zs.getD j 0 ∈ zs := fun j hj => by
      rw [List.getD_eq_getElem?_getD, List.getElem?_eq_getElem (by omega), Option.getD_some]; exact List.getElem_mem _
    refine ⟨hl, by unfold maxLen at hm; omega, fun j => (zs.getD j 0).toNat, fun h0 => ?_, fun j hj => ?_⟩
    · obtain ⟨b, off, spot⟩ := a'
      have hspot : spot = none := by simpa [Addr.add] using World.cell?_spot (hcell 0 (by omega))
      subst hspot
      have hcl : ∀ j, j < len → W.cell? ⟨b, off + j, none⟩ = some (.int .u16 (((zs.getD j 0).toNat : Nat) : Int)) := by
        intro j hj
        have h := hcell j (by omega)
        rw [add_plain] at h
        have hb := bounds_u16 (hwz _ (hmem j hj))
        rw [h, Int.toNat_of_nonneg hb.1]
      exact ⟨b, off, rfl, World.block_lt_of_cell? _ _ (hcl 0 (by omega)), hcl⟩
    · have hb := bounds_u16 (hwz _ (hmem j hj))
      omega
/-- What a parameter of steps holds. -/
structure Stps (w : World) (a : Option Addr) (len : Nat) (dos : Nat → Nat) (is : Nat → Int) : Prop where
  at_ : 0 < len → ∃ b off, a = some ⟨b, off, none⟩ ∧ b < w.heap.size ∧ ∀ j, j < len → w.cell? ⟨b, off + j * 2, none⟩ = some (.int .u8 (dos j)) ∧ w.cell? ⟨b, off + j * 2 + 1, none⟩ = some (.int .i64 (is j))
  bd : ∀ j, j < len → dos j ≤ 255 ∧ -9223372036854775808 ≤ is j ∧ is j ≤ 9223372036854775807
theorem Stps.below {w w' : World} {a : Option Addr} {len : Nat} {dos : Nat → Nat} {is : Nat → Int} (h : Stps w a len dos is) (hb : Below w.heap.size w w') : Stps w' a len dos is :=
  ⟨fun h0 => by
    obtain ⟨b, off, e, h1, h2⟩ := h.at_ h0
    exact ⟨b, off, e, Nat.lt_of_lt_of_le h1 hb.size, fun j hj => ⟨(hb.cell (p := ⟨b, off + j * 2, none⟩) h1).trans (h2 j hj).1, (hb.cell (p := ⟨b, off + j * 2 + 1, none⟩) h1).trans (h2 j hj).2⟩⟩, h.bd⟩
theorem steps_of (h : DataW.Trod enc Try.prog W 0 (fun _ => true) true 22 (.slice a len cap) d p) : ∃ dos is, Stps W a len dos is := by
  obtain ⟨fuel, hf⟩ := h
  rcases Go.Deep.open_slice_pairs Try.underlying22 Try.underlying32 (by kernel_rfl) rfl rfl (by kernel_rfl) (by kernel_rfl) hf with ⟨hcs, hx⟩ | ⟨a', len', cap', m, n, V0, V1, D0, D1, P0, P1, hcs, _, hl, hm, hmm, hx, hi⟩
  · simp [Value.cells] at hcs
    obtain ⟨rfl, rfl, rfl⟩ := hcs
    exact ⟨fun _ => 0, fun _ => 0, fun h => by omega, fun _ _ => by omega⟩
  · simp [Value.cells] at hcs
    obtain ⟨rfl, rfl, rfl⟩ := hcs
    simp only [if_true] at hmm
    have each : ∀ j, j < len → ∃ t : Nat × Int, W.cell? (a'.add (j * 2)) = some (.int .u8 t.1) ∧ W.cell? (a'.add (j * 2 + 1)) = some (.int .i64 t.2) ∧ t.1 ≤ 255 ∧ -9223372036854775808 ≤ t.2 ∧ t.2 ≤ 9223372036854775807 := by
      intro j hj
      obtain ⟨h0, h1, h2, h3⟩ := hi j (by omega)
      obtain ⟨x, e1, _, w1⟩ := DataW.trod_int (t := 5) Try.underlying5 h2
      obtain ⟨y, e2, _, w2⟩ := DataW.trod_int (t := 3) Try.underlying3 h3
      simp at e1 e2
      rw [e1] at h0
      rw [e2] at h1
      have b1 := bounds_u8 w1
      have b2 := bounds_i64 w2
      obtain ⟨x, rfl⟩ := Int.eq_ofNat_of_zero_le b1.1
      exact ⟨(x, y), h0, h1, by show x ≤ 255; omega, b2.1, b2.2⟩
    obtain ⟨t, ht⟩ := Go.Deep.choose_lt each
    refine ⟨fun j => (t j).1, fun j => (t j).2, fun h0 => ?_, fun j hj => (ht j hj).2.2⟩
    obtain ⟨b, off, spot⟩ := a'
    have hspot : spot = none := by simpa [Addr.add] using World.cell?_spot (ht 0 h0).1
    subst hspot
    refine ⟨b, off, rfl, World.block_lt_of_cell? _ _ (ht 0 h0).1, fun j hj => ?_⟩
    obtain ⟨h1, h2, _⟩ := ht j hj
    rw [add_plain] at h1 h2
    exact ⟨h1, by rw [Nat.add_assoc]; exact h2⟩
end
end Go.Proofs.Ythcpmcdgojgdlaa
