/- What a []uint8 and a []Step among the arguments hold. -/
import Derived.Test.YtlnjgbdekcgmpaaEw
import Derived.ProofKit
import Derived.OpenShut
import Derived.Stop.Joined
import Derived.Deep.SlicePairs
import Derived.Lib.SmallJoins
import Derived.SizedLaws
import Derived.Carry
namespace Go.Proofs.Ytlnjgbdekcgmpaa
open Go.ChangeShapes Go.WideShapes Go.ChangeAt Go.RowKit

theorem own : ownKnob Try.prog.godebug = none := by kernel_rfl
theorem laidOut : laidOutB Try.prog = true := by kernel_rfl
theorem cells_u8 : Try.prog.cellsOf 5 = 1 := by kernel_rfl
/-- A slice of bytes among the arguments. -/
structure U8 (w : World) (a : Option Addr) (n : Nat) (l : List Int) : Prop where
  len : n = l.length
  at_ : 0 < n → ∃ g off, a = some ⟨g, off, none⟩ ∧ g < w.heap.size ∧ ∀ j x, l[j]? = some x → w.cell? ⟨g, off + j, none⟩ = some (.int .u8 x)
  bd : ∀ x ∈ l, 0 ≤ x ∧ x ≤ 255
theorem U8.below {w w' : World} {a : Option Addr} {n : Nat} {l : List Int} (h : U8 w a n l) (hb : Below w.heap.size w w') : U8 w' a n l :=
  ⟨h.len, fun h0 => by
    obtain ⟨g, off, e, hg, hc⟩ := h.at_ h0
    exact ⟨g, off, e, Nat.lt_of_lt_of_le hg hb.size, fun j x hj => (hb.cell (p := ⟨g, off + j, none⟩) hg).trans (hc j x hj)⟩, h.bd⟩
theorem U8.cell {w : World} {a : Option Addr} {n : Nat} {l : List Int} (h : U8 w a n l) {j : Nat} (hj : j < n) : ∃ g off x, a = some ⟨g, off, none⟩ ∧ g < w.heap.size ∧ w.cell? ⟨g, off + j, none⟩ = some (.int .u8 x) ∧ l[j]? = some x ∧ 0 ≤ x ∧ x ≤ 255 := by
  obtain ⟨g, off, e, hg, hc⟩ := h.at_ (by omega)
  have hjl : j < l.length := by rw [← h.len]; exact hj
  have hx : l[j]? = some l[j] := List.getElem?_eq_getElem hjl
  have hb := h.bd _ (List.getElem_mem hjl)
  exact ⟨g, off, l[j], e, hg, hc j _ hx, hx, hb.1, hb.2⟩
theorem u8s_of {H : Type} {enc : TypeId × Value → H} {W : World} {a : Option Addr} {len cap : Nat} {d : DataW H} {p : List MemPlace} (h : DataW.Trod enc Try.prog W 0 (fun _ => true) true 47 (.slice a len cap) d p) : ∃ l, U8 W a len l ∧ len ≤ cap ∧ cap ≤ 9223372036854775807 := by
  obtain ⟨fuel, hf⟩ := h
  rcases open_ints Try.underlying47 Try.underlying5 cells_u8 hf with ⟨hcs, hx⟩ | ⟨a', len', cap', zs, hcs, _, hl, hm, hz, hx, hcell, hwz⟩
  · simp [Value.cells] at hcs
    obtain ⟨rfl, rfl, rfl⟩ := hcs
    exact ⟨[], ⟨rfl, fun h => by omega, fun _ h => by cases h⟩, Nat.le_refl _, by decide⟩
  · simp [Value.cells] at hcs
    obtain ⟨rfl, rfl, rfl⟩ := hcs
    simp only [if_true] at hz
    have e : (zs.take len).length = len := by rw [List.length_take]; omega
    refine ⟨zs.take len, ⟨e.symm, fun h0 => ?_, fun x hx => bounds_u8 (hwz x (List.mem_of_mem_take hx))⟩, hl, by unfold maxLen at hm; omega⟩
    obtain ⟨b, off, spot⟩ := a'
    have h1 := hcell 0 (by omega)
    have hspot : spot = none := by simpa [Addr.add] using World.cell?_spot h1
    subst hspot
    rw [add_plain] at h1
    refine ⟨b, off, rfl, World.block_lt_of_cell? _ _ h1, fun j x hj => ?_⟩
    rw [List.getElem?_take] at hj
    split at hj
    · have h2 := (List.getElem?_eq_some_iff.1 hj).1
      have := hcell j h2
      rw [add_plain, List.getD_eq_getElem?_getD, hj] at this
      exact this
    · cases hj

/-- What the parameter l of ExpirePlays holds: its steps. -/
structure Steps (w : World) (a : Option Addr) (len : Nat) (dos is ts : Nat → Int) : Prop where
  at_ : 0 < len → ∃ b off, a = some ⟨b, off, none⟩ ∧ b < w.heap.size ∧ ∀ j, j < len → w.cell? ⟨b, off + j * 3, none⟩ = some (.int .i64 (dos j)) ∧ w.cell? ⟨b, off + j * 3 + 1, none⟩ = some (.int .i64 (is j)) ∧ w.cell? ⟨b, off + j * 3 + 2, none⟩ = some (.int .i64 (ts j))
  bd : ∀ j, j < len → I64 (is j) ∧ I64 (ts j)
theorem Steps.below {w w' : World} {a : Option Addr} {len : Nat} {dos is ts : Nat → Int} (h : Steps w a len dos is ts) (hb : Below w.heap.size w w') : Steps w' a len dos is ts :=
  ⟨fun h0 => by obtain ⟨b, off, e, h1, h2⟩ := h.at_ h0; exact ⟨b, off, e, Nat.lt_of_lt_of_le h1 hb.size, fun j hj => ⟨(hb.cell (p := ⟨b, off + j * 3, none⟩) h1).trans (h2 j hj).1, (hb.cell (p := ⟨b, off + j * 3 + 1, none⟩) h1).trans (h2 j hj).2.1, (hb.cell (p := ⟨b, off + j * 3 + 2, none⟩) h1).trans (h2 j hj).2.2⟩⟩, h.bd⟩
theorem steps_of {H : Type} {enc : TypeId × Value → H} {W : World} {a : Option Addr} {len cap : Nat} {d : DataW H} {p : List MemPlace} (h : DataW.Trod enc Try.prog W 0 (fun _ => true) true 22 (.slice a len cap) d p) : ∃ dos is ts, Steps W a len dos is ts ∧ len ≤ cap ∧ cap ≤ 9223372036854775807 := by
  obtain ⟨fuel, hf⟩ := h
  rcases Go.Deep.open_slice Try.underlying22 hf with ⟨hcs, hx⟩ | ⟨a', len', cap', m, n, D, Pl, hcs, _, hl, hm, hmm, _, hi⟩
  · simp [Value.cells] at hcs
    obtain ⟨rfl, rfl, rfl⟩ := hcs
    exact ⟨fun _ => 0, fun _ => 0, fun _ => 0, ⟨fun h => by omega, fun _ _ => by omega⟩, Nat.le_refl _, by decide⟩
  · simp [Value.cells] at hcs
    obtain ⟨rfl, rfl, rfl⟩ := hcs
    simp only [if_true] at hmm
    have hce : Try.prog.cellsOf 29 = 3 := by kernel_rfl
    have each : ∀ j, j < len → ∃ t : Int × Int × Int, W.cell? (a'.add (j * 3)) = some (.int .i64 t.1) ∧ W.cell? (a'.add (j * 3 + 1)) = some (.int .i64 t.2.1) ∧ W.cell? (a'.add (j * 3 + 2)) = some (.int .i64 t.2.2) ∧ (-9223372036854775808 ≤ t.2.1 ∧ t.2.1 ≤ 9223372036854775807) ∧ (-9223372036854775808 ≤ t.2.2 ∧ t.2.2 ≤ 9223372036854775807) := by
      intro j hj
      obtain ⟨cs', h1, h2⟩ := hi j (by omega)
      rw [hce] at h1
      obtain ⟨_, hlen, hcell⟩ := World.cells?_some h1
      obtain ⟨xs, k, _, _, _, hxl, hfl⟩ := DataW.trod_struct Try.underlying29 h2
      match xs, hxl, cs', hlen with
      | [y0, y1, y2], _, [v0, v1, v2], _ =>
        have g0 := hfl 0 _ rfl
        have g1 := hfl 1 _ rfl
        have g2 := hfl 2 _ rfl
        have c1 : Try.prog.cellsOf 3 = 1 := by kernel_rfl
        have c2 : Try.prog.cellsOf 2 = 1 := by kernel_rfl
        simp [c1, c2] at g0 g1 g2
        obtain ⟨x, e1, _, _⟩ := DataW.trod_int (t := 3) Try.underlying3 g0
        obtain ⟨y, e2, _, w2⟩ := DataW.trod_int (t := 3) Try.underlying3 g1
        obtain ⟨z, e3, _, w3⟩ := DataW.trod_int (t := 2) Try.underlying2 g2
        simp at e1 e2 e3
        subst e1 e2 e3
        have r0 := hcell 0 (by omega)
        have r1 := hcell 1 (by omega)
        have r2 := hcell 2 (by omega)
        rw [Go.Deep.add_add] at r0 r1 r2
        exact ⟨(x, y, z), by simpa using r0, by simpa using r1, by simpa using r2, bounds_i64 w2, bounds_i64 w3⟩
    obtain ⟨t, ht⟩ := Go.Deep.choose_lt each
    refine ⟨fun j => (t j).1, fun j => (t j).2.1, fun j => (t j).2.2, ⟨fun h0 => ?_, fun j hj => (ht j hj).2.2.2⟩, hl, by unfold maxLen at hm; omega⟩
    obtain ⟨b, off, spot⟩ := a'
    have hspot : spot = none := by simpa [Addr.add] using World.cell?_spot (ht 0 h0).1
    subst hspot
    refine ⟨b, off, rfl, World.block_lt_of_cell? _ _ (ht 0 h0).1, fun j hj => ?_⟩
    obtain ⟨h1, h2, h3, _⟩ := ht j hj
    rw [add_plain] at h1 h2 h3
    exact ⟨h1, by rw [Nat.add_assoc]; exact h2, by rw [Nat.add_assoc]; exact h3⟩
end Go.Proofs.Ytlnjgbdekcgmpaa
