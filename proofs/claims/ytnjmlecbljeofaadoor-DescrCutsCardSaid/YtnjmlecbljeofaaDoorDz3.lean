/- Cells that a call leaves as they are. -/
import Derived.Test.YtnjmlecbljeofaaDoorDz2
namespace Go.Proofs.YtnjmlecbljeofaaDoor
open Go.RowKit

/-- Nine cells that a call leaves as they are. -/
theorem nine_b {w w' : World} {a b c : Nat} {v0 v1 v2 v3 v4 v5 v6 v7 v8 : Value} (hb : Below w.heap.size w w') (h : w.cell? ⟨a, 0, none⟩ = some v0 ∧ w.cell? ⟨a, 1, none⟩ = some v1 ∧ w.cell? ⟨a, 2, none⟩ = some v2 ∧ w.cell? ⟨b, 0, none⟩ = some v3 ∧ w.cell? ⟨b, 1, none⟩ = some v4 ∧ w.cell? ⟨b, 2, none⟩ = some v5 ∧ w.cell? ⟨c, 0, none⟩ = some v6 ∧ w.cell? ⟨c, 1, none⟩ = some v7 ∧ w.cell? ⟨c, 2, none⟩ = some v8) :
    w'.cell? ⟨a, 0, none⟩ = some v0 ∧ w'.cell? ⟨a, 1, none⟩ = some v1 ∧ w'.cell? ⟨a, 2, none⟩ = some v2 ∧ w'.cell? ⟨b, 0, none⟩ = some v3 ∧ w'.cell? ⟨b, 1, none⟩ = some v4 ∧ w'.cell? ⟨b, 2, none⟩ = some v5 ∧ w'.cell? ⟨c, 0, none⟩ = some v6 ∧ w'.cell? ⟨c, 1, none⟩ = some v7 ∧ w'.cell? ⟨c, 2, none⟩ = some v8 := by
  obtain ⟨h0, h1, h2, h3, h4, h5, h6, h7, h8⟩ := h
  exact ⟨cell_keeps hb h0, cell_keeps hb h1, cell_keeps hb h2, cell_keeps hb h3, cell_keeps hb h4, cell_keeps hb h5, cell_keeps hb h6, cell_keeps hb h7, cell_keeps hb h8⟩
theorem Two.b {w w' : World} {a b : Nat} {k p g k' p' g' : Int} (hb : Below w.heap.size w w') (h : Two w a b k p g k' p' g') : Two w' a b k p g k' p' g' := h.below hb
end Go.Proofs.YtnjmlecbljeofaaDoor
