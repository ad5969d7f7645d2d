/- A slice of resources of one's own beside a table. -/
import Derived.Test.YthahmcipkchdjaaFx
namespace Go.Proofs.Ythahmcipkchdjaa
open Go.RowKit

theorem own_keep {w w' : World} {b k m : Nat} {F : Fb} {base : Nat} {v : Value} {l : List Ro} (f : FW w b k m F) (h : w.ownsRow base 25 3 v l.length (ocls l)) (q : Kept (FFoot b k m) w w') : w'.ownsRow base 25 3 v l.length (ocls l) := by
  refine own_same h fun g hg => ?_
  rcases h.2 with ⟨rfl, _⟩ | ⟨g', cap, cur, rfl, _, h2, _⟩
  · cases hg
  · obtain rfl : g' = g := by simpa [Value.ownBlock] using hg
    have hb : Bk w g' 25 cur := h2
    exact q.block g' hb.lt (f.box hb (by decide) (by decide))
theorem FSt.app {w0 w w' : World} {b k m : Nat} {F : Fb} {v : Value} {l : List Ro} (h : FSt w0 w b k m F) (r : w.ownsRow w0.heap.size 25 3 v l.length (ocls l)) (q : Kept (fun g => v.ownBlock = some g) w w') : FSt w0 w' b k m F := by
  refine ⟨h.f.kept q fun g hg e => ?_, h.bel.trans (q.below h.bel.size fun g e => (r.lt g e).1), h.lo⟩
  rcases r.2 with ⟨rfl, _⟩ | ⟨g', cap, cur, rfl, _, h2, _⟩
  · cases e
  · obtain rfl : g' = g := by simpa [Value.ownBlock] using e
    have hb : Bk w g' 25 cur := h2
    exact h.f.box hb (by decide) (by decide) hg
end Go.Proofs.Ythahmcipkchdjaa
