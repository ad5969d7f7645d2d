/- The contracts of Pack where the descriptor is not possible, of the document's Pack, and of Unpack, the program's and the document's. -/
import Derived.Test.YtenggngcigkakaaGreatDoorDp
import Derived.Laws.ResultCell
namespace Go.Proofs.YtenggngcigkakaaGreatDoor
open Go.RowKit


/-- What a call keeps of a block of three cells that its caller has made. -/
theorem keep3 {w w1 : World} (hb : Below w.heap.size w w1) {b : Nat} (hlt : b < w.heap.size) :
    (∀ o, w1.cell? ⟨b, o, none⟩ = w.cell? ⟨b, o, none⟩) ∧ (∀ o, w1.frozen? ⟨b, o, none⟩ = w.frozen? ⟨b, o, none⟩) ∧ b < w1.heap.size :=
  ⟨fun _ => hb.cell (p := ⟨b, _, none⟩) hlt, fun _ => hb.frozen (p := ⟨b, _, none⟩) hlt, Nat.lt_of_lt_of_le hlt hb.size⟩

end Go.Proofs.YtenggngcigkakaaGreatDoor
