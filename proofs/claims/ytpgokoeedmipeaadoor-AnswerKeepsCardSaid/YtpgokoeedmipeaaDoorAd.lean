/- The contracts of the document's Parse, of Print (both), of Same, and of the helpers letters and ofs. -/
import Derived.Test.YtpgokoeedmipeaaDoorAa
import Derived.Deep.RegionWith
namespace Go.Proofs.YtpgokoeedmipeaaDoor
open Go.RowKit

theorem byte_at_ (s : ByteArray) (k : Nat) (h : k < s.size) : ∃ (hk : k < s.data.toList.length) (b : UInt8), s.data.toList[k] = b ∧ s[k].toNat = b.toNat := ⟨by rw [← size_data]; exact h, _, rfl, rfl⟩

theorem nums_len_take (bs : List UInt8) (k : Nat) (h : k ≤ bs.length) : (nums (bs.take k)).length = k := by rw [nums_length, List.length_take]; omega
end Go.Proofs.YtpgokoeedmipeaaDoor
