/- The contracts of tags.every, of its two closures, of tags.Check and tags.Plain: which texts are tags. -/
import Derived.Test.YtmgkdklpahggjaaDoorRows
import Derived.Test.YtmgkdklpahggjaaDoorTo
import Derived.Test.YtmgkdklpahggjaaDoorSh
import Derived.WalkKit
import Derived.WalkSpells
import Derived.WalkLawsBesides
import Derived.Lib.Hide
import Derived.Lib.OthersKept
import Derived.Deep.QuietTactic
import Derived.BigQuiet
namespace Go.Proofs.YtmgkdklpahggjaaDoor
open Go.RowKit

/-- What the calls ask of the library's variables: the two tables of unicode/utf8, and that bytealg.MaxLen holds a number. -/
structure Env (w : World) : Prop where
  tabs : Lib.Utf8Tabs 0 1 w
  len : ∃ m : Int, w.cell? ⟨2, 0, none⟩ = some (.int .i64 m)
theorem Env.below {w w' : World} (h : Env w) (hb : Below w.heap.size w w') : Env w' :=
  ⟨Utf8Tabs_below h.tabs hb, h.len.elim fun m hm => ⟨m, (hb.cell (World.block_lt_of_cell? _ _ hm)).trans hm⟩⟩
theorem bel2 {w a b : World} (h : Below w.heap.size w a) (k : Below a.heap.size a b) : Below w.heap.size w b := h.trans (k.mono h.size)
theorem Env.alloc {w : World} (h : Env w) (o : Obj) : Env (w.alloc o) := h.below ((Below.refl _ _).alloc (Nat.le_refl _) o)
theorem bcell {W w1 : World} {n : Nat} (hb : Below n W w1) : (∀ b o, b < n → w1.cell? ⟨b, o, none⟩ = W.cell? ⟨b, o, none⟩) ∧ (∀ b o, b < n → w1.frozen? ⟨b, o, none⟩ = W.frozen? ⟨b, o, none⟩) :=
  ⟨fun b o h => hb.cell (p := ⟨b, o, none⟩) h, fun b o h => hb.frozen (p := ⟨b, o, none⟩) h⟩

theorem valid_yes (s : ByteArray) (rs : List Nat) (w : World) (hs : s.size ≤ 140737488351232) (he : Env w) (h : Utf s.data.toList rs) :
    Calls Tryd.prog 40 #[.string s] w fun e w' => e = .returned (.bool true) ∧ Below w.heap.size w w' := by
  have := Tryd.utf8_ValidString s w (by omega) he.tabs
  rwa [valid_of_utf h] at this
theorem valid_no (s : ByteArray) (w : World) (hs : s.size ≤ 140737488351232) (he : Env w) (h : Lib.validD s.data.toList = false) :
    Calls Tryd.prog 40 #[.string s] w fun e w' => e = .returned (.bool false) ∧ Below w.heap.size w w' := by
  have := Tryd.utf8_ValidString s w (by omega) he.tabs
  rwa [h] at this

/-! ### the closures -/
def GoodR (r : Nat) : Prop := 32 ≤ r ∧ r ≠ 127
set_option maxRecDepth 100000 in
set_option maxHeartbeats 400000 in
theorem chk_yes (r k b : Nat) (w : World) (hc : w.cell? ⟨b, 0, none⟩ = some (.int .i64 k)) (hf : w.frozen? ⟨b, 0, none⟩ = false) (hk : k + 1 ≤ 24) (h1 : 32 ≤ r) (h2 : r ≠ 127) (h3 : r ≤ 1114111) :
    Calls Tryd.prog 33 #[.int .i32 r, .pointer (some ⟨b, 0, none⟩)] w fun e w' => e = .returned (.bool true) ∧ w' = w.setCell ⟨b, 0, none⟩ (.int .i64 (k + 1)) := by
  have hne : ((r : Int) == 127) = false := beq_eq_false_iff_ne.2 (by omega)
  have hne2 : ((r : Int) != 127) = true := by simp [bne, hne]
  go_enter Tryd.func33, Tryd.ntmps33
  go_wp2
  go_ret
  exact ⟨rfl, rfl⟩
set_option maxRecDepth 100000 in
set_option maxHeartbeats 400000 in
theorem chk_no (r k b : Nat) (w : World) (hc : w.cell? ⟨b, 0, none⟩ = some (.int .i64 k)) (hf : w.frozen? ⟨b, 0, none⟩ = false) (hk : k ≤ 24) (h : 24 < k + 1 ∨ r < 32 ∨ r = 127) (h3 : r ≤ 1114111) :
    Calls Tryd.prog 33 #[.int .i32 r, .pointer (some ⟨b, 0, none⟩)] w fun e w' => e = .returned (.bool false) ∧ w' = w.setCell ⟨b, 0, none⟩ (.int .i64 (k + 1)) := by
  by_cases h24 : 24 < k + 1
  · go_enter Tryd.func33, Tryd.ntmps33
    go_wp2
    go_ret
    exact ⟨rfl, rfl⟩
  by_cases h32 : r < 32
  · go_enter Tryd.func33, Tryd.ntmps33
    go_wp2
    go_ret
    exact ⟨rfl, rfl⟩
  · obtain rfl : r = 127 := by omega
    go_enter Tryd.func33, Tryd.ntmps33
    go_wp2
    go_ret
    exact ⟨rfl, rfl⟩
end Go.Proofs.YtmgkdklpahggjaaDoor
