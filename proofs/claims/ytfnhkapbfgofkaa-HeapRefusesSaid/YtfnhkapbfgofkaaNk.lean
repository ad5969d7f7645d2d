/- Words for memory: a block that is known whole; what a call may turn; objects and references as values and as cells. -/
import Derived.Test.YtfnhkapbfgofkaaNm
import Derived.Test.YtfnhkapbfgofkaaSf
import Derived.WalkKit
import Derived.WalkSpells
import Derived.WalkLawsBesides
import Derived.Lib.Hide
import Derived.Lib.SliceRun
import Derived.Laws.Rows
import Derived.Deep.QuietTactic
import Derived.BigQuiet
import Derived.BigFrame
namespace Go.Proofs.Ytfnhkapbfgofkaa
open Go.RowKit

theorem bel_dr (w : World) : Below w.heap.size w w.drew := ⟨rfl, rfl, rfl, Nat.le_refl _, fun _ _ => rfl⟩
theorem bel_drn (w : World) (n : Nat) : Below w.heap.size w (w.drewN n) := ⟨rfl, rfl, rfl, Nat.le_refl _, fun _ _ => rfl⟩

section
variable {w w' : World} {g : Nat} {t : TypeId} {cs : Array Value}
end

section
variable {S T : Nat → Prop} {a b c w : World}
end



/-! ### objects and references -/
def rfc (r : Rf) : Array Value := #[.int .i64 r.1, .int .u32 r.2]
def rfv (r : Rf) : Value := .agg (rfc r)
def obc (o : Ob) : Array Value := #[.int .i64 o.n, .int .i64 o.a.1, .int .u32 o.a.2, .int .i64 o.b.1, .int .u32 o.b.2, .int .i64 o.c.1, .int .u32 o.c.2, .int .i64 o.d.1, .int .u32 o.d.2, .bool o.h]
def obv (o : Ob) : Value := .agg (obc o)
theorem obc_n (o : Ob) : (obc o)[0]? = some (.int .i64 o.n) := rfl
theorem obc_h (o : Ob) : (obc o)[9]? = some (.bool o.h) := rfl
theorem obc_s (o : Ob) (j : Nat) (hj : j < 4) : (obc o)[1 + j * 2]? = some (.int .i64 (o.fld j).1) := by
  match j, hj with
  | 0, _ => rfl
  | 1, _ => rfl
  | 2, _ => rfl
  | 3, _ => rfl
theorem obc_g (o : Ob) (j : Nat) (hj : j < 4) : (obc o)[1 + j * 2 + 1]? = some (.int .u32 (o.fld j).2) := by
  match j, hj with
  | 0, _ => rfl
  | 1, _ => rfl
  | 2, _ => rfl
  | 3, _ => rfl
theorem obc_put (o : Ob) (r : Rf) (j : Nat) (hj : j < 4) : ((obc o).setIfInBounds (1 + j * 2) (.int .i64 r.1)).setIfInBounds (1 + j * 2 + 1) (.int .u32 r.2) = obc (o.upd r j) := by
  match j, hj with
  | 0, _ => rfl
  | 1, _ => rfl
  | 2, _ => rfl
  | 3, _ => rfl
end Go.Proofs.Ytfnhkapbfgofkaa
