/- Words for memory: a block that is known whole; what a call may turn; objects and references as values and as cells. -/
import Derived.Test.YtmbkhkijmfogcaaDoorNm
import Derived.Test.YtmbkhkijmfogcaaDoorDa
import Derived.WalkKit
import Derived.WalkSpells
import Derived.WalkLawsBesides
import Derived.Lib.Hide
import Derived.Lib.SliceRun
import Derived.Laws.Rows
import Derived.Deep.QuietTactic
import Derived.BigQuiet
import Derived.BigFrame
namespace Go.Proofs.YtmbkhkijmfogcaaDoor
open Go.RowKit

def Bk (w : World) (g : Nat) (t : TypeId) (cs : Array Value) : Prop := w.heap[g]? = some (.cells cs t (0, 0))
section
variable {w w' : World} {g : Nat} {t : TypeId} {cs : Array Value}
theorem Bk.lt (h : Bk w g t cs) : g < w.heap.size := (Array.getElem?_eq_some_iff.1 h).1
theorem Bk.cell (h : Bk w g t cs) (i : Nat) : w.cell? ⟨g, i, none⟩ = cs[i]? := cell_of_row w g i cs t (0, 0) h
theorem Bk.frozen (h : Bk w g t cs) (i : Nat) : w.frozen? ⟨g, i, none⟩ = false := by
  unfold Bk at h
  simp [World.frozen?, h]
theorem Bk.new (w : World) (t : TypeId) (cs : Array Value) : Bk (w.alloc (.cells cs t)) w.heap.size t cs := by
  unfold Bk World.alloc; simp
theorem Bk.same (h : Bk w g t cs) (e : w'.heap[g]? = w.heap[g]?) : Bk w' g t cs := e.trans h
theorem Bk.put (h : Bk w g t cs) (i : Nat) (u : Value) : Bk (w.setCell ⟨g, i, none⟩ u) g t (cs.setIfInBounds i u) := by
  unfold Bk at h ⊢
  simp [World.setCell, Array.getElem?_modify, h]
theorem Bk.uniq {t' : TypeId} {cs' : Array Value} (h : Bk w g t cs) (h' : Bk w g t' cs') : t = t' ∧ cs = cs' := by
  unfold Bk at h h'
  rw [h] at h'
  injection h' with h'
  injection h' with h1 h2
  exact ⟨h2, h1⟩
end

/-- Of the blocks that were there w' has turned those alone that S names. -/
structure Kept (S : Nat → Prop) (w w' : World) : Prop where
  os : w'.os = w.os
  tape : w'.tape = w.tape
  output : w'.output = w.output
  size : w.heap.size ≤ w'.heap.size
  block : ∀ k, k < w.heap.size → ¬ S k → w'.heap[k]? = w.heap[k]?
section
variable {S T : Nat → Prop} {a b c w : World}
theorem Kept.refl (S : Nat → Prop) (w : World) : Kept S w w := ⟨rfl, rfl, rfl, Nat.le_refl _, fun _ _ _ => rfl⟩
theorem Kept.trans (h : Kept S a b) (k : Kept S b c) : Kept S a c :=
  ⟨k.os.trans h.os, k.tape.trans h.tape, k.output.trans h.output, Nat.le_trans h.size k.size, fun i hi hs => (k.block i (Nat.lt_of_lt_of_le hi h.size) hs).trans (h.block i hi hs)⟩
theorem Kept.mono (h : Kept S a b) (e : ∀ k, k < a.heap.size → S k → T k) : Kept T a b := ⟨h.os, h.tape, h.output, h.size, fun k hk hs => h.block k hk fun x => hs (e k hk x)⟩
theorem Kept.drewN (h : Kept S a w) (n : Nat) : Kept S a (w.drewN n) := ⟨h.os, h.tape, h.output, h.size, h.block⟩
theorem Kept.drew (h : Kept S a w) : Kept S a w.drew := ⟨h.os, h.tape, h.output, h.size, h.block⟩
theorem Kept.alloc (h : Kept S a w) (o : Obj) : Kept S a (w.alloc o) :=
  h.trans ⟨rfl, rfl, rfl, by simp, fun k hk _ => Below.heap_alloc _ _ _ hk⟩
theorem Kept.put (h : Kept S a w) {p : Addr} (hp : a.heap.size ≤ p.block ∨ S p.block) (u : Value) : Kept S a (w.setCell p u) :=
  ⟨h.os, h.tape, h.output, by simp; exact h.size, fun k hk hs => (Below.heap_setCell _ _ _ _ (by rcases hp with hp | hp; omega; rintro rfl; exact hs hp)).trans (h.block k hk hs)⟩
theorem Kept.below (h : Kept S a b) {B : Nat} (hB : B ≤ a.heap.size) (hs : ∀ k, S k → B ≤ k) : Below B a b :=
  ⟨h.os, h.tape, h.output, h.size, fun k hk => h.block k (by omega) fun x => by have := hs k x; omega⟩
theorem Kept.of_below (h : Below a.heap.size a b) : Kept S a b := ⟨h.os, h.tape, h.output, h.size, fun k hk _ => h.block k hk⟩
theorem Bk.kept {g : Nat} {t : TypeId} {cs : Array Value} (h : Bk a g t cs) (k : Kept S a b) (hg : ¬ S g) : Bk b g t cs := (k.block g h.lt hg).trans h
theorem Bk.below {g : Nat} {t : TypeId} {cs : Array Value} (h : Bk a g t cs) (k : Below a.heap.size a b) : Bk b g t cs := (k.block g h.lt).trans h
end

theorem Kept.put1 {g : Nat} {a w : World} (h : Kept (· = g) a w) (i : Nat) (u : Value) : Kept (· = g) a (w.setCell ⟨g, i, none⟩ u) := h.put (p := ⟨g, i, none⟩) (.inr rfl) u


/-! ### objects and references -/
def rfc (r : Rf) : Array Value := #[.int .i64 r.1, .int .u32 r.2]
def rfv (r : Rf) : Value := .agg (rfc r)
def obc (o : Ob) : Array Value := #[.int .i64 o.n, .int .i64 o.a.1, .int .u32 o.a.2, .int .i64 o.b.1, .int .u32 o.b.2, .int .i64 o.c.1, .int .u32 o.c.2, .int .i64 o.d.1, .int .u32 o.d.2, .bool o.h]
def obv (o : Ob) : Value := .agg (obc o)
theorem obc_n (o : Ob) : (obc o)[0]? = some (.int .i64 o.n) := rfl
theorem obc_h (o : Ob) : (obc o)[9]? = some (.bool o.h) := rfl
theorem obc_s (o : Ob) (j : Nat) (hj : j < 4) : (obc o)[1 + j * 2]? = some (.int .i64 (o.fld j).1) := by
  match j, hj with
  | 0, _ => rfl
  | 1, _ => rfl
  | 2, _ => rfl
  | 3, _ => rfl
theorem obc_g (o : Ob) (j : Nat) (hj : j < 4) : (obc o)[1 + j * 2 + 1]? = some (.int .u32 (o.fld j).2) := by
  match j, hj with
  | 0, _ => rfl
  | 1, _ => rfl
  | 2, _ => rfl
  | 3, _ => rfl
theorem obc_put (o : Ob) (r : Rf) (j : Nat) (hj : j < 4) : ((obc o).setIfInBounds (1 + j * 2) (.int .i64 r.1)).setIfInBounds (1 + j * 2 + 1) (.int .u32 r.2) = obc (o.upd r j) := by
  match j, hj with
  | 0, _ => rfl
  | 1, _ => rfl
  | 2, _ => rfl
  | 3, _ => rfl
end Go.Proofs.YtmbkhkijmfogcaaDoor
