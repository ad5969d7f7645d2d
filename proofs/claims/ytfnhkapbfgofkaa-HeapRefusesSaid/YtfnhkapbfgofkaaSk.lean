/- Words for memory: a block that is known whole; what a call may turn; the program's table (its block b) and the document's (its struct's block c, its slots' block d). -/
import Derived.Test.YtfnhkapbfgofkaaSm
import Derived.Test.YtfnhkapbfgofkaaRows
import Derived.WalkKit
import Derived.WalkSpells
import Derived.WalkLawsBesides
import Derived.Lib.Hide
import Derived.Lib.SliceRun
import Derived.Laws.Rows
import Derived.Deep.QuietTactic
import Derived.BigQuiet
import Derived.BigFrame
namespace Go.Proofs.Ytfnhkapbfgofkaa
open Go.RowKit

def Bk (w : World) (g : Nat) (t : TypeId) (cs : Array Value) : Prop := w.heap[g]? = some (.cells cs t (0, 0))
section
variable {w w' : World} {g : Nat} {t : TypeId} {cs : Array Value}
theorem Bk.lt (h : Bk w g t cs) : g < w.heap.size := (Array.getElem?_eq_some_iff.1 h).1
theorem Bk.cell (h : Bk w g t cs) (i : Nat) : w.cell? ⟨g, i, none⟩ = cs[i]? := cell_of_row w g i cs t (0, 0) h
theorem Bk.frozen (h : Bk w g t cs) (i : Nat) : w.frozen? ⟨g, i, none⟩ = false := by
  unfold Bk at h
  simp [World.frozen?, h]
theorem Bk.new (w : World) (t : TypeId) (cs : Array Value) : Bk (w.alloc (.cells cs t)) w.heap.size t cs := by
  unfold Bk World.alloc; simp
theorem Bk.same (h : Bk w g t cs) (e : w'.heap[g]? = w.heap[g]?) : Bk w' g t cs := e.trans h
theorem Bk.put (h : Bk w g t cs) (i : Nat) (u : Value) : Bk (w.setCell ⟨g, i, none⟩ u) g t (cs.setIfInBounds i u) := by
  unfold Bk at h ⊢
  simp [World.setCell, Array.getElem?_modify, h]
theorem Bk.uniq {t' : TypeId} {cs' : Array Value} (h : Bk w g t cs) (h' : Bk w g t' cs') : t = t' ∧ cs = cs' := by
  unfold Bk at h h'
  rw [h] at h'
  injection h' with h'
  injection h' with h1 h2
  exact ⟨h2, h1⟩
end

/-- Of the blocks that were there w' has turned those alone that S names. -/
structure Kept (S : Nat → Prop) (w w' : World) : Prop where
  os : w'.os = w.os
  tape : w'.tape = w.tape
  output : w'.output = w.output
  size : w.heap.size ≤ w'.heap.size
  block : ∀ k, k < w.heap.size → ¬ S k → w'.heap[k]? = w.heap[k]?
section
variable {S T : Nat → Prop} {a b c w : World}
theorem Kept.refl (S : Nat → Prop) (w : World) : Kept S w w := ⟨rfl, rfl, rfl, Nat.le_refl _, fun _ _ _ => rfl⟩
theorem Kept.trans (h : Kept S a b) (k : Kept S b c) : Kept S a c :=
  ⟨k.os.trans h.os, k.tape.trans h.tape, k.output.trans h.output, Nat.le_trans h.size k.size, fun i hi hs => (k.block i (Nat.lt_of_lt_of_le hi h.size) hs).trans (h.block i hi hs)⟩
theorem Kept.mono (h : Kept S a b) (e : ∀ k, k < a.heap.size → S k → T k) : Kept T a b := ⟨h.os, h.tape, h.output, h.size, fun k hk hs => h.block k hk fun x => hs (e k hk x)⟩
theorem Kept.drewN (h : Kept S a w) (n : Nat) : Kept S a (w.drewN n) := ⟨h.os, h.tape, h.output, h.size, h.block⟩
theorem Kept.drew (h : Kept S a w) : Kept S a w.drew := ⟨h.os, h.tape, h.output, h.size, h.block⟩
theorem Kept.alloc (h : Kept S a w) (o : Obj) : Kept S a (w.alloc o) :=
  h.trans ⟨rfl, rfl, rfl, by simp, fun k hk _ => Below.heap_alloc _ _ _ hk⟩
theorem Kept.put (h : Kept S a w) {p : Addr} (hp : a.heap.size ≤ p.block ∨ S p.block) (u : Value) : Kept S a (w.setCell p u) :=
  ⟨h.os, h.tape, h.output, by simp; exact h.size, fun k hk hs => (Below.heap_setCell _ _ _ _ (by rcases hp with hp | hp; omega; rintro rfl; exact hs hp)).trans (h.block k hk hs)⟩
theorem Kept.below (h : Kept S a b) {B : Nat} (hB : B ≤ a.heap.size) (hs : ∀ k, S k → B ≤ k) : Below B a b :=
  ⟨h.os, h.tape, h.output, h.size, fun k hk => h.block k (by omega) fun x => by have := hs k x; omega⟩
theorem Kept.of_below (h : Below a.heap.size a b) : Kept S a b := ⟨h.os, h.tape, h.output, h.size, fun k hk _ => h.block k hk⟩
theorem Bk.kept {g : Nat} {t : TypeId} {cs : Array Value} (h : Bk a g t cs) (k : Kept S a b) (hg : ¬ S g) : Bk b g t cs := (k.block g h.lt hg).trans h
theorem Bk.below {g : Nat} {t : TypeId} {cs : Array Value} (h : Bk a g t cs) (k : Below a.heap.size a b) : Bk b g t cs := (k.block g h.lt).trans h
end

theorem Kept.put1 {g : Nat} {a w : World} (h : Kept (· = g) a w) (i : Nat) (u : Value) : Kept (· = g) a (w.setCell ⟨g, i, none⟩ u) := h.put (p := ⟨g, i, none⟩) (.inr rfl) u

/-! ### the program's table -/
/-- What the cell at j holds. -/
def tcell (T : Tb) (j : Nat) : Value := if j = 0 then .int .i64 T.n else if j % 2 = 1 then .int .i64 (T.s (j / 2)) else .int .u32 (T.g (j / 2 - 1))
def tcells (T : Tb) : Array Value := ((List.range 513).map (tcell T)).toArray
theorem tcells_size (T : Tb) : (tcells T).size = 513 := by simp [tcells]
theorem tcells_at (T : Tb) {j : Nat} (h : j < 513) : (tcells T)[j]? = some (tcell T j) := by simp [tcells, h]
theorem tcell_n (T : Tb) : tcell T 0 = .int .i64 T.n := rfl
theorem tcell_s (T : Tb) (i : Nat) : tcell T (1 + i * 2) = .int .i64 (T.s i) := by
  have h1 : 1 + i * 2 ≠ 0 := by omega
  have h2 : (1 + i * 2) % 2 = 1 := by omega
  have h3 : (1 + i * 2) / 2 = i := by omega
  simp only [tcell, h1, h2, h3, if_true, if_false]
theorem tcell_g (T : Tb) (i : Nat) : tcell T (1 + i * 2 + 1) = .int .u32 (T.g i) := by
  have h1 : 1 + i * 2 + 1 ≠ 0 := by omega
  have h2 : ¬ (1 + i * 2 + 1) % 2 = 1 := by omega
  have h3 : (1 + i * 2 + 1) / 2 - 1 = i := by omega
  simp only [tcell, h1, h2, h3, if_false]
theorem tcells_ext {T U : Tb} {k : Nat} {v : Value} (h : ∀ j, j < 513 → tcell U j = if k = j then v else tcell T j) : (tcells T).setIfInBounds k v = tcells U := by
  refine Array.ext_getElem? fun j => ?_
  rw [Array.getElem?_setIfInBounds]
  by_cases hj : j < 513
  · rw [tcells_at U hj, h j hj, tcells_at T hj, tcells_size]
    by_cases e : k = j
    · subst e; simp [hj]
    · simp [e]
  · have h1 : (tcells U)[j]? = none := by rw [Array.getElem?_eq_none]; rw [tcells_size]; omega
    have h2 : (tcells T)[j]? = none := by rw [Array.getElem?_eq_none]; rw [tcells_size]; omega
    rw [h1, h2, tcells_size]
    by_cases e : k = j
    · rw [if_pos e, if_neg (by omega)]
    · rw [if_neg e]
theorem tcells_put_s (T : Tb) (i v : Nat) : (tcells T).setIfInBounds (1 + i * 2) (.int .i64 v) = tcells ⟨T.n, put T.s i v, T.g⟩ := by
  refine tcells_ext fun j hj => ?_
  by_cases e : 1 + i * 2 = j
  · subst e; rw [if_pos rfl, tcell_s]; simp [put_same]
  · rw [if_neg e]
    unfold tcell
    by_cases h0 : j = 0
    · rw [if_pos h0, if_pos h0]
    · rw [if_neg h0, if_neg h0]
      by_cases h1 : j % 2 = 1
      · rw [if_pos h1, if_pos h1]; simp only []; rw [put_other (by omega)]
      · rw [if_neg h1, if_neg h1]
theorem tcells_put_g (T : Tb) (i v : Nat) : (tcells T).setIfInBounds (1 + i * 2 + 1) (.int .u32 v) = tcells ⟨T.n, T.s, put T.g i v⟩ := by
  refine tcells_ext fun j hj => ?_
  by_cases e : 1 + i * 2 + 1 = j
  · subst e; rw [if_pos rfl, tcell_g]; simp [put_same]
  · rw [if_neg e]
    unfold tcell
    by_cases h0 : j = 0
    · rw [if_pos h0, if_pos h0]
    · rw [if_neg h0, if_neg h0]
      by_cases h1 : j % 2 = 1
      · rw [if_pos h1, if_pos h1]
      · rw [if_neg h1, if_neg h1]; simp only []; rw [put_other (by omega)]

structure TabW (w : World) (b : Nat) (T : Tb) : Prop where
  ok : T.Ok
  bk : Bk w b 112 (tcells T)
section
variable {w w' : World} {b : Nat} {T : Tb}
theorem TabW.bt (h : TabW w b T) : b < w.heap.size := h.bk.lt
theorem TabW.same (h : TabW w b T) (e : w'.heap[b]? = w.heap[b]?) : TabW w' b T := ⟨h.ok, h.bk.same e⟩
theorem TabW.kept {S : Nat → Prop} (h : TabW w b T) (k : Kept S w w') (hb : ¬ S b) : TabW w' b T := ⟨h.ok, h.bk.kept k hb⟩
theorem TabW.below (h : TabW w b T) (k : Below w.heap.size w w') : TabW w' b T := ⟨h.ok, h.bk.below k⟩
theorem TabW.drewN (h : TabW w b T) (q : Nat) : TabW (w.drewN q) b T := h.same rfl
theorem TabW.c0 (h : TabW w b T) : w.cell? ⟨b, 0, none⟩ = some (.int .i64 T.n) := by rw [h.bk.cell, tcells_at T (by omega), tcell_n]
theorem TabW.cs (h : TabW w b T) {i : Nat} (hi : i < 256) : w.cell? ⟨b, 1 + i * 2, none⟩ = some (.int .i64 (T.s i)) := by rw [h.bk.cell, tcells_at T (by omega), tcell_s]
theorem TabW.cg (h : TabW w b T) {i : Nat} (hi : i < 256) : w.cell? ⟨b, 1 + i * 2 + 1, none⟩ = some (.int .u32 (T.g i)) := by rw [h.bk.cell, tcells_at T (by omega), tcell_g]
theorem TabW.fz (h : TabW w b T) (i : Nat) : w.frozen? ⟨b, i, none⟩ = false := h.bk.frozen i
end

/-! ### the document's table -/
section
variable {w w' : World} {c d : Nat} {T : Tb}
end
/-- A table that New or Copy did not make: nil, or the zero one. -/
def zeroT : Tb := ⟨0, fun _ => 0, fun _ => 0⟩
def Inv (w : World) (v : Option Addr) : Prop := v = none ∨ ∃ b, v = some ⟨b, 0, none⟩ ∧ Bk w b 112 (tcells zeroT)
theorem Inv.below {w w' : World} {v : Option Addr} (h : Inv w v) (hb : Below w.heap.size w w') : Inv w' v := by
  rcases h with rfl | ⟨b, rfl, h⟩
  · exact .inl rfl
  · exact .inr ⟨b, rfl, h.below hb⟩
/-- A list of slots with their generations, in a slice. -/
def pairs (l : List (Nat × Nat)) : List Value := l.flatMap fun r => [.int .i64 r.1, .int .u32 r.2]
end Go.Proofs.Ytfnhkapbfgofkaa
