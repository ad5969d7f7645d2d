/- Words for memory: a block that is known whole; what a call may turn; the program's paint (its block b). -/
import Derived.Test.YthcpmcdgojgdlaaCm
import Derived.Test.YthcpmcdgojgdlaaRows
import Derived.WalkKit
import Derived.WalkSpells
import Derived.WalkLawsBesides
import Derived.Lib.Hide
import Derived.Lib.SliceRun
import Derived.Laws.Rows
import Derived.Deep.QuietTactic
import Derived.BigQuiet
import Derived.BigFrame
namespace Go.Proofs.Ythcpmcdgojgdlaa
open Go.RowKit

def Bk (w : World) (g : Nat) (t : TypeId) (cs : Array Value) : Prop := w.heap[g]? = some (.cells cs t (0, 0))
section
variable {w w' : World} {g : Nat} {t : TypeId} {cs : Array Value}
theorem Bk.lt (h : Bk w g t cs) : g < w.heap.size := (Array.getElem?_eq_some_iff.1 h).1
theorem Bk.cell (h : Bk w g t cs) (i : Nat) : w.cell? ⟨g, i, none⟩ = cs[i]? := cell_of_row w g i cs t (0, 0) h
theorem Bk.frozen (h : Bk w g t cs) (i : Nat) : w.frozen? ⟨g, i, none⟩ = false := by
  unfold Bk at h
  simp [World.frozen?, h]
theorem Bk.new (w : World) (t : TypeId) (cs : Array Value) : Bk (w.alloc (.cells cs t)) w.heap.size t cs := by
  unfold Bk World.alloc; simp
theorem Bk.same (h : Bk w g t cs) (e : w'.heap[g]? = w.heap[g]?) : Bk w' g t cs := e.trans h
theorem Bk.put (h : Bk w g t cs) (i : Nat) (u : Value) : Bk (w.setCell ⟨g, i, none⟩ u) g t (cs.setIfInBounds i u) := by
  unfold Bk at h ⊢
  simp [World.setCell, Array.getElem?_modify, h]
theorem Bk.uniq {t' : TypeId} {cs' : Array Value} (h : Bk w g t cs) (h' : Bk w g t' cs') : t = t' ∧ cs = cs' := by
  unfold Bk at h h'
  rw [h] at h'
  injection h' with h'
  injection h' with h1 h2
  exact ⟨h2, h1⟩
end

/-- Of the blocks that were there w' has turned those alone that S names. -/
structure Kept (S : Nat → Prop) (w w' : World) : Prop where
  os : w'.os = w.os
  tape : w'.tape = w.tape
  output : w'.output = w.output
  size : w.heap.size ≤ w'.heap.size
  block : ∀ k, k < w.heap.size → ¬ S k → w'.heap[k]? = w.heap[k]?
section
variable {S T : Nat → Prop} {a b c w : World}
theorem Kept.refl (S : Nat → Prop) (w : World) : Kept S w w := ⟨rfl, rfl, rfl, Nat.le_refl _, fun _ _ _ => rfl⟩
theorem Kept.trans (h : Kept S a b) (k : Kept S b c) : Kept S a c :=
  ⟨k.os.trans h.os, k.tape.trans h.tape, k.output.trans h.output, Nat.le_trans h.size k.size, fun i hi hs => (k.block i (Nat.lt_of_lt_of_le hi h.size) hs).trans (h.block i hi hs)⟩
theorem Kept.mono (h : Kept S a b) (e : ∀ k, k < a.heap.size → S k → T k) : Kept T a b := ⟨h.os, h.tape, h.output, h.size, fun k hk hs => h.block k hk fun x => hs (e k hk x)⟩
theorem Kept.drewN (h : Kept S a w) (n : Nat) : Kept S a (w.drewN n) := ⟨h.os, h.tape, h.output, h.size, h.block⟩
theorem Kept.drew (h : Kept S a w) : Kept S a w.drew := ⟨h.os, h.tape, h.output, h.size, h.block⟩
theorem Kept.alloc (h : Kept S a w) (o : Obj) : Kept S a (w.alloc o) :=
  h.trans ⟨rfl, rfl, rfl, by simp, fun k hk _ => Below.heap_alloc _ _ _ hk⟩
theorem Kept.put (h : Kept S a w) {p : Addr} (hp : a.heap.size ≤ p.block ∨ S p.block) (u : Value) : Kept S a (w.setCell p u) :=
  ⟨h.os, h.tape, h.output, by simp; exact h.size, fun k hk hs => (Below.heap_setCell _ _ _ _ (by rcases hp with hp | hp; omega; rintro rfl; exact hs hp)).trans (h.block k hk hs)⟩
theorem Kept.below (h : Kept S a b) {B : Nat} (hB : B ≤ a.heap.size) (hs : ∀ k, S k → B ≤ k) : Below B a b :=
  ⟨h.os, h.tape, h.output, h.size, fun k hk => h.block k (by omega) fun x => by have := hs k x; omega⟩
theorem Kept.of_below (h : Below a.heap.size a b) : Kept S a b := ⟨h.os, h.tape, h.output, h.size, fun k hk _ => h.block k hk⟩
theorem Bk.kept {g : Nat} {t : TypeId} {cs : Array Value} (h : Bk a g t cs) (k : Kept S a b) (hg : ¬ S g) : Bk b g t cs := (k.block g h.lt hg).trans h
theorem Bk.below {g : Nat} {t : TypeId} {cs : Array Value} (h : Bk a g t cs) (k : Below a.heap.size a b) : Bk b g t cs := (k.block g h.lt).trans h
end

theorem Kept.put1 {g : Nat} {a w : World} (h : Kept (· = g) a w) (i : Nat) (u : Value) : Kept (· = g) a (w.setCell ⟨g, i, none⟩ u) := h.put (p := ⟨g, i, none⟩) (.inr rfl) u

theorem bel2 {w a b : World} (h : Below w.heap.size w a) (k : Below a.heap.size a b) : Below w.heap.size w b := h.trans (k.mono h.size)
theorem bel_drewN {B : Nat} {a w : World} (h : Below B a w) (n : Nat) : Below B a (w.drewN n) := ⟨h.os, h.tape, h.output, h.size, h.block⟩
theorem bel_new (w : World) (o : Obj) : Below w.heap.size w (w.alloc o) := (Below.refl _ w).alloc (Nat.le_refl _) _

/-! ### the program's paint -/
/-- What the cell at j holds. -/
def pcell (P : Pt) (j : Nat) : Value := if j = 0 then .int .i64 P.n else .int .i64 (P.c (j - 1))
def pcells (P : Pt) : Array Value := ((List.range 257).map (pcell P)).toArray
theorem pcells_size (P : Pt) : (pcells P).size = 257 := by simp [pcells]
theorem pcells_at (P : Pt) {j : Nat} (h : j < 257) : (pcells P)[j]? = some (pcell P j) := by simp [pcells, h]
theorem pcell_n (P : Pt) : pcell P 0 = .int .i64 P.n := rfl
theorem pcell_c (P : Pt) (i : Nat) : pcell P (1 + i) = .int .i64 (P.c i) := by
  have h1 : 1 + i ≠ 0 := by omega
  have h2 : 1 + i - 1 = i := by omega
  simp only [pcell, h1, h2, if_false]
theorem pcells_ext {T U : Pt} {k : Nat} {v : Value} (h : ∀ j, j < 257 → pcell U j = if k = j then v else pcell T j) : (pcells T).setIfInBounds k v = pcells U := by
  refine Array.ext_getElem? fun j => ?_
  rw [Array.getElem?_setIfInBounds]
  by_cases hj : j < 257
  · rw [pcells_at U hj, h j hj, pcells_at T hj, pcells_size]
    by_cases e : k = j
    · subst e; simp [hj]
    · simp [e]
  · have h1 : (pcells U)[j]? = none := by rw [Array.getElem?_eq_none]; rw [pcells_size]; omega
    have h2 : (pcells T)[j]? = none := by rw [Array.getElem?_eq_none]; rw [pcells_size]; omega
    rw [h1, h2, pcells_size]
    by_cases e : k = j
    · rw [if_pos e, if_neg (by omega)]
    · rw [if_neg e]
theorem pcells_put (P : Pt) (i v : Nat) : (pcells P).setIfInBounds (1 + i) (.int .i64 v) = pcells (P.set i v) := by
  refine pcells_ext fun j hj => ?_
  by_cases e : 1 + i = j
  · subst e; rw [if_pos rfl, pcell_c]; simp [Pt.set, put_same]
  · rw [if_neg e]
    unfold pcell
    by_cases h0 : j = 0
    · rw [if_pos h0, if_pos h0]; rfl
    · rw [if_neg h0, if_neg h0]; simp only [Pt.set]; rw [put_other (by omega)]
/-- The zero paint. -/
def zeroP : Pt := ⟨0, fun _ => 0⟩
theorem pcells_n0 (n : Nat) : (pcells zeroP).setIfInBounds 0 (.int .i64 n) = pcells (white n) := by
  refine pcells_ext fun j hj => ?_
  by_cases e : 0 = j
  · subst e; rw [if_pos rfl, pcell_n]; rfl
  · rw [if_neg e]
    unfold pcell
    have h0 : ¬ j = 0 := fun h => e h.symm
    rw [if_neg h0, if_neg h0]; rfl
theorem pcells_ne (P : Pt) : ¬ pcells P = #[] := fun h => by have := congrArg Array.size h; rw [pcells_size] at this; simp at this
theorem pcells_one (P : Pt) : (pcells P).all (·.oneCell') = true := by
  rw [Array.all_eq_true_iff_forall_mem]
  intro v hv
  obtain ⟨j, _, rfl⟩ := List.mem_map.1 (show v ∈ (List.range 257).map (pcell P) by simpa [pcells] using hv)
  unfold pcell
  split <;> rfl

structure PaW (w : World) (b : Nat) (P : Pt) : Prop where
  ok : P.Ok
  bk : Bk w b 42 (pcells P)
section
variable {w w' : World} {b : Nat} {P : Pt}
theorem PaW.bt (h : PaW w b P) : b < w.heap.size := h.bk.lt
theorem PaW.same (h : PaW w b P) (e : w'.heap[b]? = w.heap[b]?) : PaW w' b P := ⟨h.ok, h.bk.same e⟩
theorem PaW.kept {S : Nat → Prop} (h : PaW w b P) (k : Kept S w w') (hb : ¬ S b) : PaW w' b P := ⟨h.ok, h.bk.kept k hb⟩
theorem PaW.below (h : PaW w b P) (k : Below w.heap.size w w') : PaW w' b P := ⟨h.ok, h.bk.below k⟩
theorem PaW.drewN (h : PaW w b P) (q : Nat) : PaW (w.drewN q) b P := h.same rfl
theorem PaW.c0 (h : PaW w b P) : w.cell? ⟨b, 0, none⟩ = some (.int .i64 P.n) := by rw [h.bk.cell, pcells_at P (by omega), pcell_n]
theorem PaW.cs (h : PaW w b P) {i : Nat} (hi : i < 256) : w.cell? ⟨b, 1 + i, none⟩ = some (.int .i64 (P.c i)) := by rw [h.bk.cell, pcells_at P (by omega), pcell_c]
theorem PaW.fz (h : PaW w b P) (i : Nat) : w.frozen? ⟨b, i, none⟩ = false := h.bk.frozen i
theorem PaW.put (h : PaW w b P) {k v : Nat} (hk : k < P.n) (hv : v ≤ 2) : PaW (w.setCell ⟨b, 1 + k, none⟩ (.int .i64 v)) b (P.set k v) :=
  ⟨h.ok.set hk hv, by have := h.bk.put (1 + k) (.int .i64 v); rwa [pcells_put] at this⟩
end
/-- A paint that New or Copy did not make: nil, or the zero one. -/
def Inv (w : World) (v : Option Addr) : Prop := v = none ∨ ∃ b, v = some ⟨b, 0, none⟩ ∧ Bk w b 42 (pcells zeroP)
theorem Inv.below {w w' : World} {v : Option Addr} (h : Inv w v) (hb : Below w.heap.size w w') : Inv w' v := by
  rcases h with rfl | ⟨b, rfl, h⟩
  · exact .inl rfl
  · exact .inr ⟨b, rfl, h.below hb⟩
end Go.Proofs.Ythcpmcdgojgdlaa
