/- Words for memory: a block that is known whole; what a call may turn; a set of bits (its struct's block b, its words' block g, its size n, its numbers f); the document's set. -/
import Derived.Test.YtaenemdclmnnaaaDoorBm
import Derived.Test.YtaenemdclmnnaaaDoorRows
import Derived.WalkKit
import Derived.WalkSpells
import Derived.WalkLawsBesides
import Derived.Lib.Hide
import Derived.Lib.SliceRun
import Derived.Laws.Bits64b
import Derived.Laws.ShiftsVar
import Derived.Laws.Rows
import Derived.Deep.QuietTactic
import Derived.BigQuiet
import Derived.BigFrame
namespace Go.Proofs.YtaenemdclmnnaaaDoor
open Go.RowKit

def Bk (w : World) (g : Nat) (t : TypeId) (cs : Array Value) : Prop := w.heap[g]? = some (.cells cs t (0, 0))
section
variable {w w' : World} {g : Nat} {t : TypeId} {cs : Array Value}
theorem Bk.lt (h : Bk w g t cs) : g < w.heap.size := (Array.getElem?_eq_some_iff.1 h).1
theorem Bk.cell (h : Bk w g t cs) (i : Nat) : w.cell? ⟨g, i, none⟩ = cs[i]? := cell_of_row w g i cs t (0, 0) h
theorem Bk.frozen (h : Bk w g t cs) (i : Nat) : w.frozen? ⟨g, i, none⟩ = false := by
  unfold Bk at h
  simp [World.frozen?, h]
theorem Bk.new (w : World) (t : TypeId) (cs : Array Value) : Bk (w.alloc (.cells cs t)) w.heap.size t cs := by
  unfold Bk World.alloc; simp
theorem Bk.same (h : Bk w g t cs) (e : w'.heap[g]? = w.heap[g]?) : Bk w' g t cs := e.trans h
theorem Bk.put (h : Bk w g t cs) (i : Nat) (u : Value) : Bk (w.setCell ⟨g, i, none⟩ u) g t (cs.setIfInBounds i u) := by
  unfold Bk at h ⊢
  simp [World.setCell, Array.getElem?_modify, h]
theorem Bk.uniq {t' : TypeId} {cs' : Array Value} (h : Bk w g t cs) (h' : Bk w g t' cs') : t = t' ∧ cs = cs' := by
  unfold Bk at h h'
  rw [h] at h'
  injection h' with h'
  injection h' with h1 h2
  exact ⟨h2, h1⟩
end

/-- Of the blocks that were there w' has turned those alone that S names. -/
structure Kept (S : Nat → Prop) (w w' : World) : Prop where
  os : w'.os = w.os
  tape : w'.tape = w.tape
  output : w'.output = w.output
  size : w.heap.size ≤ w'.heap.size
  block : ∀ k, k < w.heap.size → ¬ S k → w'.heap[k]? = w.heap[k]?
section
variable {S T : Nat → Prop} {a b c w : World}
theorem Kept.refl (S : Nat → Prop) (w : World) : Kept S w w := ⟨rfl, rfl, rfl, Nat.le_refl _, fun _ _ _ => rfl⟩
theorem Kept.trans (h : Kept S a b) (k : Kept S b c) : Kept S a c :=
  ⟨k.os.trans h.os, k.tape.trans h.tape, k.output.trans h.output, Nat.le_trans h.size k.size, fun i hi hs => (k.block i (Nat.lt_of_lt_of_le hi h.size) hs).trans (h.block i hi hs)⟩
theorem Kept.mono (h : Kept S a b) (e : ∀ k, k < a.heap.size → S k → T k) : Kept T a b := ⟨h.os, h.tape, h.output, h.size, fun k hk hs => h.block k hk fun x => hs (e k hk x)⟩
theorem Kept.drewN (h : Kept S a w) (n : Nat) : Kept S a (w.drewN n) := ⟨h.os, h.tape, h.output, h.size, h.block⟩
theorem Kept.drew (h : Kept S a w) : Kept S a w.drew := ⟨h.os, h.tape, h.output, h.size, h.block⟩
theorem Kept.alloc (h : Kept S a w) (o : Obj) : Kept S a (w.alloc o) :=
  h.trans ⟨rfl, rfl, rfl, by simp, fun k hk _ => Below.heap_alloc _ _ _ hk⟩
theorem Kept.put (h : Kept S a w) {p : Addr} (hp : a.heap.size ≤ p.block ∨ S p.block) (u : Value) : Kept S a (w.setCell p u) :=
  ⟨h.os, h.tape, h.output, by simp; exact h.size, fun k hk hs => (Below.heap_setCell _ _ _ _ (by rcases hp with hp | hp; omega; rintro rfl; exact hs hp)).trans (h.block k hk hs)⟩
theorem Kept.below (h : Kept S a b) {B : Nat} (hB : B ≤ a.heap.size) (hs : ∀ k, S k → B ≤ k) : Below B a b :=
  ⟨h.os, h.tape, h.output, h.size, fun k hk => h.block k (by omega) fun x => by have := hs k x; omega⟩
theorem Kept.of_below (h : Below a.heap.size a b) : Kept S a b := ⟨h.os, h.tape, h.output, h.size, fun k hk _ => h.block k hk⟩
theorem Bk.kept {g : Nat} {t : TypeId} {cs : Array Value} (h : Bk a g t cs) (k : Kept S a b) (hg : ¬ S g) : Bk b g t cs := (k.block g h.lt hg).trans h
theorem Bk.below {g : Nat} {t : TypeId} {cs : Array Value} (h : Bk a g t cs) (k : Below a.heap.size a b) : Bk b g t cs := (k.block g h.lt).trans h
end
theorem bel2 {w a b : World} (h : Below w.heap.size w a) (k : Below a.heap.size a b) : Below w.heap.size w b := h.trans (k.mono h.size)
theorem bel_drewN {B : Nat} {a w : World} (h : Below B a w) (n : Nat) : Below B a (w.drewN n) := ⟨h.os, h.tape, h.output, h.size, h.block⟩

/-! ### a set of bits -/
def nw (n : Nat) : Nat := (n - 1) / 64 + 1
theorem nw_lt {n k : Nat} (h : k < n) : k / 64 < nw n := by unfold nw; omega
theorem nw_le {n : Nat} (h : n ≤ 4096) : nw n ≤ 64 := by unfold nw; omega
theorem nw_ge (n : Nat) : n ≤ 64 * nw n := by unfold nw; omega

structure SetW (w : World) (b g n : Nat) (f : Nat → Bool) : Prop where
  lo : 1 ≤ n
  hi : n ≤ 4096
  out : ∀ k, n ≤ k → f k = false
  at_ : ∃ (cap : Nat) (cur : Array Value), Bk w b 42 #[.int .i64 n, .slice (some ⟨g, 0, none⟩) (nw n) cap] ∧ Bk w g 62 cur ∧ cur.size = cap ∧ nw n ≤ cap ∧ cap ≤ maxLen ∧ ∀ i, i < nw n → cur[i]? = some (.int .u64 (word f i))
section
variable {w w' : World} {b g n : Nat} {f f' : Nat → Bool}
theorem SetW.bt (h : SetW w b g n f) : b < w.heap.size := by obtain ⟨_, _, h1, _⟩ := h.at_; exact h1.lt
theorem SetW.gt (h : SetW w b g n f) : g < w.heap.size := by obtain ⟨_, _, _, h1, _⟩ := h.at_; exact h1.lt
theorem SetW.ne (h : SetW w b g n f) : b ≠ g := by
  obtain ⟨_, _, h1, h2, _⟩ := h.at_
  rintro rfl
  exact absurd (h1.uniq h2).1 (by decide)
theorem SetW.same (h : SetW w b g n f) (e1 : w'.heap[b]? = w.heap[b]?) (e2 : w'.heap[g]? = w.heap[g]?) : SetW w' b g n f :=
  ⟨h.lo, h.hi, h.out, by obtain ⟨cap, cur, h1, h2, hr⟩ := h.at_; exact ⟨cap, cur, h1.same e1, h2.same e2, hr⟩⟩
theorem SetW.kept {S : Nat → Prop} (h : SetW w b g n f) (k : Kept S w w') (hb : ¬ S b) (hg : ¬ S g) : SetW w' b g n f := h.same (k.block b h.bt hb) (k.block g h.gt hg)
theorem SetW.below (h : SetW w b g n f) (k : Below w.heap.size w w') : SetW w' b g n f := h.same (k.block b h.bt) (k.block g h.gt)
theorem SetW.drewN (h : SetW w b g n f) (q : Nat) : SetW (w.drewN q) b g n f := h.same rfl rfl
theorem SetW.c0 (h : SetW w b g n f) : w.cell? ⟨b, 0, none⟩ = some (.int .i64 n) := by obtain ⟨_, _, h1, _⟩ := h.at_; exact h1.cell 0
theorem SetW.c1 (h : SetW w b g n f) : ∃ cap, w.cell? ⟨b, 1, none⟩ = some (.slice (some ⟨g, 0, none⟩) (nw n) cap) ∧ nw n ≤ cap ∧ cap ≤ maxLen := by obtain ⟨cap, _, h1, _, _, h2, h3, _⟩ := h.at_; exact ⟨cap, h1.cell 1, h2, h3⟩
theorem SetW.word (h : SetW w b g n f) {i : Nat} (hi : i < nw n) : w.cell? ⟨g, i, none⟩ = some (.int .u64 (word f i)) := by obtain ⟨_, cur, _, h1, _, _, _, h2⟩ := h.at_; rw [h1.cell]; exact h2 i hi
theorem SetW.fz (h : SetW w b g n f) (i : Nat) : w.frozen? ⟨g, i, none⟩ = false := by obtain ⟨_, cur, _, h1, _⟩ := h.at_; exact h1.frozen i
theorem SetW.congr (h : SetW w b g n f) (e : ∀ k, f k = f' k) : SetW w b g n f' := by have : f = f' := funext e; exact this ▸ h
/-- One word is stored. -/
theorem SetW.put (h : SetW w b g n f) {j : Nat} (ho : ∀ k, n ≤ k → f' k = false) (hf : ∀ k, k / 64 ≠ j → f' k = f k) {u : Value} (hu : u = .int .u64 (Go.Proofs.YtaenemdclmnnaaaDoor.word f' j)) : SetW (w.setCell ⟨g, j, none⟩ u) b g n f' := by
  have hne := h.ne
  obtain ⟨cap, cur, h1, h2, h3, h4, h5, h6⟩ := h.at_
  refine ⟨h.lo, h.hi, ho, cap, cur.setIfInBounds j u, h1.same (Below.heap_setCell _ _ _ _ hne), h2.put j u, by simpa using h3, h4, h5, fun i hi => ?_⟩
  rw [Array.getElem?_setIfInBounds]
  by_cases e : j = i
  · subst e; rw [if_pos rfl, if_pos (by omega), hu]
  · rw [if_neg e, h6 i hi, word_congr]
    intro q hq
    exact (hf _ (by omega)).symm
end

/-! ### the document's set -/
def bools (f : Nat → Bool) (n : Nat) : List Value := (List.range n).map fun i => .bool (f i)
structure RefW (w : World) (b g n : Nat) (f : Nat → Bool) : Prop where
  lo : 1 ≤ n
  hi : n ≤ 4096
  out : ∀ k, n ≤ k → f k = false
  at_ : ∃ (cap : Nat) (cur : Array Value), Bk w b 66 #[.slice (some ⟨g, 0, none⟩) n cap] ∧ Bk w g 4 cur ∧ cur.size = cap ∧ n ≤ cap ∧ cap ≤ maxLen ∧ ∀ i, i < n → cur[i]? = some (.bool (f i))
section
variable {w w' : World} {b g n : Nat} {f f' : Nat → Bool}
theorem RefW.bt (h : RefW w b g n f) : b < w.heap.size := by obtain ⟨_, _, h1, _⟩ := h.at_; exact h1.lt
theorem RefW.gt (h : RefW w b g n f) : g < w.heap.size := by obtain ⟨_, _, _, h1, _⟩ := h.at_; exact h1.lt
theorem RefW.ne (h : RefW w b g n f) : b ≠ g := by
  obtain ⟨_, _, h1, h2, _⟩ := h.at_
  rintro rfl
  exact absurd (h1.uniq h2).1 (by decide)
theorem RefW.same (h : RefW w b g n f) (e1 : w'.heap[b]? = w.heap[b]?) (e2 : w'.heap[g]? = w.heap[g]?) : RefW w' b g n f :=
  ⟨h.lo, h.hi, h.out, by obtain ⟨cap, cur, h1, h2, hr⟩ := h.at_; exact ⟨cap, cur, h1.same e1, h2.same e2, hr⟩⟩
theorem RefW.kept {S : Nat → Prop} (h : RefW w b g n f) (k : Kept S w w') (hb : ¬ S b) (hg : ¬ S g) : RefW w' b g n f := h.same (k.block b h.bt hb) (k.block g h.gt hg)
theorem RefW.below (h : RefW w b g n f) (k : Below w.heap.size w w') : RefW w' b g n f := h.same (k.block b h.bt) (k.block g h.gt)
theorem RefW.drewN (h : RefW w b g n f) (q : Nat) : RefW (w.drewN q) b g n f := h.same rfl rfl
theorem RefW.c0 (h : RefW w b g n f) : ∃ cap, w.cell? ⟨b, 0, none⟩ = some (.slice (some ⟨g, 0, none⟩) n cap) ∧ n ≤ cap ∧ cap ≤ maxLen := by obtain ⟨cap, _, h1, _, _, h2, h3, _⟩ := h.at_; exact ⟨cap, h1.cell 0, h2, h3⟩
theorem RefW.val (h : RefW w b g n f) {i : Nat} (hi : i < n) : w.cell? ⟨g, i, none⟩ = some (.bool (f i)) := by obtain ⟨_, cur, _, h1, _, _, _, h2⟩ := h.at_; rw [h1.cell]; exact h2 i hi
theorem RefW.fz (h : RefW w b g n f) (i : Nat) : w.frozen? ⟨g, i, none⟩ = false := by obtain ⟨_, cur, _, h1, _⟩ := h.at_; exact h1.frozen i
theorem RefW.congr (h : RefW w b g n f) (e : ∀ k, f k = f' k) : RefW w b g n f' := by have : f = f' := funext e; exact this ▸ h
theorem RefW.put (h : RefW w b g n f) {j : Nat} (hj : j < n) (v : Bool) : RefW (w.setCell ⟨g, j, none⟩ (.bool v)) b g n (upd f j v) := by
  have hne := h.ne
  obtain ⟨cap, cur, h1, h2, h3, h4, h5, h6⟩ := h.at_
  refine ⟨h.lo, h.hi, fun k hk => by rw [upd_other (by omega)]; exact h.out k hk, cap, cur.setIfInBounds j (.bool v), h1.same (Below.heap_setCell _ _ _ _ hne), h2.put j _, by simpa using h3, h4, h5, fun i hi => ?_⟩
  rw [Array.getElem?_setIfInBounds]
  by_cases e : j = i
  · subst e; rw [if_pos rfl, if_pos (by omega), upd_same]
  · rw [if_neg e, h6 i hi, upd_other (fun x => e x.symm)]
end
end Go.Proofs.YtaenemdclmnnaaaDoor
