/- Words for memory: a block that is known whole; what a call may turn; a slice that reads as a list of ints; a source (its struct's block b, its answers L). -/
import Derived.Test.YtpgokoeedmipeaaDoorAm
import Derived.WalkKit
import Derived.WalkSpells
import Derived.WalkLawsBesides
import Derived.Lib.Hide
import Derived.Lib.SliceRun
import Derived.Laws.Rows
import Derived.Laws.AppendOwn
import Derived.Laws.AppendOwnNone
import Derived.Maps.AppendAt
import Derived.Deep.AppendLies
import Derived.Deep.QuietTactic
import Derived.BigQuiet
import Derived.BigFrame
namespace Go.Proofs.YtpgokoeedmipeaaDoor
open Go.RowKit

def Bk (w : World) (g : Nat) (t : TypeId) (cs : Array Value) : Prop := w.heap[g]? = some (.cells cs t (0, 0))
section
variable {w w' : World} {g : Nat} {t : TypeId} {cs : Array Value}
theorem Bk.lt (h : Bk w g t cs) : g < w.heap.size := (Array.getElem?_eq_some_iff.1 h).1
theorem Bk.cell (h : Bk w g t cs) (i : Nat) : w.cell? ⟨g, i, none⟩ = cs[i]? := cell_of_row w g i cs t (0, 0) h
theorem Bk.frozen (h : Bk w g t cs) (i : Nat) : w.frozen? ⟨g, i, none⟩ = false := by
  unfold Bk at h
  simp [World.frozen?, h]
theorem Bk.new (w : World) (t : TypeId) (cs : Array Value) : Bk (w.alloc (.cells cs t)) w.heap.size t cs := by
  unfold Bk World.alloc; simp
theorem Bk.same (h : Bk w g t cs) (e : w'.heap[g]? = w.heap[g]?) : Bk w' g t cs := e.trans h
theorem Bk.put (h : Bk w g t cs) (i : Nat) (u : Value) : Bk (w.setCell ⟨g, i, none⟩ u) g t (cs.setIfInBounds i u) := by
  unfold Bk at h ⊢
  simp [World.setCell, Array.getElem?_modify, h]
theorem Bk.uniq {t' : TypeId} {cs' : Array Value} (h : Bk w g t cs) (h' : Bk w g t' cs') : t = t' ∧ cs = cs' := by
  unfold Bk at h h'
  rw [h] at h'
  injection h' with h'
  injection h' with h1 h2
  exact ⟨h2, h1⟩
end

/-- Of the blocks that were there w' has turned those alone that S names. -/
structure Kept (S : Nat → Prop) (w w' : World) : Prop where
  os : w'.os = w.os
  tape : w'.tape = w.tape
  output : w'.output = w.output
  size : w.heap.size ≤ w'.heap.size
  block : ∀ k, k < w.heap.size → ¬ S k → w'.heap[k]? = w.heap[k]?
section
variable {S T : Nat → Prop} {a b c w : World}
theorem Kept.refl (S : Nat → Prop) (w : World) : Kept S w w := ⟨rfl, rfl, rfl, Nat.le_refl _, fun _ _ _ => rfl⟩
theorem Kept.trans (h : Kept S a b) (k : Kept S b c) : Kept S a c :=
  ⟨k.os.trans h.os, k.tape.trans h.tape, k.output.trans h.output, Nat.le_trans h.size k.size, fun i hi hs => (k.block i (Nat.lt_of_lt_of_le hi h.size) hs).trans (h.block i hi hs)⟩
theorem Kept.mono (h : Kept S a b) (e : ∀ k, k < a.heap.size → S k → T k) : Kept T a b := ⟨h.os, h.tape, h.output, h.size, fun k hk hs => h.block k hk fun x => hs (e k hk x)⟩
theorem Kept.drewN (h : Kept S a w) (n : Nat) : Kept S a (w.drewN n) := ⟨h.os, h.tape, h.output, h.size, h.block⟩
theorem Kept.drew (h : Kept S a w) : Kept S a w.drew := ⟨h.os, h.tape, h.output, h.size, h.block⟩
theorem Kept.alloc (h : Kept S a w) (o : Obj) : Kept S a (w.alloc o) :=
  h.trans ⟨rfl, rfl, rfl, by simp, fun k hk _ => Below.heap_alloc _ _ _ hk⟩
theorem Kept.put (h : Kept S a w) {p : Addr} (hp : a.heap.size ≤ p.block ∨ S p.block) (u : Value) : Kept S a (w.setCell p u) :=
  ⟨h.os, h.tape, h.output, by simp; exact h.size, fun k hk hs => (Below.heap_setCell _ _ _ _ (by rcases hp with hp | hp; omega; rintro rfl; exact hs hp)).trans (h.block k hk hs)⟩
theorem Kept.below (h : Kept S a b) {B : Nat} (hB : B ≤ a.heap.size) (hs : ∀ k, S k → B ≤ k) : Below B a b :=
  ⟨h.os, h.tape, h.output, h.size, fun k hk => h.block k (by omega) fun x => by have := hs k x; omega⟩
theorem Kept.of_below (h : Below a.heap.size a b) : Kept S a b := ⟨h.os, h.tape, h.output, h.size, fun k hk _ => h.block k hk⟩
theorem Bk.kept {g : Nat} {t : TypeId} {cs : Array Value} (h : Bk a g t cs) (k : Kept S a b) (hg : ¬ S g) : Bk b g t cs := (k.block g h.lt hg).trans h
theorem Bk.below {g : Nat} {t : TypeId} {cs : Array Value} (h : Bk a g t cs) (k : Below a.heap.size a b) : Bk b g t cs := (k.block g h.lt).trans h
end

theorem Kept.put1 {g : Nat} {a w : World} (h : Kept (· = g) a w) (i : Nat) (u : Value) : Kept (· = g) a (w.setCell ⟨g, i, none⟩ u) := h.put (p := ⟨g, i, none⟩) (.inr rfl) u

theorem bel2 {w a b : World} (h : Below w.heap.size w a) (k : Below a.heap.size a b) : Below w.heap.size w b := h.trans (k.mono h.size)
theorem bel_drewN {B : Nat} {a w : World} (h : Below B a w) (n : Nat) : Below B a (w.drewN n) := ⟨h.os, h.tape, h.output, h.size, h.block⟩
theorem bel_drew {B : Nat} {a w : World} (h : Below B a w) : Below B a w.drew := ⟨h.os, h.tape, h.output, h.size, h.block⟩

/-! ### slices of ints -/
def ints (l : List Int) : List Value := l.map (.int .i64 ·)
theorem ints_length (l : List Int) : (ints l).length = l.length := by simp [ints]
theorem ints_append (l m : List Int) : ints (l ++ m) = ints l ++ ints m := by simp [ints]
theorem ints_at {l : List Int} {j : Nat} {x : Int} (h : l[j]? = some x) : (ints l)[j]? = some (.int .i64 x) := by simp [ints, h]
theorem ints_one (l : List Int) : ∀ u ∈ ints l, u.oneCell' = true := by
  intro u hu
  obtain ⟨x, _, rfl⟩ := List.mem_map.1 hu
  rfl

/-- The slice value v reads as the ints l. -/
def Sl (w : World) (v : Value) (l : List Int) : Prop :=
  ∃ a c, v = .slice a l.length c ∧ l.length ≤ c ∧ c ≤ maxLen ∧ (a = none → c = 0) ∧ ∀ b, a = some b → ∃ g off cur, b = ⟨g, off, none⟩ ∧ Bk w g 3 cur ∧ ∀ j x, l[j]? = some x → cur[off + j]? = some (.int .i64 x)
theorem Sl.same {w w' : World} {v : Value} {l : List Int} (h : Sl w v l) (e : ∀ g cur, Bk w g 3 cur → w'.heap[g]? = w.heap[g]?) : Sl w' v l := by
  obtain ⟨a, c, e1, h1, h2, h3, h4⟩ := h
  refine ⟨a, c, e1, h1, h2, h3, fun b hb => ?_⟩
  obtain ⟨g, off, cur, e2, hg, hc⟩ := h4 b hb
  exact ⟨g, off, cur, e2, hg.same (e g cur hg), hc⟩
theorem Sl.below {w w' : World} {v : Value} {l : List Int} (h : Sl w v l) (hb : Below w.heap.size w w') : Sl w' v l := h.same fun g _ hg => hb.block g hg.lt
theorem Sl.drewN {w : World} {v : Value} {l : List Int} (h : Sl w v l) (q : Nat) : Sl (w.drewN q) v l := h.same fun _ _ _ => rfl
theorem Sl.drew {w : World} {v : Value} {l : List Int} (h : Sl w v l) : Sl w.drew v l := h.same fun _ _ _ => rfl
theorem Sl.kept {S : Nat → Prop} {w w' : World} {v : Value} {l : List Int} (h : Sl w v l) (k : Kept S w w') (hs : ∀ g cur, Bk w g 3 cur → ¬ S g) : Sl w' v l := h.same fun g cur hg => k.block g hg.lt (hs g cur hg)
theorem Sl.nil (w : World) : Sl w (.slice none 0 0) [] := ⟨none, 0, rfl, Nat.le_refl _, Nat.zero_le _, fun _ => rfl, fun _ h => by cases h⟩
theorem Sl.of_own {w : World} {b : Nat} {v : Value} {l : List Int} (h : w.ownsRow b 3 1 v l.length (ints l)) : Sl w v l := by
  rcases h.2 with ⟨rfl, h0⟩ | ⟨g, cap, cur, rfl, h1, h2, h3, h4, h5, h6⟩
  · have : l = [] := List.eq_nil_of_length_eq_zero h0
    subst this
    exact Sl.nil w
  · refine ⟨_, cap, rfl, h3, h4, fun e => (by cases e), fun b' e => ⟨g, 0, cur, (Option.some.inj e).symm, h2, fun j x hj => ?_⟩⟩
    have hjl : j < l.length := (List.getElem?_eq_some_iff.1 hj).1
    have := ints_at hj
    rw [← h6, List.getElem?_take_of_lt (by omega), Array.getElem?_toList] at this
    rw [Nat.zero_add]; exact this
theorem Sl.len {w : World} {v : Value} {l : List Int} (h : Sl w v l) : ∃ a c, v = .slice a l.length c ∧ Sl w (.slice a l.length c) l := by
  obtain ⟨a, c, e, h'⟩ := id h
  subst e
  exact ⟨a, c, rfl, h⟩
theorem Sl.cell {w : World} {a : Option Addr} {n c : Nat} {l : List Int} (h : Sl w (.slice a n c) l) {j : Nat} (hj : j < l.length) : ∃ g off, a = some ⟨g, off, none⟩ ∧ g < w.heap.size ∧ w.cell? ⟨g, off + j, none⟩ = some (.int .i64 l[j]) ∧ w.frozen? ⟨g, off + j, none⟩ = false := by
  obtain ⟨a', c', e, h1, h2, h3, h4⟩ := h
  injection e with e1 e2 e3
  subst e1 e2 e3
  cases a with
  | none => have := h3 rfl; omega
  | some b =>
    obtain ⟨g, off, cur, rfl, hg, hc⟩ := h4 b rfl
    exact ⟨g, off, rfl, hg.lt, by rw [hg.cell]; exact hc j _ (List.getElem?_eq_getElem hj), hg.frozen _⟩
theorem Sl.cap {w : World} {a : Option Addr} {n c : Nat} {l : List Int} (h : Sl w (.slice a n c) l) : n = l.length ∧ l.length ≤ c ∧ c ≤ maxLen ∧ (a = none → c = 0) := by
  obtain ⟨a', c', e, h1, h2, h3, h4⟩ := h
  injection e with e1 e2 e3
  subst e1 e2 e3
  exact ⟨rfl, h1, h2, h3⟩
theorem own_below {w w' : World} {base n s : Nat} {e : TypeId} {v : Value} {xs : List Value} (h : w.ownsRow base e s v n xs) (k : Below w.heap.size w w') : w'.ownsRow base e s v n xs := by
  refine ⟨h.1, ?_⟩
  rcases h.2 with h | ⟨g, cap, cur, h1, h2, h3, h4⟩
  · exact .inl h
  · exact .inr ⟨g, cap, cur, h1, h2, (Bk.below (show Bk w g e cur from h3) k), h4⟩
theorem own_lower {w : World} {a b : Nat} {e : TypeId} {s : Nat} {v : Value} {n : Nat} {xs : List Value} (h : w.ownsRow a e s v n xs) (hb : b ≤ a) : w.ownsRow b e s v n xs := by
  refine ⟨h.1, ?_⟩
  rcases h.2 with h | ⟨g, cap, cur, h1, h2, h3⟩
  · exact .inl h
  · exact .inr ⟨g, cap, cur, h1, by omega, h3⟩
/-- The tail of a slice that is not empty. -/
theorem Sl.tail {w : World} {g off c : Nat} {n : Nat} {l : List Int} (h : Sl w (.slice (some ⟨g, off, none⟩) (n + 1) c) l) : Sl w (.slice (some ⟨g, off + 1, none⟩) n (c - 1)) l.tail := by
  obtain ⟨a', c', e, h1, h2, h3, h4⟩ := h
  injection e with e1 e2 e3
  subst e1 e3
  obtain ⟨g', off', cur, e4, hg, hc⟩ := h4 _ rfl
  injection e4 with e5 e6
  subst e5 e6
  refine ⟨_, _, by rw [List.length_tail, ← e2]; rfl, by rw [List.length_tail]; omega, by omega, fun e => (by cases e), fun b' e => ⟨g, off + 1, cur, (Option.some.inj e).symm, hg, fun j x hj => ?_⟩⟩
  have : l[j + 1]? = some x := by rw [← hj]; simp [← List.drop_one, List.getElem?_drop, Nat.add_comm]
  have := hc (j + 1) x this
  rw [← this]; congr 1; omega
/-- The tail of a slice of one element that has no room behind it. -/
theorem Sl.tail0 {w : World} {g off n c : Nat} {l : List Int} (h : Sl w (.slice (some ⟨g, off, none⟩) n c) l) : Sl w (.slice (some ⟨g, off, none⟩) 0 0) [] := by
  obtain ⟨a', c', e, h1, h2, h3, h4⟩ := h
  injection e with e1 e2 e3
  subst e1
  obtain ⟨g', off', cur, e4, hg, hc⟩ := h4 _ rfl
  exact ⟨_, 0, rfl, Nat.le_refl _, Nat.zero_le _, fun _ => rfl, fun b' e => ⟨g', off', cur, by rw [← Option.some.inj e, e4], hg, fun j x hj => by simp at hj⟩⟩
/-- The first k elements of a slice. -/
theorem Sl.take {w : World} {a : Option Addr} {n c k : Nat} {l : List Int} (h : Sl w (.slice a n c) l) (hk : k ≤ n) : Sl w (.slice a k c) (l.take k) := by
  obtain ⟨hn, h1, h2, h3⟩ := h.cap
  obtain ⟨a', c', e, _, _, _, h4⟩ := h
  injection e with e1 e2 e3
  subst e1 e3
  refine ⟨_, _, by rw [List.length_take, Nat.min_eq_left (by omega)], by rw [List.length_take]; omega, h2, h3, fun b hb => ?_⟩
  obtain ⟨g, off, cur, e4, hg, hc⟩ := h4 b hb
  refine ⟨g, off, cur, e4, hg, fun j x hj => hc j x ?_⟩
  rw [List.getElem?_take] at hj
  split at hj
  · exact hj
  · cases hj

theorem info_int : (Tryd.prog.info? 3).map (fun i => (i.zero, i.size, i.bytes)) = some (some (.int .i64 0), 1, 8) := by kernel_rfl
/-- append(s, x...): s a slice of one's own, x any slice that reads as m. -/
theorem wpList_append_sl {w : World} {ops : Array Oper} {rest : List Oper} {o : Oper} {a : Act} {Q : Exit → Act → World → Prop} (hgd : o.guard = none) (s x : Operand)
    (ho : o.op = .call { callee := .builtin .append, args := #[s, x], argTypes := #[29, 29] })
    (base : Nat) (v : Value) (n : Nat) (xs : List Value) (hs : a.eval s = v) (hown : w.ownsRow base 3 1 v n xs)
    (vx : Value) (m : List Int) (hx : a.eval x = vx) (hm : Sl w vx m) (h63 : n + m.length ≤ 1000000) (hbase : base ≤ w.heap.size)
    (h : ∀ v' w', w'.ownsRow base 3 1 v' (n + m.length) (xs ++ ints m) → w.grownBy w' v.ownBlock → wpList Tryd.prog ops Q rest (a.put o.dst v') w') : wpList Tryd.prog ops Q (o :: rest) a w := by
  obtain ⟨i0, hi, hz0, hz1, hz2⟩ := info_parts info_int
  obtain ⟨a0, c, rfl, h1, h2, h3, h4⟩ := hm
  cases a0 with
  | none =>
    have hc0 := h3 rfl
    subst hc0
    have : m = [] := List.eq_nil_of_length_eq_zero (by omega)
    subst this
    exact wpList_append_own_none hgd s x 29 ho base 3 i0 1 Tryd.underlying29 hi v n xs hs hown hx (h v w (by simpa [ints] using hown) (World.grownBy.refl w _))
  | some b =>
    obtain ⟨g, off, cur, rfl, hg, hc⟩ := h4 b rfl
    refine wpList_append_own _ hgd s x 29 ho base 3 i0 (.int .i64 0) 1 8 Tryd.underlying29 hi hz0 hz1 hz2 rfl (by decide) v n xs hs hown ⟨g, off, none⟩ m.length c (ints m) hx (by simp [ints]) (fun j u hj => ?_) (ints_one m) (by unfold maxLen; omega) (by omega) hbase (fun v' w' h5 h6 _ => h v' w' h5 h6)
    have hjl : j < m.length := by have := (List.getElem?_eq_some_iff.1 hj).1; simpa [ints] using this
    have e : (⟨g, off, none⟩ : Addr).add j = ⟨g, off + j, none⟩ := by unfold Addr.add; split <;> simp_all
    rw [e, hg.cell, hc j m[j] (List.getElem?_eq_getElem hjl)]
    rw [← hj, ints_at (List.getElem?_eq_getElem hjl)]

/-! ### sources -/
/-- A source of type t: its struct lies in block b, its answers are L. -/
structure SrcW (t : TypeId) (w : World) (b : Nat) (L : List Int) : Prop where
  ok : Src L
  at_ : ∃ a c, Bk w b t #[.bool true, .slice a L.length c] ∧ Sl w (.slice a L.length c) L
section
variable {t t' : TypeId} {w w' : World} {b b' : Nat} {L L' : List Int}
theorem SrcW.lt (h : SrcW t w b L) : b < w.heap.size := by obtain ⟨_, _, h1, _⟩ := h.at_; exact h1.lt
theorem SrcW.below (h : SrcW t w b L) (k : Below w.heap.size w w') : SrcW t w' b L := ⟨h.ok, by obtain ⟨a, c, h1, h2⟩ := h.at_; exact ⟨a, c, h1.below k, h2.below k⟩⟩
theorem SrcW.drewN (h : SrcW t w b L) (q : Nat) : SrcW t (w.drewN q) b L := ⟨h.ok, by obtain ⟨a, c, h1, h2⟩ := h.at_; exact ⟨a, c, h1.same rfl, h2.drewN q⟩⟩
theorem SrcW.drew (h : SrcW t w b L) : SrcW t w.drew b L := ⟨h.ok, by obtain ⟨a, c, h1, h2⟩ := h.at_; exact ⟨a, c, h1.same rfl, h2.drew⟩⟩
theorem SrcW.kept {S : Nat → Prop} (h : SrcW t w b L) (k : Kept S w w') (hb : ¬ S b) (hs : ∀ g cur, Bk w g 3 cur → ¬ S g) : SrcW t w' b L := ⟨h.ok, by obtain ⟨a, c, h1, h2⟩ := h.at_; exact ⟨a, c, h1.kept k hb, h2.kept k hs⟩⟩
/-- Another source is turned. -/
theorem SrcW.other (h : SrcW t w b L) (h2 : SrcW t' w b' L') (k : Kept (· = b') w w') (hn : b ≠ b') (ht : 3 ≠ t') : SrcW t w' b L :=
  h.kept k hn fun g cur hg e => by
    subst e
    obtain ⟨_, _, h1, _⟩ := h2.at_
    exact ht (hg.uniq h1).1
theorem Sl.other {v : Value} {l : List Int} (h : Sl w v l) (h2 : SrcW t' w b' L') (k : Kept (· = b') w w') (ht : 3 ≠ t') : Sl w' v l :=
  h.kept k fun g cur hg e => by
    subst e
    obtain ⟨_, _, h1, _⟩ := h2.at_
    exact ht (hg.uniq h1).1
theorem SrcW.ne (h : SrcW t w b L) (h2 : SrcW t' w b' L') (ht : t ≠ t') : b ≠ b' := by
  rintro rfl
  obtain ⟨_, _, h1, _⟩ := h.at_
  obtain ⟨_, _, h3, _⟩ := h2.at_
  exact ht (h1.uniq h3).1
/-- Its cells. -/
theorem SrcW.cells (h : SrcW t w b L) : ∃ a c, w.cell? ⟨b, 0, none⟩ = some (.bool true) ∧ w.cell? ⟨b, 1, none⟩ = some (.slice a L.length c) ∧ w.frozen? ⟨b, 1, none⟩ = false ∧ Sl w (.slice a L.length c) L ∧ Bk w b t #[.bool true, .slice a L.length c] := by
  obtain ⟨a, c, h1, h2⟩ := h.at_
  exact ⟨a, c, h1.cell 0, h1.cell 1, h1.frozen 1, h2, h1⟩
/-- Its answers are stored anew. -/
theorem SrcW.put {a : Option Addr} {n c : Nat} {u : Value} (h : Bk w b t #[.bool true, u]) (hL : Src L') (hs : Sl w (.slice a n c) L') (ht : 3 ≠ t) : SrcW t (w.setCell ⟨b, 1, none⟩ (.slice a n c)) b L' := by
  refine ⟨hL, a, c, ?_, ?_⟩
  · have := h.put 1 (.slice a n c)
    rw [← hs.cap.1]
    simpa using this
  · have e := hs.cap.1
    subst e
    exact hs.same fun g cur hg => Below.heap_setCell _ _ _ _ fun e => ht (by have e' : g = b := e; subst e'; exact (hg.uniq h).1)
end
/-- A source that New or Copy did not make: nil, or the zero one. -/
def Inv (w : World) (v : Option Addr) : Prop := v = none ∨ ∃ b, v = some ⟨b, 0, none⟩ ∧ Bk w b 39 #[.bool false, .slice none 0 0]
theorem Inv.below {w w' : World} {v : Option Addr} (h : Inv w v) (hb : Below w.heap.size w w') : Inv w' v := by
  rcases h with rfl | ⟨b, rfl, h⟩
  · exact .inl rfl
  · exact .inr ⟨b, rfl, h.below hb⟩
end Go.Proofs.YtpgokoeedmipeaaDoor
