/- Words for memory: a block that is known whole; what a call may turn; ints in cells; a map of times; a queue of the program's. -/
import Derived.Test.YtlnjgbdekcgmpaaEm
import Derived.Test.YtlnjgbdekcgmpaaRows
import Derived.WalkKit
import Derived.WalkSpells
import Derived.WalkLawsBesides
import Derived.Lib.Hide
import Derived.Lib.SliceRun
import Derived.Laws.Rows
import Derived.Laws.AppendOwn
import Derived.Laws.AppendOwnNone
import Derived.Maps.OwnSet
import Derived.Maps.OwnRows
import Derived.Deep.QuietTactic
import Derived.BigQuiet
import Derived.BigFrame
namespace Go.Proofs.Ytlnjgbdekcgmpaa
open Go.RowKit

def Bk (w : World) (g : Nat) (t : TypeId) (cs : Array Value) : Prop := w.heap[g]? = some (.cells cs t (0, 0))
section
variable {w w' : World} {g : Nat} {t : TypeId} {cs : Array Value}
theorem Bk.lt (h : Bk w g t cs) : g < w.heap.size := (Array.getElem?_eq_some_iff.1 h).1
theorem Bk.cell (h : Bk w g t cs) (i : Nat) : w.cell? ⟨g, i, none⟩ = cs[i]? := cell_of_row w g i cs t (0, 0) h
theorem Bk.frozen (h : Bk w g t cs) (i : Nat) : w.frozen? ⟨g, i, none⟩ = false := by
  unfold Bk at h
  simp [World.frozen?, h]
theorem Bk.new (w : World) (t : TypeId) (cs : Array Value) : Bk (w.alloc (.cells cs t)) w.heap.size t cs := by
  unfold Bk World.alloc; simp
theorem Bk.same (h : Bk w g t cs) (e : w'.heap[g]? = w.heap[g]?) : Bk w' g t cs := e.trans h
theorem Bk.put (h : Bk w g t cs) (i : Nat) (u : Value) : Bk (w.setCell ⟨g, i, none⟩ u) g t (cs.setIfInBounds i u) := by
  unfold Bk at h ⊢
  simp [World.setCell, Array.getElem?_modify, h]
theorem Bk.uniq {t' : TypeId} {cs' : Array Value} (h : Bk w g t cs) (h' : Bk w g t' cs') : t = t' ∧ cs = cs' := by
  unfold Bk at h h'
  rw [h] at h'
  injection h' with h'
  injection h' with h1 h2
  exact ⟨h2, h1⟩
end

/-- Of the blocks that were there w' has turned those alone that S names. -/
structure Kept (S : Nat → Prop) (w w' : World) : Prop where
  os : w'.os = w.os
  tape : w'.tape = w.tape
  output : w'.output = w.output
  size : w.heap.size ≤ w'.heap.size
  block : ∀ k, k < w.heap.size → ¬ S k → w'.heap[k]? = w.heap[k]?
section
variable {S T : Nat → Prop} {a b c w : World}
theorem Kept.refl (S : Nat → Prop) (w : World) : Kept S w w := ⟨rfl, rfl, rfl, Nat.le_refl _, fun _ _ _ => rfl⟩
theorem Kept.trans (h : Kept S a b) (k : Kept S b c) : Kept S a c :=
  ⟨k.os.trans h.os, k.tape.trans h.tape, k.output.trans h.output, Nat.le_trans h.size k.size, fun i hi hs => (k.block i (Nat.lt_of_lt_of_le hi h.size) hs).trans (h.block i hi hs)⟩
theorem Kept.mono (h : Kept S a b) (e : ∀ k, k < a.heap.size → S k → T k) : Kept T a b := ⟨h.os, h.tape, h.output, h.size, fun k hk hs => h.block k hk fun x => hs (e k hk x)⟩
theorem Kept.drewN (h : Kept S a w) (n : Nat) : Kept S a (w.drewN n) := ⟨h.os, h.tape, h.output, h.size, h.block⟩
theorem Kept.drew (h : Kept S a w) : Kept S a w.drew := ⟨h.os, h.tape, h.output, h.size, h.block⟩
theorem Kept.alloc (h : Kept S a w) (o : Obj) : Kept S a (w.alloc o) :=
  h.trans ⟨rfl, rfl, rfl, by simp, fun k hk _ => Below.heap_alloc _ _ _ hk⟩
theorem Kept.put (h : Kept S a w) {p : Addr} (hp : a.heap.size ≤ p.block ∨ S p.block) (u : Value) : Kept S a (w.setCell p u) :=
  ⟨h.os, h.tape, h.output, by simp; exact h.size, fun k hk hs => (Below.heap_setCell _ _ _ _ (by rcases hp with hp | hp; omega; rintro rfl; exact hs hp)).trans (h.block k hk hs)⟩
theorem Kept.below (h : Kept S a b) {B : Nat} (hB : B ≤ a.heap.size) (hs : ∀ k, S k → B ≤ k) : Below B a b :=
  ⟨h.os, h.tape, h.output, h.size, fun k hk => h.block k (by omega) fun x => by have := hs k x; omega⟩
theorem Kept.of_below (h : Below a.heap.size a b) : Kept S a b := ⟨h.os, h.tape, h.output, h.size, fun k hk _ => h.block k hk⟩
theorem Bk.kept {g : Nat} {t : TypeId} {cs : Array Value} (h : Bk a g t cs) (k : Kept S a b) (hg : ¬ S g) : Bk b g t cs := (k.block g h.lt hg).trans h
theorem Bk.below {g : Nat} {t : TypeId} {cs : Array Value} (h : Bk a g t cs) (k : Below a.heap.size a b) : Bk b g t cs := (k.block g h.lt).trans h
end

theorem Kept.put1 {g : Nat} {a w : World} (h : Kept (· = g) a w) (i : Nat) (u : Value) : Kept (· = g) a (w.setCell ⟨g, i, none⟩ u) := h.put (p := ⟨g, i, none⟩) (.inr rfl) u

theorem bel2 {w a b : World} (h : Below w.heap.size w a) (k : Below a.heap.size a b) : Below w.heap.size w b := h.trans (k.mono h.size)
theorem bel_drewN {B : Nat} {a w : World} (h : Below B a w) (n : Nat) : Below B a (w.drewN n) := ⟨h.os, h.tape, h.output, h.size, h.block⟩
theorem bel_drew {B : Nat} {a w : World} (h : Below B a w) : Below B a w.drew := ⟨h.os, h.tape, h.output, h.size, h.block⟩

/-! ### slices of ints -/
def ints (l : List Int) : List Value := l.map (.int .i64 ·)
theorem ints_length (l : List Int) : (ints l).length = l.length := by simp [ints]
theorem ints_append (l m : List Int) : ints (l ++ m) = ints l ++ ints m := by simp [ints]
theorem ints_at {l : List Int} {j : Nat} {x : Int} (h : l[j]? = some x) : (ints l)[j]? = some (.int .i64 x) := by simp [ints, h]
theorem ints_one (l : List Int) : ∀ u ∈ ints l, u.oneCell' = true := by
  intro u hu
  obtain ⟨x, _, rfl⟩ := List.mem_map.1 hu
  rfl

theorem own_below {w w' : World} {base n s : Nat} {e : TypeId} {v : Value} {xs : List Value} (h : w.ownsRow base e s v n xs) (k : Below w.heap.size w w') : w'.ownsRow base e s v n xs := by
  refine ⟨h.1, ?_⟩
  rcases h.2 with h | ⟨g, cap, cur, h1, h2, h3, h4⟩
  · exact .inl h
  · exact .inr ⟨g, cap, cur, h1, h2, (Bk.below (show Bk w g e cur from h3) k), h4⟩
theorem own_lower {w : World} {a b : Nat} {e : TypeId} {s : Nat} {v : Value} {n : Nat} {xs : List Value} (h : w.ownsRow a e s v n xs) (hb : b ≤ a) : w.ownsRow b e s v n xs := by
  refine ⟨h.1, ?_⟩
  rcases h.2 with h | ⟨g, cap, cur, h1, h2, h3⟩
  · exact .inl h
  · exact .inr ⟨g, cap, cur, h1, by omega, h3⟩

theorem own_same {w w' : World} {base n s : Nat} {e : TypeId} {v : Value} {xs : List Value} (h : w.ownsRow base e s v n xs) (k : ∀ g, v.ownBlock = some g → w'.heap[g]? = w.heap[g]?) : w'.ownsRow base e s v n xs := by
  refine ⟨h.1, ?_⟩
  rcases h.2 with h | ⟨g, cap, cur, h1, h2, h3, h4⟩
  · exact .inl h
  · exact .inr ⟨g, cap, cur, h1, h2, (k g (by rw [h1]; rfl)).trans h3, h4⟩
theorem own_type {w : World} {base n s g : Nat} {e t : TypeId} {v : Value} {xs : List Value} {cs : Array Value} (h : w.ownsRow base e s v n xs) (hg : v.ownBlock = some g) (hb : Bk w g t cs) : t = e := by
  rcases h.2 with ⟨rfl, _⟩ | ⟨g', cap, cur, rfl, _, h2, _⟩
  · cases hg
  · obtain rfl : g' = g := by simpa [Value.ownBlock] using hg
    exact (hb.uniq h2).1
theorem Kept.grown {S : Nat → Prop} {a w w' : World} {o : Option Nat} (h : Kept S a w) (g : w.grownBy w' o) (ho : ∀ k, o = some k → S k ∨ a.heap.size ≤ k) : Kept S a w' :=
  ⟨g.os.trans h.os, g.tape.trans h.tape, g.output.trans h.output, Nat.le_trans h.size g.size, fun k hk hs => (g.block k (Nat.lt_of_lt_of_le hk h.size) fun e => by
    rcases ho k e.symm with h | h
    · exact hs h
    · omega).trans (h.block k hk hs)⟩
theorem Kept.self {S : Nat → Prop} {a w w' : World} (h : Kept S a w) (k : Kept (fun g => S g ∨ a.heap.size ≤ g) w w') : Kept S a w' :=
  ⟨k.os.trans h.os, k.tape.trans h.tape, k.output.trans h.output, Nat.le_trans h.size k.size, fun i hi hs => (k.block i (Nat.lt_of_lt_of_le hi h.size) (by rintro (x | x); exact hs x; omega)).trans (h.block i hi hs)⟩

/-- A list of values is laid into a block. -/
theorem Bk.puts {g : Nat} {t : TypeId} : ∀ {vs : List Value} {w : World} {cs : Array Value} (_ : Bk w g t cs) (o : Nat), ∃ cs', Bk (w.setCells g o vs) g t cs' ∧ cs'.size = cs.size
  | [], _, cs, h, _ => ⟨cs, h, rfl⟩
  | v :: vs, _, cs, h, o => by
    obtain ⟨cs', h1, h2⟩ := Bk.puts (h.put o v) (o + 1) (vs := vs)
    exact ⟨cs', h1, by rw [h2]; simp⟩
theorem Kept.puts {S : Nat → Prop} {a : World} {g : Nat} (hg : S g ∨ a.heap.size ≤ g) : ∀ {vs : List Value} {w : World} (_ : Kept S a w) (o : Nat), Kept S a (w.setCells g o vs)
  | [], _, h, _ => h
  | v :: _, _, h, o => Kept.puts hg (h.put (p := ⟨g, o, none⟩) hg.symm v) (o + 1)
/-- What cells hold makes a row of one's own. -/
theorem own_of_cells {w : World} {g cap : Nat} {cur : Array Value} {l : List Int} (h : Bk w g 3 cur) (hs : cur.size = cap) (hl : l.length ≤ cap) (hm : cap ≤ maxLen) (hc : ∀ j x, l[j]? = some x → w.cell? ⟨g, j, none⟩ = some (.int .i64 x)) : w.ownsRow 0 3 1 (.slice (some ⟨g, 0, none⟩) l.length cap) l.length (ints l) := by
  refine ⟨by rw [ints_length, Nat.mul_one], .inr ⟨g, cap, cur, rfl, Nat.zero_le _, h, hl, hm, by rw [Nat.mul_one]; exact hs, ?_⟩⟩
  rw [Nat.mul_one]
  refine List.ext_getElem? fun j => ?_
  by_cases hj : j < l.length
  · rw [List.getElem?_take_of_lt hj, Array.getElem?_toList, ints_at (List.getElem?_eq_getElem hj), ← h.cell]
    exact hc j _ (List.getElem?_eq_getElem hj)
  · rw [List.getElem?_eq_none (by rw [List.length_take]; omega), List.getElem?_eq_none (by rw [ints_length]; omega)]

/-! ### slices that read as ints -/
/-- The slice value v reads as the ints l. -/
def Rd (w : World) (v : Value) (l : List Int) : Prop :=
  ∃ a c, v = .slice a l.length c ∧ l.length ≤ c ∧ c ≤ 9223372036854775807 ∧ (a = none → c = 0) ∧ (0 < l.length → ∃ g off, a = some ⟨g, off, none⟩ ∧ g < w.heap.size ∧ ∀ j x, l[j]? = some x → w.cell? ⟨g, off + j, none⟩ = some (.int .i64 x))
section
variable {w w' : World} {v : Value} {l : List Int}
theorem Rd.same (h : Rd w v l) (hs : w.heap.size ≤ w'.heap.size) (e : ∀ g off c n, v = .slice (some ⟨g, off, none⟩) n c → g < w.heap.size → w'.heap[g]? = w.heap[g]?) : Rd w' v l := by
  obtain ⟨a, c, e0, h1, h2, h3, h4⟩ := h
  refine ⟨a, c, e0, h1, h2, h3, fun h0 => ?_⟩
  obtain ⟨g, off, e2, hg, hc⟩ := h4 h0
  exact ⟨g, off, e2, Nat.lt_of_lt_of_le hg hs, fun j x hj => (World.cell?_of_block (a := ⟨g, off + j, none⟩) (e g off c _ (by rw [e0, e2]) hg)).trans (hc j x hj)⟩
theorem Rd.below (h : Rd w v l) (hb : Below w.heap.size w w') : Rd w' v l := h.same hb.size fun g _ _ _ _ hg => hb.block g hg
theorem Rd.kept {S : Nat → Prop} (h : Rd w v l) (k : Kept S w w') (hs : ∀ g, v.ownBlock = some g → ¬ S g) : Rd w' v l := h.same k.size fun g _ _ _ e hg => k.block g hg (hs g (by rw [e]; rfl))
theorem Rd.nil (w : World) : Rd w (.slice none 0 0) [] := ⟨none, 0, rfl, Nat.le_refl _, by omega, fun _ => rfl, fun h => by simp at h⟩
theorem Rd.len (h : Rd w v l) : ∃ a c, v = .slice a l.length c ∧ l.length ≤ c ∧ c ≤ 9223372036854775807 ∧ Rd w (.slice a l.length c) l := by
  obtain ⟨a, c, e, h1, h2, _⟩ := id h
  subst e
  exact ⟨a, c, rfl, h1, h2, h⟩
theorem Rd.cell {a : Option Addr} {n c : Nat} (h : Rd w (.slice a n c) l) {j : Nat} (hj : j < l.length) : ∃ g off, a = some ⟨g, off, none⟩ ∧ g < w.heap.size ∧ w.cell? ⟨g, off + j, none⟩ = some (.int .i64 l[j]) := by
  obtain ⟨a', c', e, h1, h2, h3, h4⟩ := h
  injection e with e1 e2 e3
  subst e1 e2 e3
  obtain ⟨g, off, e2, hg, hc⟩ := h4 (by omega)
  exact ⟨g, off, e2, hg, hc j _ (List.getElem?_eq_getElem hj)⟩
theorem Rd.of_own {b : Nat} (h : w.ownsRow b 3 1 v l.length (ints l)) : Rd w v l := by
  rcases h.2 with ⟨rfl, h0⟩ | ⟨g, cap, cur, rfl, h1, h2, h3, h4, h5, h6⟩
  · have : l = [] := List.eq_nil_of_length_eq_zero h0
    subst this
    exact Rd.nil w
  · have hg : Bk w g 3 cur := h2
    refine ⟨_, cap, rfl, h3, by unfold maxLen at h4; omega, fun e => (by cases e), fun _ => ⟨g, 0, rfl, hg.lt, fun j x hj => ?_⟩⟩
    have hjl : j < l.length := (List.getElem?_eq_some_iff.1 hj).1
    have := ints_at hj
    rw [← h6, List.getElem?_take_of_lt (by omega), Array.getElem?_toList] at this
    rw [Nat.zero_add, hg.cell]; exact this
end
theorem own_cell {w : World} {b g n c : Nat} {l : List Int} (h : w.ownsRow b 3 1 (.slice (some ⟨g, 0, none⟩) n c) l.length (ints l)) : n = l.length ∧ l.length ≤ c ∧ c ≤ maxLen ∧ ∃ cur, Bk w g 3 cur ∧ cur.size = c ∧ ∀ j x, l[j]? = some x → w.cell? ⟨g, j, none⟩ = some (.int .i64 x) := by
  rcases h.2 with ⟨e, _⟩ | ⟨g', cap, cur, e, h1, h2, h3, h4, h5, h6⟩
  · cases e
  · injection e with e1 e2 e3
    simp only [Option.some.injEq, Addr.mk.injEq, and_true] at e1
    subst e2 e3 e1
    refine ⟨rfl, h3, h4, cur, h2, by rw [h5, Nat.mul_one], fun j x hj => ?_⟩
    have hjl : j < l.length := (List.getElem?_eq_some_iff.1 hj).1
    have := ints_at hj
    rw [← h6, List.getElem?_take_of_lt (by omega), Array.getElem?_toList] at this
    rw [Bk.cell h2]; exact this

/-! ### a map of times -/
def I64 (i : Int) : Prop := -9223372036854775808 ≤ i ∧ i ≤ 9223372036854775807
theorem keyI : Maps.Keyed Try.prog 3 := Maps.int_keyed Try.underlying3
theorem keyOfI {i : Int} (h : I64 i) : keyOf Try.prog 3 (.int .i64 i) = some (.int .i64 i) := Maps.keyOf_int_mk Try.underlying3 (WalkArith.wf_i64 ⟨h.1, by have := h.2; omega⟩)
theorem zeroI (w : World) : (zeroValue 2).run Try.prog w = .ok (.int .i64 0) w := by kernel_rfl
def upd (T : Int → Option Int) (i : Int) (t : Option Int) : Int → Option Int := fun j => if j = i then t else T j
theorem upd_same (T : Int → Option Int) (i : Int) (t : Option Int) : upd T i t i = t := if_pos rfl
theorem upd_other {T : Int → Option Int} {i j : Int} (t : Option Int) (h : j ≠ i) : upd T i t j = T j := if_neg h
def MapOf (D : DataW Unit) (T : Int → Option Int) : Prop := ∀ i, I64 i → D.atKey (.int .i64 i) (.lit (.int .i64 0)) = .lit (.int .i64 ((T i).getD 0)) ∧ Maps.has D (.int .i64 i) = (T i).isSome
/-- Block m is a map of n times that gives T. -/
def MapW (w : World) (m n : Nat) (T : Int → Option Int) : Prop := ∃ D : DataW Unit, w.ownsMap Try.prog 3 (plainElem Try.prog 2) m n D ∧ Maps.size D = n ∧ MapOf D T
section
variable {w w' : World} {m n : Nat} {T U : Int → Option Int}
theorem MapW.lt (h : MapW w m n T) : m < w.heap.size := by obtain ⟨D, h, _⟩ := h; exact h.lt
theorem MapW.same (h : MapW w m n T) (e : w'.heap[m]? = w.heap[m]?) : MapW w' m n T := by
  obtain ⟨D, ⟨es, clock, hb, r⟩, h2⟩ := h
  exact ⟨D, ⟨es, clock, e.trans hb, r⟩, h2⟩
theorem MapW.congr (h : MapW w m n T) (e : ∀ i, I64 i → T i = U i) : MapW w m n U := by
  obtain ⟨D, h1, h2, h3⟩ := h
  exact ⟨D, h1, h2, fun i hi => by rw [← e i hi]; exact h3 i hi⟩
theorem MapW.new (w : World) : MapW (w.alloc (.map #[] 0)) w.heap.size 0 (fun _ => none) := ⟨.map [], World.ownsMap_made w _ _ _, rfl, fun _ _ => ⟨rfl, rfl⟩⟩
theorem MapW.no_cells (h : MapW w m n T) {t : TypeId} {cs : Array Value} (hb : Bk w m t cs) : False := by
  obtain ⟨D, ⟨es, clock, hm, _⟩, _⟩ := h
  unfold Bk at hb
  rw [hm] at hb
  cases hb
theorem MapW.look (h : MapW w m n T) {i : Int} (hi : I64 i) : (Instr.lookup 55 (.map (some m)) (.int .i64 i) false).run Try.prog w = .ok (.int .i64 ((T i).getD 0)) w := by
  obtain ⟨D, h1, _, h3⟩ := h
  obtain ⟨c, hr, hc, _⟩ := h1.lookup_int keyI Try.underlying55 Try.underlying2 (zeroI w) (keyOfI hi)
  have := (h3 i hi).1
  rw [hc] at this
  injection this with this
  injection this with _ this
  rw [hr, this]
theorem MapW.look2 (h : MapW w m n T) {i : Int} (hi : I64 i) : (Instr.lookup 55 (.map (some m)) (.int .i64 i) true).run Try.prog w = .ok (.tuple #[.int .i64 ((T i).getD 0), .bool (T i).isSome]) w := by
  obtain ⟨D, h1, _, h3⟩ := h
  obtain ⟨v, ps, hr, hv⟩ := h1.look_ok keyI Try.underlying55 (zeroI w) (plainElem_int Try.underlying2 (by decide)) (keyOfI hi)
  obtain ⟨c, rfl, hc, _⟩ := plainElem_int_inv Try.underlying2 hv
  have hc := congrArg Prod.fst hc
  simp only at hc
  rw [(h3 i hi).1] at hc
  injection hc with hc
  injection hc with _ hc
  rw [hr, (h3 i hi).2, hc]
theorem tight {D : DataW Unit} {n : Nat} (h : w.ownsMap Try.prog 3 (plainElem Try.prog 2) m n D) : w.ownsMap Try.prog 3 (plainElem Try.prog 2) m (Maps.size D) D := by
  obtain ⟨es, clock, hb, F, hs, hD⟩ := h
  refine ⟨es, clock, hb, F, ?_, hD⟩
  rw [hD]
  simp [Maps.size, length_sorted]
theorem turned_kept {b : Nat} (h : w.mapTurned w' b) : Kept (· = b) w w' := by
  have g := h.grown
  exact ⟨g.os, g.tape, g.output, g.size, fun k hk hs => g.block k hk fun e => hs (Option.some.inj e)⟩
theorem lit_ne {i j : Int} (h : j ≠ i) : (Lit.int .i64 j) ≠ .int .i64 i := fun e => h (by injection e)
theorem MapW.store (h : MapW w m n T) {i t : Int} (hi : I64 i) (ht : I64 t) (h0 : T i = none) (hn : n < maxLen) : ∃ w', (Instr.mapUpdate 55 (.map (some m)) (.int .i64 i) (.int .i64 t)).run Try.prog w = .ok () w' ∧ MapW w' m (n + 1) (upd T i (some t)) ∧ Kept (· = m) w w' := by
  obtain ⟨D, h1, h2, h3⟩ := h
  have ti := h1.tidy keyI
  have kk : WideAt.IsKeyLit (.int .i64 i) := keyI.key (keyOfI hi)
  obtain ⟨w', hr, ho, hk⟩ := h1.store keyI Try.underlying55 hn (keyOfI hi) (plainElem_int (H := Unit) (P := Try.prog) Try.underlying2 (WalkArith.wf_i64 (n := t) ⟨ht.1, by have := ht.2; omega⟩))
  have hs : Maps.size (D.put (.int .i64 i) (.lit (.int .i64 t))) = n + 1 := by
    rw [Maps.size_put ti, (h3 i hi).2, h0, h2]; rfl
  refine ⟨w', hr, ⟨_, ho, hs, fun j hj => ?_⟩, turned_kept hk⟩
  by_cases e : j = i
  · subst e
    rw [upd_same, Maps.atKey_put_same ti.isMap kk, Maps.has_put_same ti.isMap kk]
    exact ⟨rfl, rfl⟩
  · rw [upd_other _ e, Maps.atKey_put_other (lit_ne e), Maps.has_put_other (lit_ne e)]
    exact h3 j hj
theorem MapW.drop (h : MapW w m n T) {i : Int} (hi : I64 i) (h0 : (T i).isSome = true) (ty : TypeId) : ∃ w', (Builtin.delete_ #[55, 3] ty #[.map (some m), .int .i64 i]).run Try.prog w = .ok (.tuple #[]) w' ∧ MapW w' m (n - 1) (upd T i none) ∧ Kept (· = m) w w' := by
  obtain ⟨D, h1, h2, h3⟩ := h
  have ti := h1.tidy keyI
  obtain ⟨w', hr, ho, hk⟩ := h1.drop keyI Try.underlying55 (keyOfI hi) ty
  have hs : Maps.size (D.del (.int .i64 i)) = n - 1 := by
    have := Maps.size_del (k := .int .i64 i) ti
    rw [(h3 i hi).2, h0, h2] at this
    simp at this; omega
  refine ⟨w', hr, ⟨_, hs ▸ tight ho, hs, fun j hj => ?_⟩, turned_kept hk⟩
  by_cases e : j = i
  · subst e
    rw [upd_same, Maps.atKey_del_same, Maps.has_del_same]
    exact ⟨rfl, rfl⟩
  · rw [upd_other _ e, Maps.atKey_del_other (lit_ne e), Maps.has_del_other (lit_ne e)]
    exact h3 j hj
end

/-! ### a line, a queue of the program's -/
/-- The line in block k: the map of times in block m, the ids in a row of its own (value v). -/
structure LineW (w : World) (k m : Nat) (v : Value) (n : Nat) (T : Int → Option Int) (xs : List Int) : Prop where
  hk : Bk w k 57 #[.map (some m), v]
  row : w.ownsRow 0 3 1 v xs.length (ints xs)
  map : MapW w m n T
  rg : ∀ x ∈ xs, I64 x
section
variable {w w' : World} {k m n : Nat} {v : Value} {T : Int → Option Int} {xs : List Int}
def LFoot (k m : Nat) (v : Value) (g : Nat) : Prop := g = k ∨ g = m ∨ v.ownBlock = some g
theorem LineW.foot_lt (h : LineW w k m v n T xs) {g : Nat} (hg : LFoot k m v g) : g < w.heap.size := by
  rcases hg with rfl | rfl | e
  · exact h.hk.lt
  · exact h.map.lt
  · exact (h.row.lt g e).2
theorem LineW.same (h : LineW w k m v n T xs) (e : ∀ g, LFoot k m v g → w'.heap[g]? = w.heap[g]?) : LineW w' k m v n T xs :=
  ⟨h.hk.same (e k (.inl rfl)), own_same h.row fun g hg => e g (.inr (.inr hg)), h.map.same (e m (.inr (.inl rfl))), h.rg⟩
theorem LineW.kept {S : Nat → Prop} (h : LineW w k m v n T xs) (q : Kept S w w') (hs : ∀ g, LFoot k m v g → ¬ S g) : LineW w' k m v n T xs := h.same fun g hg => q.block g (h.foot_lt hg) (hs g hg)
theorem LineW.below (h : LineW w k m v n T xs) (q : Below w.heap.size w w') : LineW w' k m v n T xs := h.same fun g hg => q.block g (h.foot_lt hg)
theorem LineW.km (h : LineW w k m v n T xs) : k ≠ m := by rintro rfl; exact h.map.no_cells h.hk
theorem LineW.rk (h : LineW w k m v n T xs) : v.ownBlock ≠ some k := fun e => absurd (own_type h.row e h.hk) (by decide)
theorem LineW.rm (h : LineW w k m v n T xs) : v.ownBlock ≠ some m := fun e => by
  rcases h.row.2 with ⟨rfl, _⟩ | ⟨g, cap, cur, rfl, _, h2, _⟩
  · cases e
  · obtain rfl : g = m := by simpa [Value.ownBlock] using e
    exact h.map.no_cells h2
theorem LineW.c0 (h : LineW w k m v n T xs) : w.cell? ⟨k, 0, none⟩ = some (.map (some m)) := h.hk.cell 0
theorem LineW.c1 (h : LineW w k m v n T xs) : w.cell? ⟨k, 1, none⟩ = some v := h.hk.cell 1
theorem LineW.rd (h : LineW w k m v n T xs) : Rd w v xs := Rd.of_own h.row
end
/-- The queue in block b: its line in block k; it holds L. -/
structure QW (w : World) (b k m : Nat) (v : Value) (L : List En) : Prop where
  srt : Srt L
  nod : Nod L
  rg : ∀ e ∈ L, 0 ≤ e.2 ∧ e.2 ≤ 1099511627776
  len : L.length ≤ 256
  hb : Bk w b 44 #[.pointer (some ⟨k, 0, none⟩)]
  line : LineW w k m v L.length (tm L) (ids L)
def QFoot (b k m : Nat) (v : Value) (g : Nat) : Prop := g = b ∨ LFoot k m v g
section
variable {w w' : World} {b k m : Nat} {v : Value} {L : List En}
theorem QW.foot_lt (h : QW w b k m v L) {g : Nat} (hg : QFoot b k m v g) : g < w.heap.size := by
  rcases hg with rfl | e
  · exact h.hb.lt
  · exact h.line.foot_lt e
theorem QW.same (h : QW w b k m v L) (e : ∀ g, QFoot b k m v g → w'.heap[g]? = w.heap[g]?) : QW w' b k m v L := ⟨h.srt, h.nod, h.rg, h.len, h.hb.same (e b (.inl rfl)), h.line.same fun g hg => e g (.inr hg)⟩
theorem QW.kept {S : Nat → Prop} (h : QW w b k m v L) (q : Kept S w w') (hs : ∀ g, QFoot b k m v g → ¬ S g) : QW w' b k m v L := h.same fun g hg => q.block g (h.foot_lt hg) (hs g hg)
theorem QW.below (h : QW w b k m v L) (q : Below w.heap.size w w') : QW w' b k m v L := h.same fun g hg => q.block g (h.foot_lt hg)
theorem QW.not_foot (h : QW w b k m v L) : ¬ LFoot k m v b := by
  rintro (rfl | rfl | e)
  · exact absurd (h.hb.uniq h.line.hk).1 (by decide)
  · exact h.line.map.no_cells h.hb
  · exact absurd (own_type h.line.row e h.hb) (by decide)
theorem QW.c (h : QW w b k m v L) : w.cell? ⟨b, 0, none⟩ = some (.pointer (some ⟨k, 0, none⟩)) := h.hb.cell 0
end
/-- A queue that New or Copy did not make: nil, or the zero one. -/
def Inv (w : World) (v : Option Addr) : Prop := v = none ∨ ∃ b, v = some ⟨b, 0, none⟩ ∧ Bk w b 44 #[.pointer none]
theorem Inv.below {w w' : World} {v : Option Addr} (h : Inv w v) (hb : Below w.heap.size w w') : Inv w' v := by
  rcases h with rfl | ⟨b, rfl, h⟩
  · exact .inl rfl
  · exact .inr ⟨b, rfl, h.below hb⟩
end Go.Proofs.Ytlnjgbdekcgmpaa
