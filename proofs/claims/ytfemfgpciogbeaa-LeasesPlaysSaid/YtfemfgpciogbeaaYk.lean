/- Words for memory: resources in cells, slices of them, a desk of the program's. -/
import Derived.Test.YtfemfgpciogbeaaYm
import Derived.Test.YtfemfgpciogbeaaSt
import Derived.Laws.AppendOwn
import Derived.Laws.AppendOwnNone
import Derived.Maps.OwnSet
import Derived.Maps.OwnRows
import Derived.DeepKeys4
import Derived.Carry
namespace Go.Proofs.Ytfemfgpciogbeaa
open Go.RowKit

theorem bel_drew {B : Nat} {a w : World} (h : Below B a w) : Below B a w.drew := ⟨h.os, h.tape, h.output, h.size, h.block⟩
theorem bel_alloc {w W : World} (h : Below w.heap.size w W) (o : Obj) : Below w.heap.size w (W.alloc o) := h.alloc h.size _
theorem Bk.up {w : World} {g : Nat} {t : TypeId} {cs : Array Value} (h : Bk w g t cs) (o : Obj) : Bk (w.alloc o) g t cs := h.same (Below.heap_alloc _ _ _ h.lt)
theorem Kept.self {S : Nat → Prop} {a w w' : World} (h : Kept S a w) (k : Kept (fun g => S g ∨ a.heap.size ≤ g) w w') : Kept S a w' :=
  ⟨k.os.trans h.os, k.tape.trans h.tape, k.output.trans h.output, Nat.le_trans h.size k.size, fun i hi hs => (k.block i (Nat.lt_of_lt_of_le hi h.size) (by rintro (x | x); exact hs x; omega)).trans (h.block i hi hs)⟩
theorem cell_keeps {w w' : World} (hb : Below w.heap.size w w') {p : Addr} {v : Value} (h : w.cell? p = some v) : w'.cell? p = some v := (hb.cell (World.block_lt_of_cell? _ _ h)).trans h
theorem kept_cell {S : Nat → Prop} {w w' : World} (h : Kept S w w') {g i : Nat} {v : Value} (hc : w.cell? ⟨g, i, none⟩ = some v) (hg : ¬ S g) : w'.cell? ⟨g, i, none⟩ = some v :=
  (World.cell?_of_block (a := ⟨g, i, none⟩) (h.block g (World.block_lt_of_cell? _ _ hc) hg)).trans hc

/-! ### resources in cells -/
/-- A resource. -/
structure Ro where
  k : Int
  i : Int
  g : Int
/-- What its fields may hold. -/
structure RgO (k i g : Int) : Prop where
  k0 : -9223372036854775808 ≤ k
  k1 : k ≤ 9223372036854775807
  i0 : -9223372036854775808 ≤ i
  i1 : i ≤ 9223372036854775807
  g0 : 0 ≤ g
  g1 : g ≤ 4294967295
def Ro.Rg (o : Ro) : Prop := RgO o.k o.i o.g
def Ro.cl (o : Ro) : List Value := [.int .i64 o.k, .int .i64 o.i, .int .u32 o.g]
def okey (k i g : Int) : Value := .agg #[.int .i64 k, .int .i64 i, .int .u32 g]
def Ro.val (o : Ro) : Value := okey o.k o.i o.g
def ocls (l : List Ro) : List Value := l.flatMap Ro.cl
theorem Ro.ext' {a b : Ro} (h1 : a.k = b.k) (h2 : a.i = b.i) (h3 : a.g = b.g) : a = b := by cases a; cases b; simp_all
theorem ocls_append (l m : List Ro) : ocls (l ++ m) = ocls l ++ ocls m := by simp [ocls]
theorem ocls_cons (a : Ro) (l : List Ro) : ocls (a :: l) = a.cl ++ ocls l := by simp [ocls]
theorem ocls_snoc (l : List Ro) (r : Ro) : ocls (l ++ [r]) = ocls l ++ r.cl := by simp [ocls]
theorem ocls_length (l : List Ro) : (ocls l).length = l.length * 3 := by
  induction l with
  | nil => rfl
  | cons a l ih => rw [ocls_cons, List.length_append, ih, List.length_cons]; simp [Ro.cl]; omega
theorem ocls_one (l : List Ro) : ∀ u ∈ ocls l, u.oneCell' = true := by
  intro u hu
  obtain ⟨a, _, h⟩ := List.mem_flatMap.1 hu
  simp only [Ro.cl, List.mem_cons, List.not_mem_nil, or_false] at h
  rcases h with rfl | rfl | rfl <;> rfl
theorem Ro.cl_one (r : Ro) : ∀ u ∈ r.cl, u.oneCell' = true := by
  intro u hu
  exact ocls_one [r] u (by simpa [ocls] using hu)
theorem ocls_at (l : List Ro) (j : Nat) (h : j < l.length) (q : Nat) (hq : q < 3) : (ocls l)[j * 3 + q]? = l[j].cl[q]? := by
  induction l generalizing j with
  | nil => simp at h
  | cons a l ih =>
    rw [ocls_cons]
    cases j with
    | zero => rw [Nat.zero_mul, Nat.zero_add, List.getElem?_append_left (by simp [Ro.cl]; omega)]; rfl
    | succ j =>
      have e1 : a.cl.length = 3 := rfl
      rw [List.getElem?_append_right (by rw [e1]; omega), e1, show (j + 1) * 3 + q - 3 = j * 3 + q by omega, ih j (by simpa using h)]
      rfl
/-- The leases: what All returns. -/
def lro (r : Nat × Nat) : Ro := ⟨3, r.1, r.2⟩
def Dk.all (D : Dk) : List Ro := D.t.now.map lro
theorem Dk.all_len (D : Dk) : D.all.length = D.t.held.length := by simp [Dk.all, Tb.now_len]
theorem Dk.all_at {D : Dk} {j : Nat} {o : Ro} (h : D.all[j]? = some o) : ∃ i : Nat, o = ⟨3, i, D.t.g i⟩ ∧ i < D.t.n ∧ D.t.s i = 1 := by
  simp only [Dk.all, List.getElem?_map, Option.map_eq_some_iff] at h
  obtain ⟨r, h1, rfl⟩ := h
  obtain ⟨h2, h3, h4⟩ := Tb.now_at h1
  exact ⟨r.1, by simp [lro, h4], h2, h3⟩

/-! ### slices of resources -/
/-- The slice value v reads as the resources l. -/
def RdO (w : World) (v : Value) (l : List Ro) : Prop :=
  ∃ a c, v = .slice a l.length c ∧ l.length ≤ c ∧ c ≤ 9223372036854775807 ∧ (a = none → c = 0) ∧ (0 < l.length → ∃ g off, a = some ⟨g, off, none⟩ ∧ g < w.heap.size ∧ ∀ j x, (ocls l)[j]? = some x → w.cell? ⟨g, off + j, none⟩ = some x)
section
variable {w w' : World} {v : Value} {l : List Ro}
theorem RdO.same (h : RdO w v l) (hs : w.heap.size ≤ w'.heap.size) (e : ∀ g, v.ownBlock = some g → g < w.heap.size → w'.heap[g]? = w.heap[g]?) : RdO w' v l := by
  obtain ⟨a, c, e0, h1, h2, h3, h4⟩ := h
  refine ⟨a, c, e0, h1, h2, h3, fun h0 => ?_⟩
  obtain ⟨g, off, e2, hg, hc⟩ := h4 h0
  exact ⟨g, off, e2, Nat.lt_of_lt_of_le hg hs, fun j x hj => (World.cell?_of_block (a := ⟨g, off + j, none⟩) (e g (by rw [e0, e2]; rfl) hg)).trans (hc j x hj)⟩
theorem RdO.below (h : RdO w v l) (hb : Below w.heap.size w w') : RdO w' v l := h.same hb.size fun g _ hg => hb.block g hg
theorem RdO.kept {S : Nat → Prop} (h : RdO w v l) (k : Kept S w w') (hs : ∀ g, v.ownBlock = some g → ¬ S g) : RdO w' v l := h.same k.size fun g e hg => k.block g hg (hs g e)
theorem RdO.nil (w : World) : RdO w (.slice none 0 0) [] := ⟨none, 0, rfl, Nat.le_refl _, by omega, fun _ => rfl, fun h => by simp at h⟩
theorem RdO.len (h : RdO w v l) : ∃ a c, v = .slice a l.length c ∧ l.length ≤ c ∧ c ≤ 9223372036854775807 ∧ RdO w (.slice a l.length c) l := by
  obtain ⟨a, c, e, h1, h2, _⟩ := id h
  subst e
  exact ⟨a, c, rfl, h1, h2, h⟩
/-- The three cells of a resource at offset o of block g. -/
def Three (w : World) (g o : Nat) (a : Ro) : Prop :=
  w.cell? ⟨g, o, none⟩ = some (.int .i64 a.k) ∧ w.cell? ⟨g, o + 1, none⟩ = some (.int .i64 a.i) ∧ w.cell? ⟨g, o + 2, none⟩ = some (.int .u32 a.g)
theorem RdO.cell {a : Option Addr} {n c : Nat} (h : RdO w (.slice a n c) l) {j : Nat} (hj : j < l.length) : ∃ g off, a = some ⟨g, off, none⟩ ∧ g < w.heap.size ∧ Three w g (off + j * 3) l[j] := by
  obtain ⟨a', c', e, h1, h2, h3, h4⟩ := h
  injection e with e1 e2 e3
  subst e1 e2 e3
  obtain ⟨g, off, e2, hg, hc⟩ := h4 (by omega)
  have k : ∀ q, q < 3 → ∀ x, l[j].cl[q]? = some x → w.cell? ⟨g, off + j * 3 + q, none⟩ = some x := fun q hq x hx => by
    rw [Nat.add_assoc]; exact hc _ x ((ocls_at l j hj q hq).trans hx)
  exact ⟨g, off, e2, hg, by simpa using k 0 (by omega) _ rfl, k 1 (by omega) _ rfl, k 2 (by omega) _ rfl⟩
theorem RdO.of_own {b : Nat} (h : w.ownsRow b 33 3 v l.length (ocls l)) : RdO w v l := by
  rcases h.2 with ⟨rfl, h0⟩ | ⟨g, cap, cur, rfl, h1, h2, h3, h4, h5, h6⟩
  · have : l = [] := List.eq_nil_of_length_eq_zero h0
    subst this
    exact RdO.nil w
  · have hg : Bk w g 33 cur := h2
    refine ⟨_, cap, rfl, h3, by unfold maxLen at h4; omega, fun e => (by cases e), fun _ => ⟨g, 0, rfl, hg.lt, fun j x hj => ?_⟩⟩
    have hjl : j < (ocls l).length := (List.getElem?_eq_some_iff.1 hj).1
    rw [ocls_length] at hjl
    rw [← h6, List.getElem?_take_of_lt (by omega), Array.getElem?_toList] at hj
    rw [Nat.zero_add, hg.cell]; exact hj
end
theorem own_same {w w' : World} {base n s : Nat} {e : TypeId} {v : Value} {xs : List Value} (h : w.ownsRow base e s v n xs) (k : ∀ g, v.ownBlock = some g → w'.heap[g]? = w.heap[g]?) : w'.ownsRow base e s v n xs := by
  refine ⟨h.1, ?_⟩
  rcases h.2 with h | ⟨g, cap, cur, h1, h2, h3, h4⟩
  · exact .inl h
  · exact .inr ⟨g, cap, cur, h1, h2, (k g (by rw [h1]; rfl)).trans h3, h4⟩
theorem own_below {w w' : World} {base n s : Nat} {e : TypeId} {v : Value} {xs : List Value} (h : w.ownsRow base e s v n xs) (k : Below w.heap.size w w') : w'.ownsRow base e s v n xs :=
  own_same h fun g hg => k.block g (h.lt g hg).2
theorem own_lower {w : World} {a b : Nat} {e : TypeId} {s : Nat} {v : Value} {n : Nat} {xs : List Value} (h : w.ownsRow a e s v n xs) (hb : b ≤ a) : w.ownsRow b e s v n xs := by
  refine ⟨h.1, ?_⟩
  rcases h.2 with h | ⟨g, cap, cur, h1, h2, h3⟩
  · exact .inl h
  · exact .inr ⟨g, cap, cur, h1, by omega, h3⟩
theorem own_type {w : World} {base n s g : Nat} {e t : TypeId} {v : Value} {xs : List Value} {cs : Array Value} (h : w.ownsRow base e s v n xs) (hg : v.ownBlock = some g) (hb : Bk w g t cs) : t = e := by
  rcases h.2 with ⟨rfl, _⟩ | ⟨g', cap, cur, rfl, _, h2, _⟩
  · cases hg
  · obtain rfl : g' = g := by simpa [Value.ownBlock] using hg
    exact (hb.uniq h2).1
theorem own_slice {w : World} {b n s : Nat} {e : TypeId} {v : Value} {xs : List Value} (h : w.ownsRow b e s v n xs) : ∃ a n' c, v = .slice a n' c := by
  rcases h.2 with ⟨rfl, _⟩ | ⟨g', cap, cur, rfl, _⟩
  · exact ⟨_, _, _, rfl⟩
  · exact ⟨_, _, _, rfl⟩
theorem own_form {w : World} {b n s : Nat} {e : TypeId} {v : Value} {xs : List Value} (h : w.ownsRow b e s v n xs) : ∃ p c, v = .slice p n c := by
  rcases h.2 with ⟨rfl, rfl⟩ | ⟨g', cap, cur, rfl, _⟩
  · exact ⟨_, _, rfl⟩
  · exact ⟨_, _, rfl⟩
theorem info_out : (Try.prog.info? 33).map (fun i => (i.zero, i.size, i.bytes)) = some (some (.agg #[.int .i64 0, .int .i64 0, .int .u32 0]), 3, 24) := by kernel_rfl
def I64 (i : Int) : Prop := -9223372036854775808 ≤ i ∧ i ≤ 9223372036854775807

/-! ### a desk of the program's -/
/-- The times in cells. -/
def ucells (u : Nat → Nat) : Array Value := ((List.range 64).map (fun j => Value.int .i64 (u j))).toArray
theorem ucells_size (u : Nat → Nat) : (ucells u).size = 64 := by simp [ucells]
theorem ucells_at (u : Nat → Nat) {j : Nat} (h : j < 64) : (ucells u)[j]? = some (.int .i64 (u j)) := by simp [ucells, h]
theorem ucells_put (u : Nat → Nat) (i y : Nat) : (ucells u).setIfInBounds i (.int .i64 y) = ucells (put u i y) := by
  refine Array.ext_getElem? fun j => ?_
  rw [Array.getElem?_setIfInBounds]
  by_cases hj : j < 64
  · rw [ucells_at (put u i y) hj, ucells_at u hj, ucells_size]
    by_cases e : i = j
    · subst e; rw [if_pos rfl, if_pos hj, put_same]
    · rw [if_neg e, put_other (fun c => e c.symm)]
  · have h1 : (ucells (put u i y))[j]? = none := by rw [Array.getElem?_eq_none]; rw [ucells_size]; omega
    have h2 : (ucells u)[j]? = none := by rw [Array.getElem?_eq_none]; rw [ucells_size]; omega
    rw [h1, h2, ucells_size]
    by_cases e : i = j
    · rw [if_pos e, if_neg (by omega)]
    · rw [if_neg e]
theorem ucells_one (u : Nat → Nat) : (ucells u).all (·.oneCell') = true := by
  rw [Array.all_eq_true_iff_forall_mem]
  intro v hv
  obtain ⟨j, _, rfl⟩ := List.mem_map.1 (show v ∈ (List.range 64).map (fun j => Value.int .i64 (u j)) by simpa [ucells] using hv)
  rfl

/-- The desk at b, its table of slots at k, its times at a. -/
structure DkW (w : World) (b k a : Nat) (D : Dk) : Prop where
  ok : D.Ok
  hb : Bk w b 54 #[.pointer (some ⟨k, 0, none⟩), .pointer (some ⟨a, 0, none⟩)]
  ha : Bk w a 78 (ucells D.u)
  tab : TabW w k D.t
def DFoot (b k a : Nat) (g : Nat) : Prop := g = b ∨ g = k ∨ g = a
section
variable {w w' : World} {b k a : Nat} {D : Dk}
theorem DkW.foot_lt (h : DkW w b k a D) {g : Nat} (hg : DFoot b k a g) : g < w.heap.size := by
  rcases hg with rfl | rfl | rfl
  · exact h.hb.lt
  · exact h.tab.bt
  · exact h.ha.lt
theorem DkW.same (h : DkW w b k a D) (e : ∀ g, DFoot b k a g → w'.heap[g]? = w.heap[g]?) : DkW w' b k a D := ⟨h.ok, h.hb.same (e b (.inl rfl)), h.ha.same (e a (.inr (.inr rfl))), h.tab.same (e k (.inr (.inl rfl)))⟩
theorem DkW.kept {S : Nat → Prop} (h : DkW w b k a D) (q : Kept S w w') (hs : ∀ g, DFoot b k a g → ¬ S g) : DkW w' b k a D := h.same fun g hg => q.block g (h.foot_lt hg) (hs g hg)
theorem DkW.below (h : DkW w b k a D) (q : Below w.heap.size w w') : DkW w' b k a D := h.same fun g hg => q.block g (h.foot_lt hg)
theorem DkW.drewN (h : DkW w b k a D) (n : Nat) : DkW (w.drewN n) b k a D := h.same fun _ _ => rfl
theorem DkW.bk (h : DkW w b k a D) : b ≠ k := by rintro rfl; exact absurd (h.hb.uniq h.tab.bk).1 (by decide)
theorem DkW.ba (h : DkW w b k a D) : b ≠ a := by rintro rfl; exact absurd (h.hb.uniq h.ha).1 (by decide)
theorem DkW.ka (h : DkW w b k a D) : k ≠ a := by rintro rfl; exact absurd (h.tab.bk.uniq h.ha).1 (by decide)
theorem DkW.c0 (h : DkW w b k a D) : w.cell? ⟨b, 0, none⟩ = some (.pointer (some ⟨k, 0, none⟩)) := h.hb.cell 0
theorem DkW.c1 (h : DkW w b k a D) : w.cell? ⟨b, 1, none⟩ = some (.pointer (some ⟨a, 0, none⟩)) := h.hb.cell 1
theorem DkW.ca (h : DkW w b k a D) {i : Nat} (hi : i < 64) : w.cell? ⟨a, i, none⟩ = some (.int .i64 (D.u i)) := by rw [h.ha.cell, ucells_at _ hi]
theorem DkW.fz (h : DkW w b k a D) (i : Nat) : w.frozen? ⟨a, i, none⟩ = false := h.ha.frozen i
end
/-- A desk that New or Copy did not make: nil, or the zero one. -/
def DInv (w : World) (v : Option Addr) : Prop := v = none ∨ ∃ b, v = some ⟨b, 0, none⟩ ∧ Bk w b 54 #[.pointer none, .pointer none]
theorem DInv.below {w w' : World} {v : Option Addr} (h : DInv w v) (hb : Below w.heap.size w w') : DInv w' v := by
  rcases h with rfl | ⟨b, rfl, h⟩
  · exact .inl rfl
  · exact .inr ⟨b, rfl, h.below hb⟩
end Go.Proofs.Ytfemfgpciogbeaa
