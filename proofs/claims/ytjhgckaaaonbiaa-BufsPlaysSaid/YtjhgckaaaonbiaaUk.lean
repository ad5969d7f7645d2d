/- Words for memory: resources in cells, slices of them, a pool of the program's. -/
import Derived.Test.YtjhgckaaaonbiaaUm
import Derived.Test.YtjhgckaaaonbiaaSt
import Derived.Laws.AppendOwn
import Derived.Laws.AppendOwnNone
import Derived.Maps.OwnSet
import Derived.Maps.OwnRows
import Derived.DeepKeys4
import Derived.Carry
namespace Go.Proofs.Ytjhgckaaaonbiaa
open Go.RowKit

theorem bel_drew {B : Nat} {a w : World} (h : Below B a w) : Below B a w.drew := ⟨h.os, h.tape, h.output, h.size, h.block⟩
theorem bel_alloc {w W : World} (h : Below w.heap.size w W) (o : Obj) : Below w.heap.size w (W.alloc o) := h.alloc h.size _
theorem Bk.up {w : World} {g : Nat} {t : TypeId} {cs : Array Value} (h : Bk w g t cs) (o : Obj) : Bk (w.alloc o) g t cs := h.same (Below.heap_alloc _ _ _ h.lt)
theorem Kept.self {S : Nat → Prop} {a w w' : World} (h : Kept S a w) (k : Kept (fun g => S g ∨ a.heap.size ≤ g) w w') : Kept S a w' :=
  ⟨k.os.trans h.os, k.tape.trans h.tape, k.output.trans h.output, Nat.le_trans h.size k.size, fun i hi hs => (k.block i (Nat.lt_of_lt_of_le hi h.size) (by rintro (x | x); exact hs x; omega)).trans (h.block i hi hs)⟩
theorem cell_keeps {w w' : World} (hb : Below w.heap.size w w') {p : Addr} {v : Value} (h : w.cell? p = some v) : w'.cell? p = some v := (hb.cell (World.block_lt_of_cell? _ _ h)).trans h
theorem kept_cell {S : Nat → Prop} {w w' : World} (h : Kept S w w') {g i : Nat} {v : Value} (hc : w.cell? ⟨g, i, none⟩ = some v) (hg : ¬ S g) : w'.cell? ⟨g, i, none⟩ = some v :=
  (World.cell?_of_block (a := ⟨g, i, none⟩) (h.block g (World.block_lt_of_cell? _ _ hc) hg)).trans hc

/-! ### resources in cells -/
/-- A resource. -/
structure Ro where
  k : Int
  i : Int
  g : Int
/-- What its fields may hold. -/
structure RgO (k i g : Int) : Prop where
  k0 : -9223372036854775808 ≤ k
  k1 : k ≤ 9223372036854775807
  i0 : -9223372036854775808 ≤ i
  i1 : i ≤ 9223372036854775807
  g0 : 0 ≤ g
  g1 : g ≤ 4294967295
def Ro.Rg (o : Ro) : Prop := RgO o.k o.i o.g
def Ro.cl (o : Ro) : List Value := [.int .i64 o.k, .int .i64 o.i, .int .u32 o.g]
def okey (k i g : Int) : Value := .agg #[.int .i64 k, .int .i64 i, .int .u32 g]
def Ro.val (o : Ro) : Value := okey o.k o.i o.g
def ocls (l : List Ro) : List Value := l.flatMap Ro.cl
theorem Ro.ext' {a b : Ro} (h1 : a.k = b.k) (h2 : a.i = b.i) (h3 : a.g = b.g) : a = b := by cases a; cases b; simp_all
theorem ocls_append (l m : List Ro) : ocls (l ++ m) = ocls l ++ ocls m := by simp [ocls]
theorem ocls_cons (a : Ro) (l : List Ro) : ocls (a :: l) = a.cl ++ ocls l := by simp [ocls]
theorem ocls_snoc (l : List Ro) (r : Ro) : ocls (l ++ [r]) = ocls l ++ r.cl := by simp [ocls]
theorem ocls_length (l : List Ro) : (ocls l).length = l.length * 3 := by
  induction l with
  | nil => rfl
  | cons a l ih => rw [ocls_cons, List.length_append, ih, List.length_cons]; simp [Ro.cl]; omega
theorem ocls_one (l : List Ro) : ∀ u ∈ ocls l, u.oneCell' = true := by
  intro u hu
  obtain ⟨a, _, h⟩ := List.mem_flatMap.1 hu
  simp only [Ro.cl, List.mem_cons, List.not_mem_nil, or_false] at h
  rcases h with rfl | rfl | rfl <;> rfl
theorem Ro.cl_one (r : Ro) : ∀ u ∈ r.cl, u.oneCell' = true := by
  intro u hu
  exact ocls_one [r] u (by simpa [ocls] using hu)
theorem ocls_at (l : List Ro) (j : Nat) (h : j < l.length) (q : Nat) (hq : q < 3) : (ocls l)[j * 3 + q]? = l[j].cl[q]? := by
  induction l generalizing j with
  | nil => simp at h
  | cons a l ih =>
    rw [ocls_cons]
    cases j with
    | zero => rw [Nat.zero_mul, Nat.zero_add, List.getElem?_append_left (by simp [Ro.cl]; omega)]; rfl
    | succ j =>
      have e1 : a.cl.length = 3 := rfl
      rw [List.getElem?_append_right (by rw [e1]; omega), e1, show (j + 1) * 3 + q - 3 = j * 3 + q by omega, ih j (by simpa using h)]
      rfl
/-- The names of buffers: what All returns. -/
def bro (r : Nat × Nat) : Ro := ⟨2, r.1, r.2⟩
def Po.all (P : Po) : List Ro := P.t.now.map bro
theorem Po.all_len (P : Po) : P.all.length = P.t.held.length := by simp [Po.all, Tb.now_len]
theorem Po.all_at {P : Po} {j : Nat} {o : Ro} (h : P.all[j]? = some o) : ∃ i : Nat, o = ⟨2, i, P.t.g i⟩ ∧ i < P.t.n ∧ P.t.s i = 1 := by
  simp only [Po.all, List.getElem?_map, Option.map_eq_some_iff] at h
  obtain ⟨r, h1, rfl⟩ := h
  obtain ⟨h2, h3, h4⟩ := Tb.now_at h1
  exact ⟨r.1, by simp [bro, h4], h2, h3⟩

/-! ### slices of resources -/
/-- The slice value v reads as the resources l. -/
def RdO (w : World) (v : Value) (l : List Ro) : Prop :=
  ∃ a c, v = .slice a l.length c ∧ l.length ≤ c ∧ c ≤ 9223372036854775807 ∧ (a = none → c = 0) ∧ (0 < l.length → ∃ g off, a = some ⟨g, off, none⟩ ∧ g < w.heap.size ∧ ∀ j x, (ocls l)[j]? = some x → w.cell? ⟨g, off + j, none⟩ = some x)
section
variable {w w' : World} {v : Value} {l : List Ro}
theorem RdO.same (h : RdO w v l) (hs : w.heap.size ≤ w'.heap.size) (e : ∀ g, v.ownBlock = some g → g < w.heap.size → w'.heap[g]? = w.heap[g]?) : RdO w' v l := by
  obtain ⟨a, c, e0, h1, h2, h3, h4⟩ := h
  refine ⟨a, c, e0, h1, h2, h3, fun h0 => ?_⟩
  obtain ⟨g, off, e2, hg, hc⟩ := h4 h0
  exact ⟨g, off, e2, Nat.lt_of_lt_of_le hg hs, fun j x hj => (World.cell?_of_block (a := ⟨g, off + j, none⟩) (e g (by rw [e0, e2]; rfl) hg)).trans (hc j x hj)⟩
theorem RdO.below (h : RdO w v l) (hb : Below w.heap.size w w') : RdO w' v l := h.same hb.size fun g _ hg => hb.block g hg
theorem RdO.kept {S : Nat → Prop} (h : RdO w v l) (k : Kept S w w') (hs : ∀ g, v.ownBlock = some g → ¬ S g) : RdO w' v l := h.same k.size fun g e hg => k.block g hg (hs g e)
theorem RdO.nil (w : World) : RdO w (.slice none 0 0) [] := ⟨none, 0, rfl, Nat.le_refl _, by omega, fun _ => rfl, fun h => by simp at h⟩
theorem RdO.len (h : RdO w v l) : ∃ a c, v = .slice a l.length c ∧ l.length ≤ c ∧ c ≤ 9223372036854775807 ∧ RdO w (.slice a l.length c) l := by
  obtain ⟨a, c, e, h1, h2, _⟩ := id h
  subst e
  exact ⟨a, c, rfl, h1, h2, h⟩
/-- The three cells of a resource at offset o of block g. -/
def Three (w : World) (g o : Nat) (a : Ro) : Prop :=
  w.cell? ⟨g, o, none⟩ = some (.int .i64 a.k) ∧ w.cell? ⟨g, o + 1, none⟩ = some (.int .i64 a.i) ∧ w.cell? ⟨g, o + 2, none⟩ = some (.int .u32 a.g)
theorem RdO.cell {a : Option Addr} {n c : Nat} (h : RdO w (.slice a n c) l) {j : Nat} (hj : j < l.length) : ∃ g off, a = some ⟨g, off, none⟩ ∧ g < w.heap.size ∧ Three w g (off + j * 3) l[j] := by
  obtain ⟨a', c', e, h1, h2, h3, h4⟩ := h
  injection e with e1 e2 e3
  subst e1 e2 e3
  obtain ⟨g, off, e2, hg, hc⟩ := h4 (by omega)
  have k : ∀ q, q < 3 → ∀ x, l[j].cl[q]? = some x → w.cell? ⟨g, off + j * 3 + q, none⟩ = some x := fun q hq x hx => by
    rw [Nat.add_assoc]; exact hc _ x ((ocls_at l j hj q hq).trans hx)
  exact ⟨g, off, e2, hg, by simpa using k 0 (by omega) _ rfl, k 1 (by omega) _ rfl, k 2 (by omega) _ rfl⟩
theorem RdO.of_own {b : Nat} (h : w.ownsRow b 34 3 v l.length (ocls l)) : RdO w v l := by
  rcases h.2 with ⟨rfl, h0⟩ | ⟨g, cap, cur, rfl, h1, h2, h3, h4, h5, h6⟩
  · have : l = [] := List.eq_nil_of_length_eq_zero h0
    subst this
    exact RdO.nil w
  · have hg : Bk w g 34 cur := h2
    refine ⟨_, cap, rfl, h3, by unfold maxLen at h4; omega, fun e => (by cases e), fun _ => ⟨g, 0, rfl, hg.lt, fun j x hj => ?_⟩⟩
    have hjl : j < (ocls l).length := (List.getElem?_eq_some_iff.1 hj).1
    rw [ocls_length] at hjl
    rw [← h6, List.getElem?_take_of_lt (by omega), Array.getElem?_toList] at hj
    rw [Nat.zero_add, hg.cell]; exact hj
end
theorem own_same {w w' : World} {base n s : Nat} {e : TypeId} {v : Value} {xs : List Value} (h : w.ownsRow base e s v n xs) (k : ∀ g, v.ownBlock = some g → w'.heap[g]? = w.heap[g]?) : w'.ownsRow base e s v n xs := by
  refine ⟨h.1, ?_⟩
  rcases h.2 with h | ⟨g, cap, cur, h1, h2, h3, h4⟩
  · exact .inl h
  · exact .inr ⟨g, cap, cur, h1, h2, (k g (by rw [h1]; rfl)).trans h3, h4⟩
theorem own_below {w w' : World} {base n s : Nat} {e : TypeId} {v : Value} {xs : List Value} (h : w.ownsRow base e s v n xs) (k : Below w.heap.size w w') : w'.ownsRow base e s v n xs :=
  own_same h fun g hg => k.block g (h.lt g hg).2
theorem own_lower {w : World} {a b : Nat} {e : TypeId} {s : Nat} {v : Value} {n : Nat} {xs : List Value} (h : w.ownsRow a e s v n xs) (hb : b ≤ a) : w.ownsRow b e s v n xs := by
  refine ⟨h.1, ?_⟩
  rcases h.2 with h | ⟨g, cap, cur, h1, h2, h3⟩
  · exact .inl h
  · exact .inr ⟨g, cap, cur, h1, by omega, h3⟩
theorem own_type {w : World} {base n s g : Nat} {e t : TypeId} {v : Value} {xs : List Value} {cs : Array Value} (h : w.ownsRow base e s v n xs) (hg : v.ownBlock = some g) (hb : Bk w g t cs) : t = e := by
  rcases h.2 with ⟨rfl, _⟩ | ⟨g', cap, cur, rfl, _, h2, _⟩
  · cases hg
  · obtain rfl : g' = g := by simpa [Value.ownBlock] using hg
    exact (hb.uniq h2).1
theorem own_slice {w : World} {b n s : Nat} {e : TypeId} {v : Value} {xs : List Value} (h : w.ownsRow b e s v n xs) : ∃ a n' c, v = .slice a n' c := by
  rcases h.2 with ⟨rfl, _⟩ | ⟨g', cap, cur, rfl, _⟩
  · exact ⟨_, _, _, rfl⟩
  · exact ⟨_, _, _, rfl⟩
theorem own_form {w : World} {b n s : Nat} {e : TypeId} {v : Value} {xs : List Value} (h : w.ownsRow b e s v n xs) : ∃ p c, v = .slice p n c := by
  rcases h.2 with ⟨rfl, rfl⟩ | ⟨g', cap, cur, rfl, _⟩
  · exact ⟨_, _, rfl⟩
  · exact ⟨_, _, rfl⟩
theorem info_out : (Try.prog.info? 34).map (fun i => (i.zero, i.size, i.bytes)) = some (some (.agg #[.int .i64 0, .int .i64 0, .int .u32 0]), 3, 24) := by kernel_rfl
def I64 (i : Int) : Prop := -9223372036854775808 ≤ i ∧ i ≤ 9223372036854775807

/-! ### a pool of the program's -/
/-- What the cell at j of a space holds whose table is at v. -/
def scell (v : Value) (r : Nat) (m : Nat → Nat) (j : Nat) : Value := if j = 0 then v else if j = 1 then .int .i64 r else .int .i64 (m (j - 2))
def scells (v : Value) (r : Nat) (m : Nat → Nat) : Array Value := ((List.range 66).map (scell v r m)).toArray
theorem scells_size (v : Value) (r : Nat) (m : Nat → Nat) : (scells v r m).size = 66 := by simp [scells]
theorem scells_at (v : Value) (r : Nat) (m : Nat → Nat) {j : Nat} (h : j < 66) : (scells v r m)[j]? = some (scell v r m j) := by simp [scells, h]
theorem scell_m (v : Value) (r : Nat) (m : Nat → Nat) (i : Nat) : scell v r m (2 + i) = .int .i64 (m i) := by
  have h1 : 2 + i ≠ 0 := by omega
  have h2 : 2 + i ≠ 1 := by omega
  have h3 : 2 + i - 2 = i := by omega
  simp only [scell, h1, h2, h3, if_false]
theorem scells_ext {v v' x : Value} {r r' : Nat} {m m' : Nat → Nat} {k : Nat} (h : ∀ j, j < 66 → scell v' r' m' j = if k = j then x else scell v r m j) : (scells v r m).setIfInBounds k x = scells v' r' m' := by
  refine Array.ext_getElem? fun j => ?_
  rw [Array.getElem?_setIfInBounds]
  by_cases hj : j < 66
  · rw [scells_at v' r' m' hj, h j hj, scells_at v r m hj, scells_size]
    by_cases e : k = j
    · subst e; simp [hj]
    · simp [e]
  · have h1 : (scells v' r' m')[j]? = none := by rw [Array.getElem?_eq_none]; rw [scells_size]; omega
    have h2 : (scells v r m)[j]? = none := by rw [Array.getElem?_eq_none]; rw [scells_size]; omega
    rw [h1, h2, scells_size]
    by_cases e : k = j
    · rw [if_pos e, if_neg (by omega)]
    · rw [if_neg e]
theorem scells_put_m (v : Value) (r : Nat) (m : Nat → Nat) (i x : Nat) : (scells v r m).setIfInBounds (2 + i) (.int .i64 x) = scells v r (put m i x) := by
  refine scells_ext fun j hj => ?_
  by_cases e : 2 + i = j
  · subst e; rw [if_pos rfl, scell_m, put_same]
  · rw [if_neg e]
    unfold scell
    by_cases h0 : j = 0
    · rw [if_pos h0, if_pos h0]
    · rw [if_neg h0, if_neg h0]
      by_cases h1 : j = 1
      · rw [if_pos h1, if_pos h1]
      · rw [if_neg h1, if_neg h1, put_other (by omega)]
theorem scells_put_0 (v u : Value) (r : Nat) (m : Nat → Nat) : (scells v r m).setIfInBounds 0 u = scells u r m := by
  refine scells_ext fun j hj => ?_
  by_cases e : 0 = j
  · subst e; rw [if_pos rfl]; rfl
  · rw [if_neg e]
    unfold scell
    have h0 : ¬ j = 0 := fun h => e h.symm
    rw [if_neg h0, if_neg h0]
theorem scells_put_1 (v : Value) (r q : Nat) (m : Nat → Nat) : (scells v r m).setIfInBounds 1 (.int .i64 q) = scells v q m := by
  refine scells_ext fun j hj => ?_
  by_cases e : 1 = j
  · subst e; rw [if_pos rfl]; rfl
  · rw [if_neg e]
    unfold scell
    have h0 : ¬ j = 1 := fun h => e h.symm
    rw [if_neg h0, if_neg h0]

/-- The pool at b, its space at s, its table of slots at k. -/
structure PW (w : World) (b s k : Nat) (P : Po) : Prop where
  ok : P.Ok
  hb : Bk w b 46 #[.pointer (some ⟨s, 0, none⟩)]
  hs : Bk w s 73 (scells (.pointer (some ⟨k, 0, none⟩)) P.room P.m)
  tab : TabW w k P.t
def PFoot (b s k : Nat) (g : Nat) : Prop := g = b ∨ g = s ∨ g = k
section
variable {w w' : World} {b s k : Nat} {P : Po}
theorem PW.foot_lt (h : PW w b s k P) {g : Nat} (hg : PFoot b s k g) : g < w.heap.size := by
  rcases hg with rfl | rfl | rfl
  · exact h.hb.lt
  · exact h.hs.lt
  · exact h.tab.bt
theorem PW.same (h : PW w b s k P) (e : ∀ g, PFoot b s k g → w'.heap[g]? = w.heap[g]?) : PW w' b s k P := ⟨h.ok, h.hb.same (e b (.inl rfl)), h.hs.same (e s (.inr (.inl rfl))), h.tab.same (e k (.inr (.inr rfl)))⟩
theorem PW.kept {S : Nat → Prop} (h : PW w b s k P) (q : Kept S w w') (hs : ∀ g, PFoot b s k g → ¬ S g) : PW w' b s k P := h.same fun g hg => q.block g (h.foot_lt hg) (hs g hg)
theorem PW.below (h : PW w b s k P) (q : Below w.heap.size w w') : PW w' b s k P := h.same fun g hg => q.block g (h.foot_lt hg)
theorem PW.drewN (h : PW w b s k P) (n : Nat) : PW (w.drewN n) b s k P := h.same fun _ _ => rfl
theorem PW.bs (h : PW w b s k P) : b ≠ s := by rintro rfl; exact absurd (h.hb.uniq h.hs).1 (by decide)
theorem PW.bk (h : PW w b s k P) : b ≠ k := by rintro rfl; exact absurd (h.hb.uniq h.tab.bk).1 (by decide)
theorem PW.sk (h : PW w b s k P) : s ≠ k := by rintro rfl; exact absurd (h.hs.uniq h.tab.bk).1 (by decide)
theorem PW.c0 (h : PW w b s k P) : w.cell? ⟨b, 0, none⟩ = some (.pointer (some ⟨s, 0, none⟩)) := h.hb.cell 0
theorem PW.s0 (h : PW w b s k P) : w.cell? ⟨s, 0, none⟩ = some (.pointer (some ⟨k, 0, none⟩)) := by rw [h.hs.cell, scells_at _ _ _ (by omega)]; rfl
theorem PW.s1 (h : PW w b s k P) : w.cell? ⟨s, 1, none⟩ = some (.int .i64 P.room) := by rw [h.hs.cell, scells_at _ _ _ (by omega)]; rfl
theorem PW.sm (h : PW w b s k P) {i : Nat} (hi : i < 64) : w.cell? ⟨s, 2 + i, none⟩ = some (.int .i64 (P.m i)) := by rw [h.hs.cell, scells_at _ _ _ (by omega), scell_m]
theorem PW.fz (h : PW w b s k P) (i : Nat) : w.frozen? ⟨s, i, none⟩ = false := h.hs.frozen i
end
/-- A pool that New or Copy did not make: nil, or the zero one. -/
def PInv (w : World) (v : Option Addr) : Prop := v = none ∨ ∃ b, v = some ⟨b, 0, none⟩ ∧ Bk w b 46 #[.pointer none]
theorem PInv.below {w w' : World} {v : Option Addr} (h : PInv w v) (hb : Below w.heap.size w w') : PInv w' v := by
  rcases h with rfl | ⟨b, rfl, h⟩
  · exact .inl rfl
  · exact .inr ⟨b, rfl, h.below hb⟩
end Go.Proofs.Ytjhgckaaaonbiaa
