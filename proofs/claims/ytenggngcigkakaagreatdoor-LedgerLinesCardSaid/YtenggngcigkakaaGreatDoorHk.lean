/- Words for memory: a block that is known whole; what a call may turn; attempts in cells; a slice that reads as a list of attempts; a ledger of the program's (its blocks, what it holds), one of the document's. -/
import Derived.Test.YtenggngcigkakaaGreatDoorHg
import Derived.Test.YtenggngcigkakaaGreatDoorDa
import Derived.WalkKit
import Derived.WalkSpells
import Derived.WalkLawsBesides
import Derived.Lib.Hide
import Derived.Lib.SliceRun
import Derived.Laws.Rows
import Derived.Laws.AppendOwn
import Derived.Laws.AppendOwnNone
import Derived.Maps.AppendAt
import Derived.Maps.OwnRows
import Derived.Maps.Views
import Derived.DeepKeys4
import Derived.Deep.AppendLies
import Derived.Deep.QuietTactic
import Derived.BigQuiet
import Derived.BigFrame
namespace Go.Proofs.YtenggngcigkakaaGreatDoor
open Go.RowKit Go.ChangeShapes

def Bk (w : World) (g : Nat) (t : TypeId) (cs : Array Value) : Prop := w.heap[g]? = some (.cells cs t (0, 0))
section
variable {w w' : World} {g : Nat} {t : TypeId} {cs : Array Value}
theorem Bk.lt (h : Bk w g t cs) : g < w.heap.size := (Array.getElem?_eq_some_iff.1 h).1
theorem Bk.cell (h : Bk w g t cs) (i : Nat) : w.cell? ⟨g, i, none⟩ = cs[i]? := cell_of_row w g i cs t (0, 0) h
theorem Bk.frozen (h : Bk w g t cs) (i : Nat) : w.frozen? ⟨g, i, none⟩ = false := by
  unfold Bk at h
  simp [World.frozen?, h]
theorem Bk.new (w : World) (t : TypeId) (cs : Array Value) : Bk (w.alloc (.cells cs t)) w.heap.size t cs := by
  unfold Bk World.alloc; simp
theorem Bk.same (h : Bk w g t cs) (e : w'.heap[g]? = w.heap[g]?) : Bk w' g t cs := e.trans h
theorem Bk.put (h : Bk w g t cs) (i : Nat) (u : Value) : Bk (w.setCell ⟨g, i, none⟩ u) g t (cs.setIfInBounds i u) := by
  unfold Bk at h ⊢
  simp [World.setCell, Array.getElem?_modify, h]
theorem Bk.uniq {t' : TypeId} {cs' : Array Value} (h : Bk w g t cs) (h' : Bk w g t' cs') : t = t' ∧ cs = cs' := by
  unfold Bk at h h'
  rw [h] at h'
  injection h' with h'
  injection h' with h1 h2
  exact ⟨h2, h1⟩
end

/-- Of the blocks that were there w' has turned those alone that S names. -/
structure Kept (S : Nat → Prop) (w w' : World) : Prop where
  os : w'.os = w.os
  tape : w'.tape = w.tape
  output : w'.output = w.output
  size : w.heap.size ≤ w'.heap.size
  block : ∀ k, k < w.heap.size → ¬ S k → w'.heap[k]? = w.heap[k]?
section
variable {S T : Nat → Prop} {a b c w : World}
theorem Kept.refl (S : Nat → Prop) (w : World) : Kept S w w := ⟨rfl, rfl, rfl, Nat.le_refl _, fun _ _ _ => rfl⟩
theorem Kept.trans (h : Kept S a b) (k : Kept S b c) : Kept S a c :=
  ⟨k.os.trans h.os, k.tape.trans h.tape, k.output.trans h.output, Nat.le_trans h.size k.size, fun i hi hs => (k.block i (Nat.lt_of_lt_of_le hi h.size) hs).trans (h.block i hi hs)⟩
theorem Kept.mono (h : Kept S a b) (e : ∀ k, k < a.heap.size → S k → T k) : Kept T a b := ⟨h.os, h.tape, h.output, h.size, fun k hk hs => h.block k hk fun x => hs (e k hk x)⟩
theorem Kept.drewN (h : Kept S a w) (n : Nat) : Kept S a (w.drewN n) := ⟨h.os, h.tape, h.output, h.size, h.block⟩
theorem Kept.drew (h : Kept S a w) : Kept S a w.drew := ⟨h.os, h.tape, h.output, h.size, h.block⟩
theorem Kept.alloc (h : Kept S a w) (o : Obj) : Kept S a (w.alloc o) :=
  h.trans ⟨rfl, rfl, rfl, by simp, fun k hk _ => Below.heap_alloc _ _ _ hk⟩
theorem Kept.put (h : Kept S a w) {p : Addr} (hp : a.heap.size ≤ p.block ∨ S p.block) (u : Value) : Kept S a (w.setCell p u) :=
  ⟨h.os, h.tape, h.output, by simp; exact h.size, fun k hk hs => (Below.heap_setCell _ _ _ _ (by rcases hp with hp | hp; omega; rintro rfl; exact hs hp)).trans (h.block k hk hs)⟩
theorem Kept.below (h : Kept S a b) {B : Nat} (hB : B ≤ a.heap.size) (hs : ∀ k, S k → B ≤ k) : Below B a b :=
  ⟨h.os, h.tape, h.output, h.size, fun k hk => h.block k (by omega) fun x => by have := hs k x; omega⟩
theorem Kept.of_below (h : Below a.heap.size a b) : Kept S a b := ⟨h.os, h.tape, h.output, h.size, fun k hk _ => h.block k hk⟩
theorem Bk.kept {g : Nat} {t : TypeId} {cs : Array Value} (h : Bk a g t cs) (k : Kept S a b) (hg : ¬ S g) : Bk b g t cs := (k.block g h.lt hg).trans h
theorem Bk.below {g : Nat} {t : TypeId} {cs : Array Value} (h : Bk a g t cs) (k : Below a.heap.size a b) : Bk b g t cs := (k.block g h.lt).trans h
end

theorem Kept.put1 {g : Nat} {a w : World} (h : Kept (· = g) a w) (i : Nat) (u : Value) : Kept (· = g) a (w.setCell ⟨g, i, none⟩ u) := h.put (p := ⟨g, i, none⟩) (.inr rfl) u

theorem bel_drewN {B : Nat} {a w : World} (h : Below B a w) (n : Nat) : Below B a (w.drewN n) := ⟨h.os, h.tape, h.output, h.size, h.block⟩
theorem bel_drew {B : Nat} {a w : World} (h : Below B a w) : Below B a w.drew := ⟨h.os, h.tape, h.output, h.size, h.block⟩

/-! ### attempts in cells -/
def Att.cl (a : Att) : List Value := [.int .i64 a.t, .int .i64 a.k, .int .i64 a.i, .int .u32 a.g, .int .i64 a.y, .int .i64 a.n]
def Att.val (a : Att) : Value := .agg #[.int .i64 a.t, .int .i64 a.k, .int .i64 a.i, .int .u32 a.g, .int .i64 a.y, .int .i64 a.n]
def cls (l : List Att) : List Value := l.flatMap Att.cl
theorem cls_append (l m : List Att) : cls (l ++ m) = cls l ++ cls m := by simp [cls]
theorem cls_cons (a : Att) (l : List Att) : cls (a :: l) = a.cl ++ cls l := by simp [cls]
theorem cls_length (l : List Att) : (cls l).length = l.length * 6 := by
  induction l with
  | nil => rfl
  | cons a l ih => rw [cls_cons, List.length_append, ih, List.length_cons]; simp [Att.cl]; omega
theorem cls_one (l : List Att) : ∀ u ∈ cls l, u.oneCell' = true := by
  intro u hu
  obtain ⟨a, _, h⟩ := List.mem_flatMap.1 hu
  simp only [Att.cl, List.mem_cons, List.not_mem_nil, or_false] at h
  rcases h with rfl | rfl | rfl | rfl | rfl | rfl <;> rfl
theorem cls_take (l : List Att) (n : Nat) : (cls l).take (n * 6) = cls (l.take n) := by
  induction l generalizing n with
  | nil => simp [cls]
  | cons a l ih =>
    cases n with
    | zero => simp [cls]
    | succ n =>
      rw [cls_cons, List.take_succ_cons, cls_cons, List.take_append, ← ih n]
      have e1 : a.cl.length = 6 := rfl
      rw [List.take_of_length_le (by rw [e1]; omega), e1]
      congr 2
      omega
theorem cls_at (l : List Att) (j : Nat) (h : j < l.length) (q : Nat) (hq : q < 6) : (cls l)[j * 6 + q]? = l[j].cl[q]? := by
  induction l generalizing j with
  | nil => simp at h
  | cons a l ih =>
    rw [cls_cons]
    cases j with
    | zero => rw [Nat.zero_mul, Nat.zero_add, List.getElem?_append_left (by simp [Att.cl]; omega)]; rfl
    | succ j =>
      have e1 : a.cl.length = 6 := rfl
      rw [List.getElem?_append_right (by rw [e1]; omega), e1, show (j + 1) * 6 + q - 6 = j * 6 + q by omega, ih j (by simpa using h)]
      rfl

/-! ### slices of attempts -/
/-- The slice value v reads as the attempts l. -/
def RdA (w : World) (v : Value) (l : List Att) : Prop :=
  ∃ a c, v = .slice a l.length c ∧ l.length ≤ c ∧ c ≤ 9223372036854775807 ∧ (a = none → c = 0) ∧ (0 < l.length → ∃ g off, a = some ⟨g, off, none⟩ ∧ g < w.heap.size ∧ ∀ j x, (cls l)[j]? = some x → w.cell? ⟨g, off + j, none⟩ = some x)
section
variable {w w' : World} {v : Value} {l : List Att}
theorem RdA.same (h : RdA w v l) (hs : w.heap.size ≤ w'.heap.size) (e : ∀ g off c n, v = .slice (some ⟨g, off, none⟩) n c → ∀ i, w'.cell? ⟨g, i, none⟩ = w.cell? ⟨g, i, none⟩) : RdA w' v l := by
  obtain ⟨a, c, e0, h1, h2, h3, h4⟩ := h
  refine ⟨a, c, e0, h1, h2, h3, fun h0 => ?_⟩
  obtain ⟨g, off, e2, hg, hc⟩ := h4 h0
  exact ⟨g, off, e2, Nat.lt_of_lt_of_le hg hs, fun j x hj => (e g off c _ (by rw [e0, e2]) _).trans (hc j x hj)⟩
theorem RdA.below (h : RdA w v l) (hb : Below w.heap.size w w') : RdA w' v l := by
  obtain ⟨a, c, e, h1, h2, h3, h4⟩ := h
  refine ⟨a, c, e, h1, h2, h3, fun h0 => ?_⟩
  obtain ⟨g, off, e2, hg, hc⟩ := h4 h0
  exact ⟨g, off, e2, Nat.lt_of_lt_of_le hg hb.size, fun j x hj => (hb.cell (p := ⟨g, off + j, none⟩) hg).trans (hc j x hj)⟩
theorem RdA.nil (w : World) : RdA w (.slice none 0 0) [] := ⟨none, 0, rfl, Nat.le_refl _, by omega, fun _ => rfl, fun h => by simp at h⟩
theorem RdA.len (h : RdA w v l) : ∃ a c, v = .slice a l.length c ∧ RdA w (.slice a l.length c) l := by
  obtain ⟨a, c, e, _⟩ := id h
  subst e
  exact ⟨a, c, rfl, h⟩
theorem RdA.cap {a : Option Addr} {n c : Nat} (h : RdA w (.slice a n c) l) : n = l.length ∧ l.length ≤ c ∧ c ≤ 9223372036854775807 ∧ (a = none → c = 0) := by
  obtain ⟨a', c', e, h1, h2, h3, h4⟩ := h
  injection e with e1 e2 e3
  subst e1 e2 e3
  exact ⟨rfl, h1, h2, h3⟩
/-- The six cells of an attempt at offset o of block g. -/
def Six (w : World) (g o : Nat) (a : Att) : Prop :=
  w.cell? ⟨g, o, none⟩ = some (.int .i64 a.t) ∧ w.cell? ⟨g, o + 1, none⟩ = some (.int .i64 a.k) ∧ w.cell? ⟨g, o + 2, none⟩ = some (.int .i64 a.i) ∧ w.cell? ⟨g, o + 3, none⟩ = some (.int .u32 a.g) ∧ w.cell? ⟨g, o + 4, none⟩ = some (.int .i64 a.y) ∧ w.cell? ⟨g, o + 5, none⟩ = some (.int .i64 a.n)
theorem RdA.cell {a : Option Addr} {n c : Nat} (h : RdA w (.slice a n c) l) {j : Nat} (hj : j < l.length) : ∃ g off, a = some ⟨g, off, none⟩ ∧ g < w.heap.size ∧ Six w g (off + j * 6) l[j] := by
  obtain ⟨a', c', e, h1, h2, h3, h4⟩ := h
  injection e with e1 e2 e3
  subst e1 e2 e3
  obtain ⟨g, off, e2, hg, hc⟩ := h4 (by omega)
  have k : ∀ q, q < 6 → ∀ x, l[j].cl[q]? = some x → w.cell? ⟨g, off + j * 6 + q, none⟩ = some x := fun q hq x hx => by
    rw [Nat.add_assoc]; exact hc _ x ((cls_at l j hj q hq).trans hx)
  exact ⟨g, off, e2, hg, by simpa using k 0 (by omega) _ rfl, k 1 (by omega) _ rfl, k 2 (by omega) _ rfl, k 3 (by omega) _ rfl, k 4 (by omega) _ rfl, k 5 (by omega) _ rfl⟩
theorem RdA.take {a : Option Addr} {n c m : Nat} (h : RdA w (.slice a n c) l) (hm : m ≤ l.length) : RdA w (.slice a m c) (l.take m) := by
  obtain ⟨a', c', e, h1, h2, h3, h4⟩ := h
  injection e with e1 e2 e3
  subst e1 e3
  refine ⟨a, c, by rw [List.length_take, Nat.min_eq_left hm], by rw [List.length_take]; omega, h2, h3, fun h0 => ?_⟩
  rw [List.length_take] at h0
  obtain ⟨g, off, e4, hg, hc⟩ := h4 (by omega)
  refine ⟨g, off, e4, hg, fun j x hj => hc j x ?_⟩
  rw [← cls_take, List.getElem?_take] at hj
  split at hj
  · exact hj
  · cases hj
theorem RdA.of_own {b : Nat} (h : w.ownsRow b 32 6 v l.length (cls l)) : RdA w v l := by
  rcases h.2 with ⟨rfl, h0⟩ | ⟨g, cap, cur, rfl, h1, h2, h3, h4, h5, h6⟩
  · have : l = [] := List.eq_nil_of_length_eq_zero h0
    subst this
    exact RdA.nil w
  · have hg : Bk w g 32 cur := h2
    refine ⟨_, cap, rfl, h3, by unfold maxLen at h4; omega, fun e => (by cases e), fun _ => ⟨g, 0, rfl, hg.lt, fun j x hj => ?_⟩⟩
    have hjl : j < (cls l).length := (List.getElem?_eq_some_iff.1 hj).1
    rw [cls_length] at hjl
    rw [← h6, List.getElem?_take_of_lt (by omega), Array.getElem?_toList] at hj
    rw [Nat.zero_add, hg.cell]; exact hj
end
theorem own_below {w w' : World} {base n s : Nat} {e : TypeId} {v : Value} {xs : List Value} (h : w.ownsRow base e s v n xs) (k : Below w.heap.size w w') : w'.ownsRow base e s v n xs :=
  own_same h fun g hg => k.block g (h.lt g hg).2
theorem own_lower {w : World} {a b : Nat} {e : TypeId} {s : Nat} {v : Value} {n : Nat} {xs : List Value} (h : w.ownsRow a e s v n xs) (hb : b ≤ a) : w.ownsRow b e s v n xs := by
  refine ⟨h.1, ?_⟩
  rcases h.2 with h | ⟨g, cap, cur, h1, h2, h3⟩
  · exact .inl h
  · exact .inr ⟨g, cap, cur, h1, by omega, h3⟩
theorem own_type {w : World} {base n s g : Nat} {e t : TypeId} {v : Value} {xs : List Value} {cs : Array Value} (h : w.ownsRow base e s v n xs) (hg : v.ownBlock = some g) (hb : Bk w g t cs) : t = e := by
  rcases h.2 with ⟨rfl, _⟩ | ⟨g', cap, cur, rfl, _, h2, _⟩
  · cases hg
  · obtain rfl : g' = g := by simpa [Value.ownBlock] using hg
    exact (hb.uniq h2).1
theorem info_att : (Tryz.prog.info? 32).map (fun i => (i.zero, i.size, i.bytes)) = some (some (.agg #[.int .i64 0, .int .i64 0, .int .i64 0, .int .u32 0, .int .i64 0, .int .i64 0]), 6, 48) := by kernel_rfl
theorem info_int : (Tryz.prog.info? 3).map (fun i => (i.zero, i.size, i.bytes)) = some (some (.int .i64 0), 1, 8) := by kernel_rfl

/-! ### the map of places -/
def okey (k i g : Int) : Value := .agg #[.int .i64 k, .int .i64 i, .int .u32 g]
theorem lawO : WideMaps.KeyLaw Tryz.prog 25 := deep_law_laid (by kernel_rfl) (m := 5) (by omega) (of_decide_eq_true (by kernel_rfl)) (by kernel_rfl) (by kernel_rfl)
theorem zeroS (w : World) : (zeroValue 118).run Tryz.prog w = .ok (.slice none 0 0) w := by kernel_rfl
structure RgO (k i g : Int) : Prop where
  k0 : -9223372036854775808 ≤ k
  k1 : k ≤ 9223372036854775807
  i0 : -9223372036854775808 ≤ i
  i1 : i ≤ 9223372036854775807
  g0 : 0 ≤ g
  g1 : g ≤ 4294967295
theorem Att.Rg.o {a : Att} (h : a.Rg) : RgO a.k a.i a.g := ⟨h.k0, h.k1, h.i0, h.i1, h.g0, h.g1⟩
theorem lits_int {P : Program} {d : Nat} {t : TypeId} {q : IntKind} {n : Int} (ht : P.underlying t = some (.int q)) (hw : (Lit.int q n).wf = true) : P.keyLits (d + 1) t [.int q n] = some [.int q n] := by
  simp [Program.keyLits, ht, hw]
theorem keyO : Tryz.prog.keyType 25 = true := by kernel_rfl
theorem cellsO : Tryz.prog.cellsOf 25 = 3 := by kernel_rfl
theorem cellsI : Tryz.prog.cellsOf 3 = 1 := by kernel_rfl
theorem cellsU : Tryz.prog.cellsOf 23 = 1 := by kernel_rfl
theorem sizeT : ∃ d, Tryz.prog.types.size = d + 1 := ⟨Tryz.prog.types.size - 1, (Nat.sub_add_cancel (of_decide_eq_true (by kernel_rfl))).symm⟩
theorem okey_lit {k i g : Int} (h : RgO k i g) : ∃ l, keyOf Tryz.prog 25 (okey k i g) = some l := by
  obtain ⟨h1, h2, h3, h4, h5, h6⟩ := h
  have w1 : (Lit.int .i64 k).wf = true := WalkArith.wf_i64 (by omega)
  have w2 : (Lit.int .i64 i).wf = true := WalkArith.wf_i64 (by omega)
  have w3 : (Lit.int .u32 g).wf = true := WalkArith.wf_u32 (by omega)
  obtain ⟨d, hd⟩ := sizeT
  have hl : Tryz.prog.keyLits (Tryz.prog.types.size + 1) 25 [.int .i64 k, .int .i64 i, .int .u32 g] = some [.int .i64 k, .int .i64 i, .int .u32 g] := by
    rw [hd]
    unfold Program.keyLits
    rw [Tryz.underlying25]
    simp [cellsO, cellsI, cellsU, lits_int Tryz.underlying3 w1, lits_int Tryz.underlying3 w2, lits_int Tryz.underlying23 w3]
  refine ⟨.string (keyBytes [.int .i64 k, .int .i64 i, .int .u32 g]), ?_⟩
  unfold keyOf
  rw [Tryz.underlying25]
  simp only [keyO, okey, Value.formed, Value.cells, Tryz.underlying25, cellsO]
  simp only [List.size_toArray, List.length_cons, List.length_nil, Nat.reduceAdd, beq_self_eq_true, Bool.and_self, if_true]
  rw [hl]
  rfl

/-- What is stored for a resource: its places. -/
def datL (zs : List Int) : DataW Unit := if zs = [] then .nil else .slice (lits .i64 zs) []
def plZ (l : List Att) (k i g : Int) : List Int := (pl l k i g).map fun (j : Nat) => (j : Int)
/-- The map that reads as D knows the places of l. -/
def MapOf (D : DataW Unit) (l : List Att) : Prop :=
  Maps.IsMap D ∧ ∀ k i g kl, RgO k i g → keyOf Tryz.prog 25 (okey k i g) = some kl → D.atKey kl .nil = datL (plZ l k i g)
theorem lits_inj {q : IntKind} {xs ys : List Int} (h : lits (H := Unit) q xs = lits q ys) : xs = ys := by
  unfold lits at h
  exact (List.map_inj_right (fun a b hab => by injection hab with hab; injection hab with h1 h2)).1 h
theorem dat_uniq {w : World} {base : Nat} {e : TypeId} {v : Value} {zs zs' : List Int} (h : w.ownsInts base e .i64 v zs) (he : datL zs' = rowDatum .i64 v zs) : zs = zs' := by
  unfold datL at he
  rcases h.datum (H := Unit) with ⟨h1, h2⟩ | h1
  · rw [h1] at he
    split at he
    · rw [h2]; symm; assumption
    · cases he
  · rw [h1] at he
    split at he
    · cases he
    · injection he with he
      exact (lits_inj he).symm
theorem mapOf_nil : MapOf (.map []) [] := by
  refine ⟨Maps.isMap_empty, fun k i g kl _ _ => ?_⟩
  rfl
theorem is_iff {a : Att} {k i g : Int} : a.is k i g = true ↔ a.k = k ∧ a.i = i ∧ a.g = g := by unfold Att.is; simp
theorem okey_inj {k i g k' i' g' : Int} (h : okey k i g = okey k' i' g') : k = k' ∧ i = i' ∧ g = g' := by
  unfold okey at h
  simpa using h
theorem mapOf_put {D : DataW Unit} {l : List Att} {a : Att} {kl : Lit} {v : Value} {w : World} {base : Nat} {e : TypeId} (h : MapOf D l) (ha : RgO a.k a.i a.g) (hkl : keyOf Tryz.prog 25 (okey a.k a.i a.g) = some kl)
    (hv : w.ownsInts base e .i64 v (plZ l a.k a.i a.g ++ [(l.length : Int)])) : MapOf (D.put kl (rowDatum .i64 v (plZ l a.k a.i a.g ++ [(l.length : Int)]))) (l ++ [a]) := by
  refine ⟨h.1.put _ _, fun k i g kl' hr hkl' => ?_⟩
  by_cases e : a.is k i g
  · obtain ⟨rfl, rfl, rfl⟩ := is_iff.1 e
    rw [hkl] at hkl'
    obtain rfl := Option.some.inj hkl'
    rw [Maps.atKey_put_same h.1 ((Maps.Keyed.of_law lawO).key hkl), hv.datum_pos (by simp)]
    have : plZ (l ++ [a]) a.k a.i a.g = plZ l a.k a.i a.g ++ [(l.length : Int)] := by unfold plZ; rw [pl_snoc, if_pos e]; simp
    rw [this]
    unfold datL
    rw [if_neg (by simp)]
  · have hne : kl ≠ kl' := by
      rintro rfl
      have := okey_inj (lawO.inj hkl hkl')
      exact e (is_iff.2 this)
    rw [Maps.atKey_put_other hne.symm, h.2 k i g kl' hr hkl']
    have : plZ (l ++ [a]) k i g = plZ l k i g := by unfold plZ; rw [pl_snoc, if_neg e]; simp
    rw [this]

/-! ### a ledger of the program's -/
/-- The book in block bk: the attempts l, in a row of its own (value v), and the map of their places in block m; all from block lo on. -/
structure BookW (w : World) (bk m : Nat) (v : Value) (lo : Nat) (l : List Att) : Prop where
  ok : AllOk l
  len : l.length ≤ 10000
  hk : Bk w bk 79 #[v, .map (some m)]
  row : w.ownsRow lo 32 6 v l.length (cls l)
  grp : ∃ D, w.ownsGroups (H := Unit) Tryz.prog 25 (m + 1) 3 .i64 m l.length D ∧ MapOf D l
  lb : lo ≤ bk
  lm : lo ≤ m
/-- The blocks of the book in block bk. -/
def Foot (w : World) (bk g : Nat) : Prop := g = bk ∨ ∃ m v, Bk w bk 79 #[v, .map (some m)] ∧ (g = m ∨ v.ownBlock = some g ∨ gfoot w m g)
section
variable {w w' : World} {bk m lo : Nat} {v : Value} {l : List Att}
theorem BookW.foot (h : BookW w bk m v lo l) {g : Nat} : Foot w bk g ↔ g = bk ∨ g = m ∨ v.ownBlock = some g ∨ gfoot w m g := by
  constructor
  · rintro (e | ⟨m', v', h1, h2⟩)
    · exact .inl e
    · obtain ⟨_, e⟩ := h1.uniq h.hk
      simp only [Array.mk.injEq, List.cons.injEq, Value.map.injEq, Option.some.injEq, and_true] at e
      obtain ⟨rfl, rfl⟩ := e
      exact .inr h2
  · rintro (e | e)
    · exact .inl e
    · exact .inr ⟨m, v, h.hk, e⟩
theorem BookW.foot_le (h : BookW w bk m v lo l) {g : Nat} (hg : Foot w bk g) : lo ≤ g ∧ g < w.heap.size := by
  have hm : m < w.heap.size := by
    obtain ⟨D, ⟨es, clock, hb, _⟩, _⟩ := h.grp
    exact (Array.getElem?_eq_some_iff.1 hb).1
  have h1 := h.lb
  have h2 := h.lm
  rcases h.foot.1 hg with rfl | rfl | e | e
  · exact ⟨h1, h.hk.lt⟩
  · exact ⟨h2, hm⟩
  · exact h.row.lt g e
  · obtain ⟨D, hD, _⟩ := h.grp
    have := gfoot_lt hD e
    omega
/-- Of the rows of attempts the book has one alone. -/
theorem BookW.foot_att (h : BookW w bk m v lo l) {g : Nat} {cs : Array Value} (hg : Foot w bk g) (hb : Bk w g 32 cs) : v.ownBlock = some g := by
  rcases h.foot.1 hg with rfl | rfl | e | e
  · exact absurd (hb.uniq h.hk).1 (by decide)
  · obtain ⟨D, ⟨es, clock, hm, _⟩, _⟩ := h.grp
    unfold Bk at hb
    rw [hm] at hb
    cases hb
  · exact e
  · obtain ⟨D, hD, _⟩ := h.grp
    obtain ⟨cs', hc⟩ := gfoot_type hD e
    exact absurd (hb.uniq (show Bk w g 3 cs' from hc)).1 (by decide)
/-- It stays where its blocks stay. -/
theorem BookW.kept (h : BookW w bk m v lo l) {S : Nat → Prop} (k : Kept S w w') (hs : ∀ g, Foot w bk g → ¬ S g) : BookW w' bk m v lo l ∧ ∀ g, Foot w' bk g ↔ Foot w bk g := by
  have st : ∀ g, Foot w bk g → w'.heap[g]? = w.heap[g]? := fun g hg => k.block g (h.foot_le hg).2 (hs g hg)
  obtain ⟨D, hD, hM⟩ := h.grp
  obtain ⟨hD', hf⟩ := groups_same hD (st m (h.foot.2 (.inr (.inl rfl)))) (fun g hg => st g (h.foot.2 (.inr (.inr (.inr hg)))))
  have h' : BookW w' bk m v lo l := ⟨h.ok, h.len, h.hk.same (st bk (.inl rfl)), own_same h.row fun g hg => st g (h.foot.2 (.inr (.inr (.inl hg)))), ⟨D, hD', hM⟩, h.lb, h.lm⟩
  refine ⟨h', fun g => ?_⟩
  rw [h'.foot, h.foot, hf]
theorem BookW.below (h : BookW w bk m v lo l) (k : Below w.heap.size w w') : BookW w' bk m v lo l ∧ ∀ g, Foot w' bk g ↔ Foot w bk g := h.kept (S := fun _ => False) (Kept.of_below k) (fun _ _ hs => hs)
end
/-- The ledger in block b: its book in block bk. -/
structure LedW (w : World) (b bk lo : Nat) (l : List Att) : Prop where
  hb : Bk w b 56 #[.pointer (some ⟨bk, 0, none⟩)]
  book : ∃ m v, BookW w bk m v lo l
section
variable {w w' : World} {b bk lo : Nat} {l : List Att}
theorem LedW.not_foot (h : LedW w b bk lo l) : ¬ Foot w bk b := by
  intro hf
  obtain ⟨m, v, hB⟩ := h.book
  rcases hB.foot.1 hf with rfl | rfl | e | e
  · exact absurd (h.hb.uniq hB.hk).1 (by decide)
  · obtain ⟨D, ⟨es, clock, hm, _⟩, _⟩ := hB.grp
    have h1 := h.hb
    unfold Bk at h1
    rw [hm] at h1
    cases h1
  · exact absurd (own_type hB.row e h.hb) (by decide)
  · obtain ⟨D, hD, _⟩ := hB.grp
    obtain ⟨cs', hc⟩ := gfoot_type hD e
    exact absurd (h.hb.uniq (show Bk w b 3 cs' from hc)).1 (by decide)
theorem LedW.kept (h : LedW w b bk lo l) {S : Nat → Prop} (k : Kept S w w') (hb : ¬ S b) (hs : ∀ g, Foot w bk g → ¬ S g) : LedW w' b bk lo l ∧ ∀ g, Foot w' bk g ↔ Foot w bk g := by
  obtain ⟨m, v, hB⟩ := h.book
  obtain ⟨h1, h2⟩ := hB.kept k hs
  exact ⟨⟨h.hb.kept k hb, m, v, h1⟩, h2⟩
theorem LedW.below (h : LedW w b bk lo l) (k : Below w.heap.size w w') : LedW w' b bk lo l ∧ ∀ g, Foot w' bk g ↔ Foot w bk g := h.kept (S := fun _ => False) (Kept.of_below k) (fun h => h) (fun _ _ hs => hs)
theorem LedW.foot_le (h : LedW w b bk lo l) {g : Nat} (hg : Foot w bk g) : lo ≤ g ∧ g < w.heap.size := by
  obtain ⟨m, v, hB⟩ := h.book
  exact hB.foot_le hg
theorem LedW.ok (h : LedW w b bk lo l) : AllOk l := by obtain ⟨m, v, hB⟩ := h.book; exact hB.ok
theorem LedW.len (h : LedW w b bk lo l) : l.length ≤ 10000 := by obtain ⟨m, v, hB⟩ := h.book; exact hB.len
end
/-- A ledger that New or Copy did not make: nil, or the zero one. -/
def Inv (w : World) (v : Option Addr) : Prop := v = none ∨ ∃ b, v = some ⟨b, 0, none⟩ ∧ Bk w b 56 #[.pointer none]
theorem Inv.below {w w' : World} {v : Option Addr} (h : Inv w v) (hb : Below w.heap.size w w') : Inv w' v := by
  rcases h with rfl | ⟨b, rfl, h⟩
  · exact .inl rfl
  · exact .inr ⟨b, rfl, h.below hb⟩
/-- A ledger of the document's in block b, its attempts in a row of its own (value v). -/
structure RefW (w : World) (b : Nat) (v : Value) (lo : Nat) (l : List Att) : Prop where
  ok : AllOk l
  len : l.length ≤ 10000
  hb : Bk w b 81 #[.bool true, v]
  row : w.ownsRow lo 32 6 v l.length (cls l)
  lb : lo ≤ b
end Go.Proofs.YtenggngcigkakaaGreatDoor
