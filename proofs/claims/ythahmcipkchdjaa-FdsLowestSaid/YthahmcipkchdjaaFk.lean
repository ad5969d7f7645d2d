/- Words for memory: resources in cells, a map by resources, a table of files of the program's. -/
import Derived.Test.YthahmcipkchdjaaFm
import Derived.Test.YthahmcipkchdjaaSt
import Derived.Laws.AppendOwn
import Derived.Laws.AppendOwnNone
import Derived.Maps.OwnSet
import Derived.Maps.OwnRows
import Derived.DeepKeys4
import Derived.Carry
namespace Go.Proofs.Ythahmcipkchdjaa
open Go.RowKit

theorem bel_drew {B : Nat} {a w : World} (h : Below B a w) : Below B a w.drew := ⟨h.os, h.tape, h.output, h.size, h.block⟩
theorem Bk.up {w : World} {g : Nat} {t : TypeId} {cs : Array Value} (h : Bk w g t cs) (o : Obj) : Bk (w.alloc o) g t cs := h.same (Below.heap_alloc _ _ _ h.lt)
theorem Kept.self {S : Nat → Prop} {a w w' : World} (h : Kept S a w) (k : Kept (fun g => S g ∨ a.heap.size ≤ g) w w') : Kept S a w' :=
  ⟨k.os.trans h.os, k.tape.trans h.tape, k.output.trans h.output, Nat.le_trans h.size k.size, fun i hi hs => (k.block i (Nat.lt_of_lt_of_le hi h.size) (by rintro (x | x); exact hs x; omega)).trans (h.block i hi hs)⟩

/-! ### resources in cells -/
/-- A resource. -/
structure Ro where
  k : Int
  i : Int
  g : Int
/-- What its fields may hold. -/
structure RgO (k i g : Int) : Prop where
  k0 : -9223372036854775808 ≤ k
  k1 : k ≤ 9223372036854775807
  i0 : -9223372036854775808 ≤ i
  i1 : i ≤ 9223372036854775807
  g0 : 0 ≤ g
  g1 : g ≤ 4294967295
def Ro.Rg (o : Ro) : Prop := RgO o.k o.i o.g
def Ro.cl (o : Ro) : List Value := [.int .i64 o.k, .int .i64 o.i, .int .u32 o.g]
def okey (k i g : Int) : Value := .agg #[.int .i64 k, .int .i64 i, .int .u32 g]
def Ro.val (o : Ro) : Value := okey o.k o.i o.g
def ocls (l : List Ro) : List Value := l.flatMap Ro.cl
theorem Ro.ext' {a b : Ro} (h1 : a.k = b.k) (h2 : a.i = b.i) (h3 : a.g = b.g) : a = b := by cases a; cases b; simp_all
theorem ocls_append (l m : List Ro) : ocls (l ++ m) = ocls l ++ ocls m := by simp [ocls]
theorem ocls_cons (a : Ro) (l : List Ro) : ocls (a :: l) = a.cl ++ ocls l := by simp [ocls]
theorem ocls_length (l : List Ro) : (ocls l).length = l.length * 3 := by
  induction l with
  | nil => rfl
  | cons a l ih => rw [ocls_cons, List.length_append, ih, List.length_cons]; simp [Ro.cl]; omega
theorem ocls_one (l : List Ro) : ∀ u ∈ ocls l, u.oneCell' = true := by
  intro u hu
  obtain ⟨a, _, h⟩ := List.mem_flatMap.1 hu
  simp only [Ro.cl, List.mem_cons, List.not_mem_nil, or_false] at h
  rcases h with rfl | rfl | rfl <;> rfl
theorem ocls_at (l : List Ro) (j : Nat) (h : j < l.length) (q : Nat) (hq : q < 3) : (ocls l)[j * 3 + q]? = l[j].cl[q]? := by
  induction l generalizing j with
  | nil => simp at h
  | cons a l ih =>
    rw [ocls_cons]
    cases j with
    | zero => rw [Nat.zero_mul, Nat.zero_add, List.getElem?_append_left (by simp [Ro.cl]; omega)]; rfl
    | succ j =>
      have e1 : a.cl.length = 3 := rfl
      rw [List.getElem?_append_right (by rw [e1]; omega), e1, show (j + 1) * 3 + q - 3 = j * 3 + q by omega, ih j (by simpa using h)]
      rfl
/-- A list of files: what All returns. -/
def fro (r : Nat × Nat) : Ro := ⟨1, r.1, r.2⟩
def Fb.all (F : Fb) : List Ro := F.t.now.map fro
theorem Fb.all_len (F : Fb) : F.all.length = F.t.held.length := by simp [Fb.all, Tb.now_len]

/-! ### slices of resources -/
/-- The slice value v reads as the resources l. -/
def RdO (w : World) (v : Value) (l : List Ro) : Prop :=
  ∃ a c, v = .slice a l.length c ∧ l.length ≤ c ∧ c ≤ 9223372036854775807 ∧ (a = none → c = 0) ∧ (0 < l.length → ∃ g off, a = some ⟨g, off, none⟩ ∧ g < w.heap.size ∧ ∀ j x, (ocls l)[j]? = some x → w.cell? ⟨g, off + j, none⟩ = some x)
section
variable {w w' : World} {v : Value} {l : List Ro}
theorem RdO.same (h : RdO w v l) (hs : w.heap.size ≤ w'.heap.size) (e : ∀ g, v.ownBlock = some g → g < w.heap.size → w'.heap[g]? = w.heap[g]?) : RdO w' v l := by
  obtain ⟨a, c, e0, h1, h2, h3, h4⟩ := h
  refine ⟨a, c, e0, h1, h2, h3, fun h0 => ?_⟩
  obtain ⟨g, off, e2, hg, hc⟩ := h4 h0
  exact ⟨g, off, e2, Nat.lt_of_lt_of_le hg hs, fun j x hj => (World.cell?_of_block (a := ⟨g, off + j, none⟩) (e g (by rw [e0, e2]; rfl) hg)).trans (hc j x hj)⟩
theorem RdO.below (h : RdO w v l) (hb : Below w.heap.size w w') : RdO w' v l := h.same hb.size fun g _ hg => hb.block g hg
theorem RdO.kept {S : Nat → Prop} (h : RdO w v l) (k : Kept S w w') (hs : ∀ g, v.ownBlock = some g → ¬ S g) : RdO w' v l := h.same k.size fun g e hg => k.block g hg (hs g e)
theorem RdO.nil (w : World) : RdO w (.slice none 0 0) [] := ⟨none, 0, rfl, Nat.le_refl _, by omega, fun _ => rfl, fun h => by simp at h⟩
theorem RdO.len (h : RdO w v l) : ∃ a c, v = .slice a l.length c ∧ l.length ≤ c ∧ c ≤ 9223372036854775807 ∧ RdO w (.slice a l.length c) l := by
  obtain ⟨a, c, e, h1, h2, _⟩ := id h
  subst e
  exact ⟨a, c, rfl, h1, h2, h⟩
/-- The three cells of a resource at offset o of block g. -/
def Three (w : World) (g o : Nat) (a : Ro) : Prop :=
  w.cell? ⟨g, o, none⟩ = some (.int .i64 a.k) ∧ w.cell? ⟨g, o + 1, none⟩ = some (.int .i64 a.i) ∧ w.cell? ⟨g, o + 2, none⟩ = some (.int .u32 a.g)
theorem RdO.cell {a : Option Addr} {n c : Nat} (h : RdO w (.slice a n c) l) {j : Nat} (hj : j < l.length) : ∃ g off, a = some ⟨g, off, none⟩ ∧ g < w.heap.size ∧ Three w g (off + j * 3) l[j] := by
  obtain ⟨a', c', e, h1, h2, h3, h4⟩ := h
  injection e with e1 e2 e3
  subst e1 e2 e3
  obtain ⟨g, off, e2, hg, hc⟩ := h4 (by omega)
  have k : ∀ q, q < 3 → ∀ x, l[j].cl[q]? = some x → w.cell? ⟨g, off + j * 3 + q, none⟩ = some x := fun q hq x hx => by
    rw [Nat.add_assoc]; exact hc _ x ((ocls_at l j hj q hq).trans hx)
  exact ⟨g, off, e2, hg, by simpa using k 0 (by omega) _ rfl, k 1 (by omega) _ rfl, k 2 (by omega) _ rfl⟩
theorem RdO.of_own {b : Nat} (h : w.ownsRow b 25 3 v l.length (ocls l)) : RdO w v l := by
  rcases h.2 with ⟨rfl, h0⟩ | ⟨g, cap, cur, rfl, h1, h2, h3, h4, h5, h6⟩
  · have : l = [] := List.eq_nil_of_length_eq_zero h0
    subst this
    exact RdO.nil w
  · have hg : Bk w g 25 cur := h2
    refine ⟨_, cap, rfl, h3, by unfold maxLen at h4; omega, fun e => (by cases e), fun _ => ⟨g, 0, rfl, hg.lt, fun j x hj => ?_⟩⟩
    have hjl : j < (ocls l).length := (List.getElem?_eq_some_iff.1 hj).1
    rw [ocls_length] at hjl
    rw [← h6, List.getElem?_take_of_lt (by omega), Array.getElem?_toList] at hj
    rw [Nat.zero_add, hg.cell]; exact hj
end
theorem own_same {w w' : World} {base n s : Nat} {e : TypeId} {v : Value} {xs : List Value} (h : w.ownsRow base e s v n xs) (k : ∀ g, v.ownBlock = some g → w'.heap[g]? = w.heap[g]?) : w'.ownsRow base e s v n xs := by
  refine ⟨h.1, ?_⟩
  rcases h.2 with h | ⟨g, cap, cur, h1, h2, h3, h4⟩
  · exact .inl h
  · exact .inr ⟨g, cap, cur, h1, h2, (k g (by rw [h1]; rfl)).trans h3, h4⟩
theorem own_below {w w' : World} {base n s : Nat} {e : TypeId} {v : Value} {xs : List Value} (h : w.ownsRow base e s v n xs) (k : Below w.heap.size w w') : w'.ownsRow base e s v n xs :=
  own_same h fun g hg => k.block g (h.lt g hg).2
theorem own_lower {w : World} {a b : Nat} {e : TypeId} {s : Nat} {v : Value} {n : Nat} {xs : List Value} (h : w.ownsRow a e s v n xs) (hb : b ≤ a) : w.ownsRow b e s v n xs := by
  refine ⟨h.1, ?_⟩
  rcases h.2 with h | ⟨g, cap, cur, h1, h2, h3⟩
  · exact .inl h
  · exact .inr ⟨g, cap, cur, h1, by omega, h3⟩
theorem own_type {w : World} {base n s g : Nat} {e t : TypeId} {v : Value} {xs : List Value} {cs : Array Value} (h : w.ownsRow base e s v n xs) (hg : v.ownBlock = some g) (hb : Bk w g t cs) : t = e := by
  rcases h.2 with ⟨rfl, _⟩ | ⟨g', cap, cur, rfl, _, h2, _⟩
  · cases hg
  · obtain rfl : g' = g := by simpa [Value.ownBlock] using hg
    exact (hb.uniq h2).1
theorem own_slice {w : World} {b n s : Nat} {e : TypeId} {v : Value} {xs : List Value} (h : w.ownsRow b e s v n xs) : ∃ a n' c, v = .slice a n' c := by
  rcases h.2 with ⟨rfl, _⟩ | ⟨g', cap, cur, rfl, _⟩
  · exact ⟨_, _, _, rfl⟩
  · exact ⟨_, _, _, rfl⟩
theorem info_out : (Try.prog.info? 25).map (fun i => (i.zero, i.size, i.bytes)) = some (some (.agg #[.int .i64 0, .int .i64 0, .int .u32 0]), 3, 24) := by kernel_rfl

/-! ### a map by resources -/
theorem lawO : WideMaps.KeyLaw Try.prog 25 := deep_law_laid (by kernel_rfl) (m := 5) (by omega) (of_decide_eq_true (by kernel_rfl)) (by kernel_rfl) (by kernel_rfl)
theorem keyedO : Maps.Keyed Try.prog 25 := Maps.Keyed.of_law lawO
theorem zeroI (w : World) : (zeroValue 3).run Try.prog w = .ok (.int .i64 0) w := by kernel_rfl
theorem lits_int {P : Program} {d : Nat} {t : TypeId} {q : IntKind} {n : Int} (ht : P.underlying t = some (.int q)) (hw : (Lit.int q n).wf = true) : P.keyLits (d + 1) t [.int q n] = some [.int q n] := by
  simp [Program.keyLits, ht, hw]
theorem keyO : Try.prog.keyType 25 = true := by kernel_rfl
theorem cellsO : Try.prog.cellsOf 25 = 3 := by kernel_rfl
theorem cellsI : Try.prog.cellsOf 3 = 1 := by kernel_rfl
theorem cellsU : Try.prog.cellsOf 22 = 1 := by kernel_rfl
theorem sizeT : ∃ d, Try.prog.types.size = d + 1 := ⟨Try.prog.types.size - 1, (Nat.sub_add_cancel (of_decide_eq_true (by kernel_rfl))).symm⟩
theorem okey_lit {k i g : Int} (h : RgO k i g) : ∃ l, keyOf Try.prog 25 (okey k i g) = some l := by
  obtain ⟨h1, h2, h3, h4, h5, h6⟩ := h
  have w1 : (Lit.int .i64 k).wf = true := WalkArith.wf_i64 (by omega)
  have w2 : (Lit.int .i64 i).wf = true := WalkArith.wf_i64 (by omega)
  have w3 : (Lit.int .u32 g).wf = true := WalkArith.wf_u32 (by omega)
  obtain ⟨d, hd⟩ := sizeT
  have hl : Try.prog.keyLits (Try.prog.types.size + 1) 25 [.int .i64 k, .int .i64 i, .int .u32 g] = some [.int .i64 k, .int .i64 i, .int .u32 g] := by
    rw [hd]
    unfold Program.keyLits
    rw [Try.underlying25]
    simp [cellsO, cellsI, cellsU, lits_int Try.underlying3 w1, lits_int Try.underlying3 w2, lits_int Try.underlying22 w3]
  refine ⟨.string (keyBytes [.int .i64 k, .int .i64 i, .int .u32 g]), ?_⟩
  unfold keyOf
  rw [Try.underlying25]
  simp only [keyO, okey, Value.formed, Value.cells, Try.underlying25, cellsO]
  simp only [List.size_toArray, List.length_cons, List.length_nil, Nat.reduceAdd, beq_self_eq_true, Bool.and_self, if_true]
  rw [hl]
  rfl
theorem okey_inj {k i g k' i' g' : Int} (h : okey k i g = okey k' i' g') : k = k' ∧ i = i' ∧ g = g' := by
  unfold okey at h
  simpa using h
def I64 (i : Int) : Prop := -9223372036854775808 ≤ i ∧ i ≤ 9223372036854775807
/-- What a map holds of each resource. -/
abbrev Lk := Int → Int → Int → Option Int
def upd (T : Lk) (k i g : Int) (t : Option Int) : Lk := fun k' i' g' => if k' = k ∧ i' = i ∧ g' = g then t else T k' i' g'
theorem upd_same (T : Lk) (k i g : Int) (t : Option Int) : upd T k i g t k i g = t := if_pos ⟨rfl, rfl, rfl⟩
theorem upd_other {T : Lk} {k i g k' i' g' : Int} (t : Option Int) (h : ¬ (k' = k ∧ i' = i ∧ g' = g)) : upd T k i g t k' i' g' = T k' i' g' := if_neg h
def MapOf (D : DataW Unit) (T : Lk) : Prop := ∀ k i g kl, RgO k i g → keyOf Try.prog 25 (okey k i g) = some kl → D.atKey kl (.lit (.int .i64 0)) = .lit (.int .i64 ((T k i g).getD 0)) ∧ Maps.has D kl = (T k i g).isSome
/-- Block m is a map of n numbers that gives T. -/
def MapW (w : World) (m n : Nat) (T : Lk) : Prop := ∃ D : DataW Unit, w.ownsMap Try.prog 25 (plainElem Try.prog 3) m n D ∧ Maps.size D = n ∧ MapOf D T
section
variable {w w' : World} {m n : Nat} {T U : Lk}
theorem MapW.lt (h : MapW w m n T) : m < w.heap.size := by obtain ⟨D, h, _⟩ := h; exact h.lt
theorem MapW.same (h : MapW w m n T) (e : w'.heap[m]? = w.heap[m]?) : MapW w' m n T := by
  obtain ⟨D, ⟨es, clock, hb, r⟩, h2⟩ := h
  exact ⟨D, ⟨es, clock, e.trans hb, r⟩, h2⟩
theorem MapW.congr (h : MapW w m n T) (e : ∀ k i g, RgO k i g → T k i g = U k i g) : MapW w m n U := by
  obtain ⟨D, h1, h2, h3⟩ := h
  exact ⟨D, h1, h2, fun k i g kl hr hk => by rw [← e k i g hr]; exact h3 k i g kl hr hk⟩
theorem MapW.new (w : World) : MapW (w.alloc (.map #[] 0)) w.heap.size 0 (fun _ _ _ => none) := ⟨.map [], World.ownsMap_made w _ _ _, rfl, fun _ _ _ _ _ _ => ⟨rfl, rfl⟩⟩
theorem MapW.no_cells (h : MapW w m n T) {t : TypeId} {cs : Array Value} (hb : Bk w m t cs) : False := by
  obtain ⟨D, ⟨es, clock, hm, _⟩, _⟩ := h
  unfold Bk at hb
  rw [hm] at hb
  cases hb
theorem lit_eq {c y : Int} (e : (DataW.lit (.int .i64 c) : DataW Unit) = .lit (.int .i64 y)) : c = y := by
  injection e with e
  injection e
theorem MapW.look (h : MapW w m n T) {k i g : Int} (hr : RgO k i g) : (Instr.lookup 49 (.map (some m)) (okey k i g) false).run Try.prog w = .ok (.int .i64 ((T k i g).getD 0)) w := by
  obtain ⟨D, h1, _, h3⟩ := h
  obtain ⟨kl, hkl⟩ := okey_lit hr
  obtain ⟨c, hrun, hc, _⟩ := h1.lookup_int keyedO Try.underlying49 Try.underlying3 (zeroI w) hkl
  have e := (h3 k i g kl hr hkl).1
  rw [hc] at e
  have e2 : c = (T k i g).getD 0 := by
    exact lit_eq e
  rw [hrun, e2]
theorem MapW.len (h : MapW w m n T) (ty : TypeId) : (Builtin.len_ #[49] ty #[.map (some m)]).run Try.prog w = .ok (.int .i64 n) w := by
  obtain ⟨D, h1, h2, _⟩ := h
  rw [h1.len Try.underlying49 ty, h2]
theorem tight {D : DataW Unit} {n : Nat} (h : w.ownsMap Try.prog 25 (plainElem Try.prog 3) m n D) : w.ownsMap Try.prog 25 (plainElem Try.prog 3) m (Maps.size D) D := by
  obtain ⟨es, clock, hb, F, hs, hD⟩ := h
  refine ⟨es, clock, hb, F, ?_, hD⟩
  rw [hD]
  simp [Maps.size, length_sorted]
theorem turned_kept {b : Nat} (h : w.mapTurned w' b) : Kept (· = b) w w' := by
  have g := h.grown
  exact ⟨g.os, g.tape, g.output, g.size, fun k hk hs => g.block k hk fun e => hs (Option.some.inj e)⟩
theorem MapW.store (h : MapW w m n T) {k i g t : Int} (hr : RgO k i g) (ht : I64 t) (h0 : T k i g = none) (hn : n < maxLen) : ∃ w', (Instr.mapUpdate 49 (.map (some m)) (okey k i g) (.int .i64 t)).run Try.prog w = .ok () w' ∧ MapW w' m (n + 1) (upd T k i g (some t)) ∧ Kept (· = m) w w' := by
  obtain ⟨D, h1, h2, h3⟩ := h
  have ti := h1.tidy keyedO
  obtain ⟨kl, hkl⟩ := okey_lit hr
  have kk : WideAt.IsKeyLit kl := keyedO.key hkl
  obtain ⟨w', hrun, ho, hk⟩ := h1.store keyedO Try.underlying49 hn hkl (plainElem_int (H := Unit) (P := Try.prog) Try.underlying3 (WalkArith.wf_i64 (n := t) ⟨ht.1, by have := ht.2; omega⟩))
  have hs : Maps.size (D.put kl (.lit (.int .i64 t))) = n + 1 := by
    rw [Maps.size_put ti, (h3 k i g kl hr hkl).2, h0, h2]; rfl
  refine ⟨w', hrun, ⟨_, ho, hs, fun k' i' g' kl' hr' hkl' => ?_⟩, turned_kept hk⟩
  by_cases e : k' = k ∧ i' = i ∧ g' = g
  · obtain ⟨rfl, rfl, rfl⟩ := e
    rw [hkl] at hkl'
    obtain rfl := Option.some.inj hkl'
    rw [upd_same, Maps.atKey_put_same ti.isMap kk, Maps.has_put_same ti.isMap kk]
    exact ⟨rfl, rfl⟩
  · have hne : kl' ≠ kl := by
      rintro rfl
      exact e (okey_inj (lawO.inj hkl' hkl))
    rw [upd_other _ e, Maps.atKey_put_other hne, Maps.has_put_other hne]
    exact h3 k' i' g' kl' hr' hkl'
theorem MapW.drop (h : MapW w m n T) {k i g : Int} (hr : RgO k i g) (h0 : (T k i g).isSome = true) (ty : TypeId) : ∃ w', (Builtin.delete_ #[49, 25] ty #[.map (some m), okey k i g]).run Try.prog w = .ok (.tuple #[]) w' ∧ MapW w' m (n - 1) (upd T k i g none) ∧ Kept (· = m) w w' := by
  obtain ⟨D, h1, h2, h3⟩ := h
  have ti := h1.tidy keyedO
  obtain ⟨kl, hkl⟩ := okey_lit hr
  obtain ⟨w', hrun, ho, hk⟩ := h1.drop keyedO Try.underlying49 hkl ty
  have hs : Maps.size (D.del kl) = n - 1 := by
    have := Maps.size_del (k := kl) ti
    rw [(h3 k i g kl hr hkl).2, h0, h2] at this
    simp at this; omega
  refine ⟨w', hrun, ⟨_, hs ▸ tight ho, hs, fun k' i' g' kl' hr' hkl' => ?_⟩, turned_kept hk⟩
  by_cases e : k' = k ∧ i' = i ∧ g' = g
  · obtain ⟨rfl, rfl, rfl⟩ := e
    rw [hkl] at hkl'
    obtain rfl := Option.some.inj hkl'
    rw [upd_same, Maps.atKey_del_same, Maps.has_del_same]
    exact ⟨rfl, rfl⟩
  · have hne : kl' ≠ kl := by
      rintro rfl
      exact e (okey_inj (lawO.inj hkl' hkl))
    rw [upd_other _ e, Maps.atKey_del_other hne, Maps.has_del_other hne]
    exact h3 k' i' g' kl' hr' hkl'
end

/-! ### a table of files of the program's -/
structure FW (w : World) (b k m : Nat) (F : Fb) : Prop where
  ok : F.Ok
  hb : Bk w b 75 #[.pointer (some ⟨k, 0, none⟩), .map (some m)]
  tab : TabW w k F.t
  map : MapW w m F.t.held.length F.look
def FFoot (b k m : Nat) (g : Nat) : Prop := g = b ∨ g = k ∨ g = m
section
variable {w w' : World} {b k m : Nat} {F : Fb}
theorem FW.foot_lt (h : FW w b k m F) {g : Nat} (hg : FFoot b k m g) : g < w.heap.size := by
  rcases hg with rfl | rfl | rfl
  · exact h.hb.lt
  · exact h.tab.bt
  · exact h.map.lt
theorem FW.same (h : FW w b k m F) (e : ∀ g, FFoot b k m g → w'.heap[g]? = w.heap[g]?) : FW w' b k m F := ⟨h.ok, h.hb.same (e b (.inl rfl)), h.tab.same (e k (.inr (.inl rfl))), h.map.same (e m (.inr (.inr rfl)))⟩
theorem FW.kept {S : Nat → Prop} (h : FW w b k m F) (q : Kept S w w') (hs : ∀ g, FFoot b k m g → ¬ S g) : FW w' b k m F := h.same fun g hg => q.block g (h.foot_lt hg) (hs g hg)
theorem FW.below (h : FW w b k m F) (q : Below w.heap.size w w') : FW w' b k m F := h.same fun g hg => q.block g (h.foot_lt hg)
theorem FW.bk (h : FW w b k m F) : b ≠ k := by rintro rfl; exact absurd (h.hb.uniq h.tab.bk).1 (by decide)
theorem FW.bm (h : FW w b k m F) : b ≠ m := by rintro rfl; exact h.map.no_cells h.hb
theorem FW.km (h : FW w b k m F) : k ≠ m := by rintro rfl; exact h.map.no_cells h.tab.bk
theorem FW.c0 (h : FW w b k m F) : w.cell? ⟨b, 0, none⟩ = some (.pointer (some ⟨k, 0, none⟩)) := h.hb.cell 0
theorem FW.c1 (h : FW w b k m F) : w.cell? ⟨b, 1, none⟩ = some (.map (some m)) := h.hb.cell 1
end
/-- A table that New or Copy did not make: nil, or the zero one. -/
def FInv (w : World) (v : Option Addr) : Prop := v = none ∨ ∃ b, v = some ⟨b, 0, none⟩ ∧ Bk w b 75 #[.pointer none, .map none]
theorem FInv.below {w w' : World} {v : Option Addr} (h : FInv w v) (hb : Below w.heap.size w w') : FInv w' v := by
  rcases h with rfl | ⟨b, rfl, h⟩
  · exact .inl rfl
  · exact .inr ⟨b, rfl, h.below hb⟩
end Go.Proofs.Ythahmcipkchdjaa
