/- The memory of BufsNames between its calls: the pool, the list of what is pinned, the list of what is gone, the map of what was seen. -/
import Derived.Test.YtjhgckaaaonbiaaUn
import Derived.Test.YtjhgckaaaonbiaaUv
import Derived.Maps.AppendAt
import Derived.Laws.OwnMore
namespace Go.Proofs.Ytjhgckaaaonbiaa
open Go.RowKit

/-! ### a map by resources, of Booleans -/
theorem lawO : WideMaps.KeyLaw Try.prog 34 := deep_law_laid (by kernel_rfl) (m := 5) (by omega) (of_decide_eq_true (by kernel_rfl)) (by kernel_rfl) (by kernel_rfl)
theorem keyedO : Maps.Keyed Try.prog 34 := Maps.Keyed.of_law lawO
theorem zeroB (w : World) : (zeroValue 4).run Try.prog w = .ok (.bool false) w := by kernel_rfl
theorem lits_int {P : Program} {d : Nat} {t : TypeId} {q : IntKind} {n : Int} (ht : P.underlying t = some (.int q)) (hw : (Lit.int q n).wf = true) : P.keyLits (d + 1) t [.int q n] = some [.int q n] := by
  simp [Program.keyLits, ht, hw]
theorem keyO : Try.prog.keyType 34 = true := by kernel_rfl
theorem cellsO : Try.prog.cellsOf 34 = 3 := by kernel_rfl
theorem cellsI : Try.prog.cellsOf 3 = 1 := by kernel_rfl
theorem cellsU : Try.prog.cellsOf 22 = 1 := by kernel_rfl
theorem sizeT : ∃ d, Try.prog.types.size = d + 1 := ⟨Try.prog.types.size - 1, (Nat.sub_add_cancel (of_decide_eq_true (by kernel_rfl))).symm⟩
theorem okey_lit {k i g : Int} (h : RgO k i g) : ∃ l, keyOf Try.prog 34 (okey k i g) = some l := by
  obtain ⟨h1, h2, h3, h4, h5, h6⟩ := h
  have w1 : (Lit.int .i64 k).wf = true := WalkArith.wf_i64 (by omega)
  have w2 : (Lit.int .i64 i).wf = true := WalkArith.wf_i64 (by omega)
  have w3 : (Lit.int .u32 g).wf = true := WalkArith.wf_u32 (by omega)
  obtain ⟨d, hd⟩ := sizeT
  have hl : Try.prog.keyLits (Try.prog.types.size + 1) 34 [.int .i64 k, .int .i64 i, .int .u32 g] = some [.int .i64 k, .int .i64 i, .int .u32 g] := by
    rw [hd]
    unfold Program.keyLits
    rw [Try.underlying34]
    simp [cellsO, cellsI, cellsU, lits_int Try.underlying3 w1, lits_int Try.underlying3 w2, lits_int Try.underlying22 w3]
  refine ⟨.string (keyBytes [.int .i64 k, .int .i64 i, .int .u32 g]), ?_⟩
  unfold keyOf
  rw [Try.underlying34]
  simp only [keyO, okey, Value.formed, Value.cells, Try.underlying34, cellsO]
  simp only [List.size_toArray, List.length_cons, List.length_nil, Nat.reduceAdd, beq_self_eq_true, Bool.and_self, if_true]
  rw [hl]
  rfl
theorem okey_inj {k i g k' i' g' : Int} (h : okey k i g = okey k' i' g') : k = k' ∧ i = i' ∧ g = g' := by
  unfold okey at h
  simpa using h
theorem plainElem_bool_inv {H : Type} {P : Program} {e : TypeId} (he : P.underlying e = some .bool) {v : Value} {z : DataW H × List MemPlace} (h : plainElem P e v = some z) : ∃ x, v = .bool x ∧ z = (.lit (.bool x), []) := by
  unfold plainElem at h
  rw [he] at h
  cases v <;> simp at h
  exact ⟨_, rfl, h.symm⟩
def SetOf (D : DataW Unit) (N : Sn) : Prop := ∀ k i g kl, RgO k i g → keyOf Try.prog 34 (okey k i g) = some kl → D.atKey kl (.lit (.bool false)) = .lit (.bool (N k i g))
/-- Block m is a map that gives N. -/
def MapB (w : World) (m n : Nat) (N : Sn) : Prop := ∃ D : DataW Unit, w.ownsMap Try.prog 34 (plainElem Try.prog 4) m n D ∧ SetOf D N
section
variable {w w' : World} {m n : Nat} {N : Sn}
theorem MapB.lt (h : MapB w m n N) : m < w.heap.size := by obtain ⟨D, h, _⟩ := h; exact h.lt
theorem MapB.same (h : MapB w m n N) (e : w'.heap[m]? = w.heap[m]?) : MapB w' m n N := by
  obtain ⟨D, ⟨es, clock, hb, r⟩, h2⟩ := h
  exact ⟨D, ⟨es, clock, e.trans hb, r⟩, h2⟩
theorem MapB.kept {S : Nat → Prop} (h : MapB w m n N) (q : Kept S w w') (hs : ¬ S m) : MapB w' m n N := h.same (q.block m h.lt hs)
theorem MapB.new (w : World) : MapB (w.alloc (.map #[] 0)) w.heap.size 0 (fun _ _ _ => false) := ⟨.map [], World.ownsMap_made w _ _ _, fun _ _ _ _ _ _ => rfl⟩
theorem MapB.no_cells (h : MapB w m n N) {t : TypeId} {cs : Array Value} (hb : Bk w m t cs) : False := by
  obtain ⟨D, ⟨es, clock, hm, _⟩, _⟩ := h
  unfold Bk at hb
  rw [hm] at hb
  cases hb
theorem bool_eq {c y : Bool} (e : (DataW.lit (.bool c) : DataW Unit) = .lit (.bool y)) : c = y := by
  injection e with e
  injection e
theorem MapB.look (h : MapB w m n N) {k i g : Int} (hr : RgO k i g) : (Instr.lookup 55 (.map (some m)) (okey k i g) false).run Try.prog w = .ok (.bool (N k i g)) w := by
  obtain ⟨D, h1, h3⟩ := h
  obtain ⟨kl, hkl⟩ := okey_lit hr
  obtain ⟨v, ps, hrun, hv⟩ := h1.lookup keyedO Try.underlying55 (zeroB w) (plainElem_bool Try.underlying4 false) hkl
  obtain ⟨x, rfl, hx⟩ := plainElem_bool_inv Try.underlying4 hv
  simp only [Prod.mk.injEq] at hx
  have e := h3 k i g kl hr hkl
  rw [hx.1] at e
  rw [hrun, bool_eq e]
theorem MapB.store (h : MapB w m n N) {k i g : Int} (hr : RgO k i g) (hn : n < maxLen) : ∃ w', (Instr.mapUpdate 55 (.map (some m)) (okey k i g) (.bool true)).run Try.prog w = .ok () w' ∧ MapB w' m (n + 1) (seen1 N k i g) ∧ Kept (· = m) w w' := by
  obtain ⟨D, h1, h3⟩ := h
  have ti := h1.tidy keyedO
  obtain ⟨kl, hkl⟩ := okey_lit hr
  have kk : WideAt.IsKeyLit kl := keyedO.key hkl
  obtain ⟨w', hrun, ho, hk⟩ := h1.update keyedO Try.underlying55 hn hkl (plainElem_bool (H := Unit) (P := Try.prog) Try.underlying4 true)
  refine ⟨w', hrun, ⟨_, ho, fun k' i' g' kl' hr' hkl' => ?_⟩, ⟨hk.os, hk.tape, hk.output, hk.size, fun j hj hs => hk.block j hj fun e => hs (Option.some.inj e)⟩⟩
  by_cases e : k' = k ∧ i' = i ∧ g' = g
  · obtain ⟨rfl, rfl, rfl⟩ := e
    rw [hkl] at hkl'
    obtain rfl := Option.some.inj hkl'
    have e2 : seen1 N k' i' g' k' i' g' = true := if_pos ⟨rfl, rfl, rfl⟩
    rw [e2, Maps.atKey_put_same ti.isMap kk]
  · have hne : kl' ≠ kl := by
      rintro rfl
      exact e (okey_inj (lawO.inj hkl' hkl))
    have e2 : seen1 N k i g k' i' g' = N k' i' g' := if_neg e
    rw [e2, Maps.atKey_put_other hne]
    exact h3 k' i' g' kl' hr' hkl'
end

/-! ### a list of what is pinned, in cells of four -/
def It.cl (r : It) : List Value := [.int .i64 2, .int .i64 r.i, .int .u32 r.g, .int .i64 r.x]
def icls (L : List It) : List Value := L.flatMap It.cl
theorem icls_length : ∀ L : List It, (icls L).length = L.length * 4
  | [] => rfl
  | e :: L => by
    have := icls_length L
    unfold icls at *
    rw [List.flatMap_cons, List.length_append, this]
    simp only [List.length_cons, It.cl, List.length_nil]; omega
theorem icls_append (L M : List It) : icls (L ++ M) = icls L ++ icls M := by unfold icls; rw [List.flatMap_append]
theorem icls_snoc (L : List It) (r : It) : icls (L ++ [r]) = icls L ++ r.cl := by rw [icls_append]; simp [icls]
theorem icls_one (L : List It) : ∀ u ∈ icls L, u.oneCell' = true := by
  intro u hu
  obtain ⟨e, _, h⟩ := List.mem_flatMap.1 hu
  simp only [It.cl, List.mem_cons, List.not_mem_nil, or_false] at h
  rcases h with rfl | rfl | rfl | rfl <;> rfl
theorem It.cl_one (r : It) : ∀ u ∈ r.cl, u.oneCell' = true := fun u hu => icls_one [r] u (by simpa [icls] using hu)
theorem icls_drop (L : List It) (i : Nat) (hi : i ≤ L.length) : (icls L).drop (i * 4) = icls (L.drop i) := by
  have h1 : icls L = icls (L.take i) ++ icls (L.drop i) := by rw [← icls_append, List.take_append_drop]
  have h2 : (icls (L.take i)).length = i * 4 := by rw [icls_length, List.length_take]; omega
  rw [h1, ← h2, List.drop_left]
theorem icls_take (L : List It) (i : Nat) (hi : i ≤ L.length) : (icls L).take (i * 4) = icls (L.take i) := by
  have h1 : icls L = icls (L.take i) ++ icls (L.drop i) := by rw [← icls_append, List.take_append_drop]
  have h2 : (icls (L.take i)).length = i * 4 := by rw [icls_length, List.length_take]; omega
  rw [h1, ← h2, List.take_left]
theorem icls_at {L : List It} {j : Nat} (hj : j < L.length) {q : Nat} (hq : q < 4) : (icls L)[j * 4 + q]? = L[j].cl[q]? := by
  have e := icls_drop L j (by omega)
  rw [List.drop_eq_getElem_cons hj] at e
  have e2 : icls (L[j] :: L.drop (j + 1)) = L[j].cl ++ icls (L.drop (j + 1)) := by unfold icls; rw [List.flatMap_cons]
  rw [e2] at e
  rw [← List.getElem?_drop, e, List.getElem?_append_left (by simp [It.cl]; omega)]
theorem info_held : (Try.prog.info? 60).map (fun i => (i.zero, i.size, i.bytes)) = some (some (.agg #[.int .i64 0, .int .i64 0, .int .u32 0, .int .i64 0]), 4, 32) := by kernel_rfl
/-- The four cells of an entry. -/
theorem held_cells {w : World} {base : Nat} {p : Option Addr} {q c : Nat} {R : List It} (h : w.ownsRow base 60 4 (.slice p q c) q (icls R)) (hl : R.length = q) {j : Nat} (hj : j < q) : ∃ g, p = some ⟨g, 0, none⟩ ∧ g < w.heap.size ∧ q ≤ c ∧ w.cell? ⟨g, j * 4, none⟩ = some (.int .i64 2) ∧ w.cell? ⟨g, j * 4 + 1, none⟩ = some (.int .i64 (R[j]'(by omega)).i) ∧ w.cell? ⟨g, j * 4 + 2, none⟩ = some (.int .u32 (R[j]'(by omega)).g) ∧ w.cell? ⟨g, j * 4 + 3, none⟩ = some (.int .i64 (R[j]'(by omega)).x) := by
  rcases h.2 with ⟨e, h0⟩ | ⟨g, cap, cur, e, h1, h2, h3, h4, h5, h6⟩
  · omega
  · injection e with e1 e2 e3
    subst e1 e3
    have hg : Bk w g 60 cur := h2
    have key : ∀ j u, (icls R)[j]? = some u → w.cell? ⟨g, j, none⟩ = some u := fun j u hj => by
      have hjl : j < (icls R).length := (List.getElem?_eq_some_iff.1 hj).1
      rw [icls_length] at hjl
      rw [← h6, List.getElem?_take_of_lt (by omega), Array.getElem?_toList] at hj
      rw [hg.cell]; exact hj
    have k : ∀ q', q' < 4 → ∀ x, (R[j]'(by omega)).cl[q']? = some x → w.cell? ⟨g, j * 4 + q', none⟩ = some x := fun q' hq x hx => key _ x ((icls_at (by omega) hq).trans hx)
    exact ⟨g, rfl, hg.lt, h3, by simpa using k 0 (by omega) _ rfl, k 1 (by omega) _ rfl, k 2 (by omega) _ rfl, k 3 (by omega) _ rfl⟩

/-! ### one more behind a slice of one's own -/
/-- What a slice of one's own is behind an append of one. -/
def AppO (base : Nat) (l : List Ro) (r : Ro) (v : Value) (w : World) (v' : Value) (w' : World) : Prop :=
  w'.ownsRow base 34 3 v' (l ++ [r]).length (ocls (l ++ [r])) ∧ Kept (fun g => v.ownBlock = some g) w w'
theorem wpList_app_o {w : World} {ops : Array Oper} {rest : List Oper} {o : Oper} {a : Act} {Q : Exit → Act → World → Prop} (hgd : o.guard = none) (s x : Operand)
    (ho : o.op = .call { callee := .builtin .append, args := #[s, x], argTypes := #[32, 32] }) {base n g : Nat} {p : Option Addr} {c : Nat} {l : List Ro} (r : Ro) (hs : a.eval s = .slice p n c) (hx : a.eval x = .slice (some ⟨g, 0, none⟩) 1 1)
    (hn : l.length = n) (hown : w.ownsRow base 34 3 (.slice p n c) n (ocls l)) (hg : Bk w g 34 r.cl.toArray) (hl : l.length ≤ 1000) (hb : base ≤ w.heap.size)
    (h : ∀ p' c' w', Hid (AppO base l r (.slice p n c) w (.slice p' (n + 1) c') w') → wpList Try.prog ops Q rest (a.put o.dst (.slice p' (n + 1) c')) w') : wpList Try.prog ops Q (o :: rest) a w := by
  subst hn
  obtain ⟨j0, hj, hy0, hy1, hy2⟩ := info_parts info_out
  refine wpList_append_own _ hgd s x 32 ho base 34 j0 _ 3 24 Try.underlying32 hj hy0 hy1 hy2 rfl (by decide) _ _ _ hs hown ⟨g, 0, none⟩ 1 1 r.cl hx rfl (fun j u hj => by
      have e : (⟨g, 0, none⟩ : Addr).add j = ⟨g, j, none⟩ := by unfold Addr.add; split <;> simp_all
      rw [e, hg.cell]
      simpa using hj) (Ro.cl_one r) (by unfold maxLen; omega) (by omega) hb fun v' w' h5 h6 _ => ?_
  have ho2 : w'.ownsRow base 34 3 v' (l ++ [r]).length (ocls (l ++ [r])) := by
    rw [ocls_snoc, List.length_append]; exact h5
  obtain ⟨p', c', rfl⟩ := own_form ho2
  have e1 : (l ++ [r]).length = l.length + 1 := by simp
  rw [e1]
  refine h p' c' w' ⟨by rw [← e1]; exact ho2, ⟨h6.os, h6.tape, h6.output, h6.size, fun k hk hs => h6.block k hk fun e => hs e.symm⟩⟩
def AppI (base : Nat) (l : List It) (r : It) (v : Value) (w : World) (v' : Value) (w' : World) : Prop :=
  w'.ownsRow base 60 4 v' (l ++ [r]).length (icls (l ++ [r])) ∧ Kept (fun g => v.ownBlock = some g) w w'
theorem wpList_app_i {w : World} {ops : Array Oper} {rest : List Oper} {o : Oper} {a : Act} {Q : Exit → Act → World → Prop} (hgd : o.guard = none) (s x : Operand)
    (ho : o.op = .call { callee := .builtin .append, args := #[s, x], argTypes := #[56, 56] }) {base n g : Nat} {p : Option Addr} {c : Nat} {l : List It} (r : It) (hs : a.eval s = .slice p n c) (hx : a.eval x = .slice (some ⟨g, 0, none⟩) 1 1)
    (hn : l.length = n) (hown : w.ownsRow base 60 4 (.slice p n c) n (icls l)) (hg : Bk w g 60 r.cl.toArray) (hl : l.length ≤ 1000) (hb : base ≤ w.heap.size)
    (h : ∀ p' c' w', Hid (AppI base l r (.slice p n c) w (.slice p' (n + 1) c') w') → wpList Try.prog ops Q rest (a.put o.dst (.slice p' (n + 1) c')) w') : wpList Try.prog ops Q (o :: rest) a w := by
  subst hn
  obtain ⟨j0, hj, hy0, hy1, hy2⟩ := info_parts info_held
  refine wpList_append_own _ hgd s x 56 ho base 60 j0 _ 4 32 Try.underlying56 hj hy0 hy1 hy2 rfl (by decide) _ _ _ hs hown ⟨g, 0, none⟩ 1 1 r.cl hx rfl (fun j u hj => by
      have e : (⟨g, 0, none⟩ : Addr).add j = ⟨g, j, none⟩ := by unfold Addr.add; split <;> simp_all
      rw [e, hg.cell]
      simpa using hj) (It.cl_one r) (by unfold maxLen; omega) (by omega) hb fun v' w' h5 h6 _ => ?_
  have ho2 : w'.ownsRow base 60 4 v' (l ++ [r]).length (icls (l ++ [r])) := by
    rw [icls_snoc, List.length_append]; exact h5
  obtain ⟨p', c', rfl⟩ := own_form ho2
  have e1 : (l ++ [r]).length = l.length + 1 := by simp
  rw [e1]
  refine h p' c' w' ⟨by rw [← e1]; exact ho2, ⟨h6.os, h6.tape, h6.output, h6.size, fun k hk hs => h6.block k hk fun e => hs e.symm⟩⟩

/-! ### all together -/
structure Nb (w0 w : World) (b s k : Nat) (P : Po) (p : Option Addr) (q c : Nat) (R : List It) (p' : Option Addr) (q' c' : Nat) (G : List (Nat × Nat)) (mB e : Nat) (N : Sn) : Prop where
  st : PSt w0 w b s k P
  r : w.ownsRow w0.heap.size 60 4 (.slice p q c) q (icls R)
  rl : R.length = q
  g : w.ownsRow w0.heap.size 34 3 (.slice p' q' c') q' (ocls (G.map bro))
  gl : G.length = q'
  n : MapB w mB e N
  fm : ¬ PFoot b s k mB
  lm : w0.heap.size ≤ mB
theorem row_any {w : World} {t : TypeId} {z base n : Nat} {v : Value} {xs : List Value} (h : w.ownsRow base t z v n xs) {g : Nat} (hg : v.ownBlock = some g) : base ≤ g ∧ ∃ cs, Bk w g t cs := by
  rcases h.2 with ⟨rfl, _⟩ | ⟨g', cap, cur, rfl, h1, h2, _⟩
  · cases hg
  · obtain rfl : g' = g := by simpa [Value.ownBlock] using hg
    exact ⟨h1, _, h2⟩
theorem row_kept {S : Nat → Prop} {w w' : World} {t : TypeId} {z base n : Nat} {v : Value} {xs : List Value} (h : w.ownsRow base t z v n xs) (q : Kept S w w') (hs : ∀ g, v.ownBlock = some g → ¬ S g) : w'.ownsRow base t z v n xs :=
  own_same h fun g hg => q.block g (by obtain ⟨_, _, hb⟩ := row_any h hg; exact hb.lt) (hs g hg)
section
variable {w0 w w' : World} {b s k : Nat} {P P' : Po} {p p' p2 : Option Addr} {q c q' c' q2 c2 : Nat} {R R' : List It} {G G' : List (Nat × Nat)} {mB e : Nat} {N N' : Sn}
theorem Nb.quiet (h : Nb w0 w b s k P p q c R p' q' c' G mB e N) (d : Below w.heap.size w w') : Nb w0 w' b s k P p q c R p' q' c' G mB e N :=
  ⟨h.st.quiet d, own_below h.r d, h.rl, own_below h.g d, h.gl, h.n.same (d.block _ h.n.lt), h.fm, h.lm⟩
theorem Nb.pool (h : Nb w0 w b s k P p q c R p' q' c' G mB e N) (d : Kept (PFoot b s k) w w') (f : PSt w0 w' b s k P') : Nb w0 w' b s k P' p q c R p' q' c' G mB e N :=
  ⟨f, row_kept h.r d fun g hg => by obtain ⟨_, _, hb⟩ := row_any h.r hg; exact h.st.f.box hb (by decide) (by decide) (by decide), h.rl,
    row_kept h.g d fun g hg => by obtain ⟨_, _, hb⟩ := row_any h.g hg; exact h.st.f.box hb (by decide) (by decide) (by decide), h.gl, h.n.kept d h.fm, h.fm, h.lm⟩
theorem Nb.rowI (h : Nb w0 w b s k P p q c R p' q' c' G mB e N) (d : Kept (fun g => (Value.slice p q c).ownBlock = some g) w w') (hl : R'.length = q2) (hr : w'.ownsRow w0.heap.size 60 4 (.slice p2 q2 c2) q2 (icls R')) : Nb w0 w' b s k P p2 q2 c2 R' p' q' c' G mB e N :=
  ⟨⟨h.st.f.kept d fun g hg e => by obtain ⟨_, _, hb⟩ := row_any h.r e; exact h.st.f.box hb (by decide) (by decide) (by decide) hg, h.st.bel.trans (d.below h.st.bel.size fun g e => (row_any h.r e).1), h.st.lo⟩, hr, hl,
    row_kept h.g d fun g hg e => by obtain ⟨_, _, hb⟩ := row_any h.g hg; obtain ⟨_, _, hb2⟩ := row_any h.r e; exact absurd (hb.uniq hb2).1 (by decide), h.gl, h.n.kept d fun e => by obtain ⟨_, _, hb⟩ := row_any h.r e; exact h.n.no_cells hb, h.fm, h.lm⟩
theorem Nb.rowG (h : Nb w0 w b s k P p q c R p' q' c' G mB e N) (d : Kept (fun g => (Value.slice p' q' c').ownBlock = some g) w w') (hl : G'.length = q2) (hr : w'.ownsRow w0.heap.size 34 3 (.slice p2 q2 c2) q2 (ocls (G'.map bro))) : Nb w0 w' b s k P p q c R p2 q2 c2 G' mB e N :=
  ⟨⟨h.st.f.kept d fun g hg e => by obtain ⟨_, _, hb⟩ := row_any h.g e; exact h.st.f.box hb (by decide) (by decide) (by decide) hg, h.st.bel.trans (d.below h.st.bel.size fun g e => (row_any h.g e).1), h.st.lo⟩,
    row_kept h.r d fun g hg e => by obtain ⟨_, _, hb⟩ := row_any h.r hg; obtain ⟨_, _, hb2⟩ := row_any h.g e; exact absurd (hb.uniq hb2).1 (by decide), h.rl, hr, hl, h.n.kept d fun e => by obtain ⟨_, _, hb⟩ := row_any h.g e; exact h.n.no_cells hb, h.fm, h.lm⟩
theorem Nb.mapS (h : Nb w0 w b s k P p q c R p' q' c' G mB e N) {e' : Nat} (d : Kept (· = mB) w w') (hm : MapB w' mB e' N') : Nb w0 w' b s k P p q c R p' q' c' G mB e' N' :=
  ⟨⟨h.st.f.kept d fun g hg e => h.fm (by rw [← e]; exact hg), h.st.bel.trans (d.below h.st.bel.size fun g e => by rw [e]; exact h.lm), h.st.lo⟩,
    row_kept h.r d fun g hg e => by obtain ⟨_, _, hb⟩ := row_any h.r hg; subst e; exact h.n.no_cells hb, h.rl, row_kept h.g d fun g hg e => by obtain ⟨_, _, hb⟩ := row_any h.g hg; subst e; exact h.n.no_cells hb, h.gl, hm, h.fm, h.lm⟩
theorem Nb.start (h : PSt w0 w b s k P) : Nb w0 (w.alloc (.map #[] 0)) b s k P none 0 0 [] none 0 0 [] w.heap.size 0 (fun _ _ _ => false) := by
  have k1 : Below w.heap.size w (w.alloc (.map #[] 0)) := (Below.refl _ w).alloc (Nat.le_refl _) _
  exact ⟨h.quiet k1, World.ownsRow_nil _ _ _ _, rfl, World.ownsRow_nil _ _ _ _, rfl, MapB.new w, fun e => by have := h.f.foot_lt e; omega, h.bel.size⟩
end
end Go.Proofs.Ytjhgckaaaonbiaa
