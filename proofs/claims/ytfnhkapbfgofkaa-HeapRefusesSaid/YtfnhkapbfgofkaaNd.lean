/- Slices of references; one reference more behind a slice of one's own; slices.Equal; the contracts of Refs. -/
import Derived.Test.YtfnhkapbfgofkaaNc
namespace Go.Proofs.Ytfnhkapbfgofkaa
open Go.RowKit Go.Shelf
attribute [local go_sem] Oper.semAt_some

theorem bel_drewNF {w a : World} (h : Below w.heap.size w a) (n : Nat) : Below w.heap.size w (a.drewN n) := bel2 h (bel_drn a n)
def rcl (r : Rf) : List Value := [.int .i64 r.1, .int .u32 r.2]
def rcls (l : List Rf) : List Value := l.flatMap rcl
theorem rcls_cons (a : Rf) (l : List Rf) : rcls (a :: l) = rcl a ++ rcls l := by simp [rcls]
theorem rcls_snoc (l : List Rf) (r : Rf) : rcls (l ++ [r]) = rcls l ++ rcl r := by simp [rcls]
theorem rcls_length (l : List Rf) : (rcls l).length = l.length * 2 := by
  induction l with
  | nil => rfl
  | cons a l ih => rw [rcls_cons, List.length_append, ih, List.length_cons]; simp [rcl]; omega
theorem rcl_one (r : Rf) : ∀ u ∈ rcl r, u.oneCell' = true := by
  intro u hu
  simp only [rcl, List.mem_cons, List.not_mem_nil, or_false] at hu
  rcases hu with rfl | rfl <;> rfl
theorem rcls_at (l : List Rf) (j : Nat) (h : j < l.length) (q : Nat) (hq : q < 2) : (rcls l)[j * 2 + q]? = (rcl l[j])[q]? := by
  induction l generalizing j with
  | nil => simp at h
  | cons a l ih =>
    rw [rcls_cons]
    cases j with
    | zero => rw [Nat.zero_mul, Nat.zero_add, List.getElem?_append_left (by simp [rcl]; omega)]; rfl
    | succ j =>
      have e1 : (rcl a).length = 2 := rfl
      rw [List.getElem?_append_right (by rw [e1]; omega), e1, show (j + 1) * 2 + q - 2 = j * 2 + q by omega, ih j (by simpa using h)]
      rfl
/-! ### slices of references -/
/-- The slice value v reads as the references l. -/
def RdR (w : World) (v : Value) (l : List Rf) : Prop :=
  ∃ a c, v = .slice a l.length c ∧ l.length ≤ c ∧ c ≤ 9223372036854775807 ∧ (a = none → c = 0) ∧ (0 < l.length → ∃ g off, a = some ⟨g, off, none⟩ ∧ g < w.heap.size ∧ ∀ j x, (rcls l)[j]? = some x → w.cell? ⟨g, off + j, none⟩ = some x)
section
variable {w w' : World} {v : Value} {l : List Rf}
theorem RdR.same (h : RdR w v l) (hs : w.heap.size ≤ w'.heap.size) (e : ∀ g, v.ownBlock = some g → g < w.heap.size → w'.heap[g]? = w.heap[g]?) : RdR w' v l := by
  obtain ⟨a, c, e0, h1, h2, h3, h4⟩ := h
  refine ⟨a, c, e0, h1, h2, h3, fun h0 => ?_⟩
  obtain ⟨g, off, e2, hg, hc⟩ := h4 h0
  exact ⟨g, off, e2, Nat.lt_of_lt_of_le hg hs, fun j x hj => (World.cell?_of_block (a := ⟨g, off + j, none⟩) (e g (by rw [e0, e2]; rfl) hg)).trans (hc j x hj)⟩
theorem RdR.below (h : RdR w v l) (hb : Below w.heap.size w w') : RdR w' v l := h.same hb.size fun g _ hg => hb.block g hg
theorem RdR.kept {S : Nat → Prop} (h : RdR w v l) (k : Kept S w w') (hs : ∀ g, v.ownBlock = some g → ¬ S g) : RdR w' v l := h.same k.size fun g e hg => k.block g hg (hs g e)
theorem RdR.nil (w : World) : RdR w (.slice none 0 0) [] := ⟨none, 0, rfl, Nat.le_refl _, by omega, fun _ => rfl, fun h => by simp at h⟩
theorem RdR.len (h : RdR w v l) : ∃ a c, v = .slice a l.length c ∧ l.length ≤ c ∧ c ≤ 9223372036854775807 ∧ RdR w (.slice a l.length c) l := by
  obtain ⟨a, c, e, h1, h2, _⟩ := id h
  subst e
  exact ⟨a, c, rfl, h1, h2, h⟩
/-- The two cells of a reference at offset o of block g. -/
def Two (w : World) (g o : Nat) (a : Rf) : Prop :=
  w.cell? ⟨g, o, none⟩ = some (.int .i64 a.1) ∧ w.cell? ⟨g, o + 1, none⟩ = some (.int .u32 a.2)
theorem RdR.cell {a : Option Addr} {n c : Nat} (h : RdR w (.slice a n c) l) {j : Nat} (hj : j < l.length) : ∃ g off, a = some ⟨g, off, none⟩ ∧ g < w.heap.size ∧ Two w g (off + j * 2) l[j] := by
  obtain ⟨a', c', e, h1, h2, h3, h4⟩ := h
  injection e with e1 e2 e3
  subst e1 e2 e3
  obtain ⟨g, off, e2, hg, hc⟩ := h4 (by omega)
  have k : ∀ q, q < 2 → ∀ x, (rcl l[j])[q]? = some x → w.cell? ⟨g, off + j * 2 + q, none⟩ = some x := fun q hq x hx => by
    rw [Nat.add_assoc]; exact hc _ x ((rcls_at l j hj q hq).trans hx)
  exact ⟨g, off, e2, hg, by simpa using k 0 (by omega) _ rfl, k 1 (by omega) _ rfl⟩
theorem RdR.of_own {b : Nat} (h : w.ownsRow b 34 2 v l.length (rcls l)) : RdR w v l := by
  rcases h.2 with ⟨rfl, h0⟩ | ⟨g, cap, cur, rfl, h1, h2, h3, h4, h5, h6⟩
  · have : l = [] := List.eq_nil_of_length_eq_zero h0
    subst this
    exact RdR.nil w
  · have hg : Bk w g 34 cur := h2
    refine ⟨_, cap, rfl, h3, by unfold maxLen at h4; omega, fun e => (by cases e), fun _ => ⟨g, 0, rfl, hg.lt, fun j x hj => ?_⟩⟩
    have hjl : j < (rcls l).length := (List.getElem?_eq_some_iff.1 hj).1
    rw [rcls_length] at hjl
    rw [← h6, List.getElem?_take_of_lt (by omega), Array.getElem?_toList] at hj
    rw [Nat.zero_add, hg.cell]; exact hj
end
theorem own_same {w w' : World} {base n s : Nat} {e : TypeId} {v : Value} {xs : List Value} (h : w.ownsRow base e s v n xs) (k : ∀ g, v.ownBlock = some g → w'.heap[g]? = w.heap[g]?) : w'.ownsRow base e s v n xs := by
  refine ⟨h.1, ?_⟩
  rcases h.2 with h | ⟨g, cap, cur, h1, h2, h3, h4⟩
  · exact .inl h
  · exact .inr ⟨g, cap, cur, h1, h2, (k g (by rw [h1]; rfl)).trans h3, h4⟩
theorem own_below {w w' : World} {base n s : Nat} {e : TypeId} {v : Value} {xs : List Value} (h : w.ownsRow base e s v n xs) (k : Below w.heap.size w w') : w'.ownsRow base e s v n xs :=
  own_same h fun g hg => k.block g (h.lt g hg).2
theorem own_lower {w : World} {a b : Nat} {e : TypeId} {s : Nat} {v : Value} {n : Nat} {xs : List Value} (h : w.ownsRow a e s v n xs) (hb : b ≤ a) : w.ownsRow b e s v n xs := by
  refine ⟨h.1, ?_⟩
  rcases h.2 with h | ⟨g, cap, cur, h1, h2, h3⟩
  · exact .inl h
  · exact .inr ⟨g, cap, cur, h1, by omega, h3⟩

theorem own_form {w : World} {base : Nat} {v : Value} {l : List Rf} (h : w.ownsRow base 34 2 v l.length (rcls l)) : ∃ p c, v = .slice p l.length c := by
  rcases h.2 with ⟨rfl, h0⟩ | ⟨g', cap, cur, rfl, _⟩
  · exact ⟨_, _, by rw [h0]⟩
  · exact ⟨_, _, rfl⟩
/-- What a slice of one's own is behind an append of one. -/
def AppR (base : Nat) (l : List Rf) (r : Rf) (v : Value) (w : World) (v' : Value) (w' : World) : Prop :=
  w'.ownsRow base 34 2 v' (l ++ [r]).length (rcls (l ++ [r])) ∧ Kept (fun g => v.ownBlock = some g) w w'
theorem wpList_app_r {w : World} {ops : Array Oper} {rest : List Oper} {o : Oper} {a : Act} {Q : Exit → Act → World → Prop} (hgd : o.guard = none) (s x : Operand)
    (ho : o.op = .call { callee := .builtin .append, args := #[s, x], argTypes := #[32, 32] }) {base n g : Nat} {p : Option Addr} {c : Nat} {l : List Rf} (r : Rf) (hs : a.eval s = .slice p n c) (hx : a.eval x = .slice (some ⟨g, 0, none⟩) 1 1)
    (hn : l.length = n) (hown : w.ownsRow base 34 2 (.slice p n c) l.length (rcls l)) (hg : Bk w g 34 (rfc r)) (hl : l.length ≤ 1000) (hb : base ≤ w.heap.size)
    (h : ∀ p' c' w', Hid (AppR base l r (.slice p n c) w (.slice p' (n + 1) c') w') → wpList Try.prog ops Q rest (a.put o.dst (.slice p' (n + 1) c')) w') : wpList Try.prog ops Q (o :: rest) a w := by
  subst hn
  obtain ⟨j0, hj, hy0, hy1, hy2⟩ := info_parts info_ref
  refine wpList_append_own _ hgd s x 32 ho base 34 j0 _ 2 16 Try.underlying32 hj hy0 hy1 hy2 rfl (by decide) _ _ _ hs hown ⟨g, 0, none⟩ 1 1 (rcl r) hx rfl (fun j u hj => by
      have e : (⟨g, 0, none⟩ : Addr).add j = ⟨g, j, none⟩ := by unfold Addr.add; split <;> simp_all
      rw [e, hg.cell]
      show (rcl r).toArray[j]? = some u
      simpa using hj) (rcl_one r) (by unfold maxLen; omega) (by omega) hb fun v' w' h5 h6 _ => ?_
  have ho2 : w'.ownsRow base 34 2 v' (l ++ [r]).length (rcls (l ++ [r])) := by
    rw [rcls_snoc, List.length_append]; exact h5
  obtain ⟨p', c', rfl⟩ := own_form ho2
  have e1 : (l ++ [r]).length = l.length + 1 := by simp
  rw [e1]
  refine h p' c' w' ⟨by rw [← e1]; exact ho2, ⟨h6.os, h6.tape, h6.output, h6.size, fun k hk hs => h6.block k hk fun e => hs e.symm⟩⟩

theorem appended2F {W w1 : World} {n₀ n₁ B : Nat} {t e : TypeId} {size : Nat} {v v' : Value} {k m : Nat} {xs ys : List Value} {tmp : Obj}
    (hv : Boxed W B t v) (hte : t ≠ e) (hrow : W.ownsRow n₁ e size v k xs) (hn₁ : n₁ ≤ W.heap.size) (hB : n₀ ≤ B) (h01 : n₀ ≤ n₁)
    (hown' : w1.ownsRow n₁ e size v' m ys) (hgrow : (W.alloc tmp).grownBy w1 v.ownBlock) :
    Boxed w1 B t v ∧ Boxed (w1.setCell ⟨B, 0, none⟩ v') B t v' ∧ (w1.setCell ⟨B, 0, none⟩ v').ownsRow n₁ e size v' m ys ∧ KeepsOthers W (w1.setCell ⟨B, 0, none⟩ v') ∧ Below n₀ W (w1.setCell ⟨B, 0, none⟩ v') := by
  have hv1 : Boxed w1 B t v := (hv.alloc tmp).kept hgrow (hv.not_row hte hrow)
  have hge : ∀ j, v.ownBlock = some j → n₁ ≤ j := fun j ej => (hrow.lt j ej).1
  have hbl : Below n₀ W (w1.setCell ⟨B, 0, none⟩ v') := (((Below.refl n₀ W).alloc (by omega) tmp).grown hgrow (by simp; omega) fun j ej => by have := hge j ej; omega).setCell (p := ⟨B, 0, none⟩) hB v'
  refine ⟨hv1, hv1.set v', hown'.kept (grownBy_setCell' w1 B v') (.inr (hv1.not_row hte hown').symm), ?_, hbl⟩
  refine ((KeepsOthers.alloc W tmp).trans (KeepsOthers.of_grownBy hgrow fun j o ej hj => ?_)).trans (KeepsOthers.setCell _ _ _)
  rcases (hrow.alloc tmp).2 with ⟨rfl, _⟩ | ⟨g, cap, cur, rfl, _, hgb, _⟩
  · simp [Value.ownBlock] at ej
  · obtain rfl : g = j := by simpa [Value.ownBlock] using ej
    rw [hgb] at hj; cases hj; rfl

/-! ### slices.Equal -/
theorem RdR.cap {w : World} {a : Option Addr} {n c : Nat} {l : List Rf} (h : RdR w (.slice a n c) l) : n = l.length ∧ l.length ≤ c ∧ c ≤ 9223372036854775807 ∧ (a = none → c = 0) := by
  obtain ⟨a', c', e, h1, h2, h3, _⟩ := h
  injection e with e1 e2 e3
  subst e1 e2 e3
  exact ⟨rfl, h1, h2, h3⟩

/-! ### Refs -/
/-- A new slice that holds l. -/
def NewR (l : List Rf) (w : World) (e : Ending) (w' : World) : Prop :=
  ∃ p c, e = .returned (.slice p l.length c) ∧ w'.ownsRow w.heap.size 34 2 (.slice p l.length c) l.length (rcls l) ∧ Below w.heap.size w w'
theorem refs_sel (o : Ob) : (selF o 0).map o.fld = refs o := by
  have e : selF o 0 = [0, 1, 2, 3].filter fun j => !noneB (o.fld j) := rfl
  have e2 : refs o = [o.a, o.b, o.c, o.d].filter fun r => !noneB r := by
    unfold refs Ob.fs
    refine List.filter_congr fun r _ => ?_
    by_cases h : r = (0, 0)
    · subst h; rfl
    · rw [noneB_no h]; simpa using h
  rw [e, e2]
  simp only [List.filter_cons, Ob.fld, List.filter_nil]
  cases noneB o.a <;> cases noneB o.b <;> cases noneB o.c <;> cases noneB o.d <;> rfl
def rls (o : Ob) (pre : List Nat) : List Rf := pre.map o.fld
theorem rls_snoc (o : Ob) (pre : List Nat) (x : Nat) : rls o (pre ++ [x]) = rls o pre ++ [o.fld x] := by simp [rls]
theorem rls_len (o : Ob) (pre : List Nat) : (rls o pre).length = pre.length := by simp [rls]
end Go.Proofs.Ytfnhkapbfgofkaa
