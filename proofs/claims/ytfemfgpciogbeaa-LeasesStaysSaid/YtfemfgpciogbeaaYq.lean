/- The region of a move that notes a lease and its time: x.l, x.until = append(x.l, o), append(x.until, ..), whatever its order. -/
import Derived.Test.YtfemfgpciogbeaaYs
import Derived.Test.YtfemfgpciogbeaaYr
namespace Go.Proofs.Ytfemfgpciogbeaa
open Go.RowKit

theorem info_l64 : (Try.prog.info? 2).map (fun i => (i.zero, i.size, i.bytes)) = some (some (.int .i64 0), 1, 8) := by kernel_rfl
theorem app_u {W : World} {base x n : Nat} {p : Option Addr} {c : Nat} {U : List Nat} {y : Nat} (hn : U.length = n) (ho : W.ownsRow base 2 1 (.slice p n c) n (us U)) (hx : Bk W x 2 #[.int .i64 y]) (hl : n ≤ 1000) (hb : base ≤ W.heap.size) :
    ∃ p' c' W', (Builtin.append_ #[60, 60] 60 #[.slice p n c, .slice (some ⟨x, 0, none⟩) 1 1]).run Try.prog W = .ok (.slice p' (n + 1) c') W' ∧ W'.ownsRow base 2 1 (.slice p' (n + 1) c') (n + 1) (us (U ++ [y])) ∧ Kept (fun g => (Value.slice p n c).ownBlock = some g) W W' := by
  subst hn
  obtain ⟨j0, hj, hy0, hy1, hy2⟩ := info_parts info_l64
  obtain ⟨v', W', hr, hown, hgr, _⟩ := run_append_own (P := Try.prog) (w := W) base 60 60 2 j0 _ 1 8 Try.underlying60 hj hy0 hy1 hy2 rfl (by decide) (.slice p U.length c) U.length (us U) ho
    ⟨x, 0, none⟩ 1 1 [.int .i64 y] rfl (fun j u hj => by
      have e : (⟨x, 0, none⟩ : Addr).add j = ⟨x, j, none⟩ := by unfold Addr.add; split <;> simp_all
      rw [e, hx.cell]
      simpa using hj) (by simp [Value.oneCell']) (by unfold maxLen; omega) (by omega) hb
  have ho2 : W'.ownsRow base 2 1 v' (U.length + 1) (us (U ++ [y])) := by rw [us_snoc]; exact hown
  obtain ⟨p', c', rfl⟩ := own_form ho2
  exact ⟨p', c', W', hr, ho2, ⟨hgr.os, hgr.tape, hgr.output, hgr.size, fun k hk hs => hgr.block k hk fun e => hs e.symm⟩⟩

/-- The slot of an operation. -/
def slq (k : Nat) : Nat := if k ≤ 22 then 72 + k else 71 + k
/-- What the plain operations give. -/
def pvq (X : Nat) (vl vu o : Value) (Z Tk : Int) (k : Nat) : Option Value :=
  match k with
  | 0 | 1 | 2 | 3 | 9 | 10 | 13 | 14 | 21 | 24 => some (.pointer (some ⟨X, 0, none⟩))
  | 4 | 22 => some (.pointer (some ⟨X, 1, none⟩))
  | 11 | 25 => some (.pointer (some ⟨X, 2, none⟩))
  | 15 => some (.pointer (some ⟨X, 3, none⟩))
  | 5 => some vl
  | 6 => some o
  | 12 => some vu
  | 16 => some (.int .i64 Z)
  | 17 => some (.int .i64 Tk)
  | 18 => some (.int .i64 (Z + Tk))
  | _ => none
/-- While the region runs. -/
structure JQ (T : Array Value) (w0 w : World) (X b k a A : Nat) (pl : Option Addr) (cl : Nat) (pu : Option Addr) (cu n : Nat) (D : Dk) (L : List Ro) (U : List Nat) (r : Ro) (y : Nat) (Z Tk : Int) (okb : Bool) (f : Nat → Bool) (tm : Array Value) (W : World) : Prop where
  sz : tm.size = T.size
  old : ∀ q, (q < 72 ∨ 96 < q) → tm[q]? = T[q]?
  val : ∀ k v, pvq X (.slice pl n cl) (.slice pu n cu) r.val Z Tk k = some v → f k = true → tm[slq k]? = some v
  kept : Kept (LFt X b k a pl pu) w W
  ds : DSt w0 W b k a D
  box : f 7 = false → Bk W A 33 r.cl.toArray
  lit1 : f 7 = true → f 8 = false → ∃ B, tm[79]? = some (.slice (some ⟨B, 0, none⟩) 1 1) ∧ Bk W B 33 r.cl.toArray
  row1 : f 8 = false → W.ownsRow w0.heap.size 33 3 (.slice pl n cl) n (ocls L)
  new1 : f 8 = true → ∃ p c, tm[80]? = some (.slice p (n + 1) c) ∧ W.ownsRow w0.heap.size 33 3 (.slice p (n + 1) c) (n + 1) (ocls (L ++ [r]))
  lit2 : f 19 = true → f 20 = false → ∃ B, tm[91]? = some (.slice (some ⟨B, 0, none⟩) 1 1) ∧ Bk W B 2 #[.int .i64 y]
  row2 : f 20 = false → W.ownsRow w0.heap.size 2 1 (.slice pu n cu) n (us U)
  new2 : f 20 = true → ∃ p c, tm[92]? = some (.slice p (n + 1) c) ∧ W.ownsRow w0.heap.size 2 1 (.slice p (n + 1) c) (n + 1) (us (U ++ [y]))
  xb : ∃ v, Bk W X 62 #[.pointer (some ⟨b, 0, none⟩), v, .slice pu n cu, .int .i64 Z, .bool okb] ∧ (f 23 = false → v = .slice pl n cl) ∧ (f 23 = true → tm[80]? = some v)
section
variable {T tm : Array Value} {w0 w W W' : World} {X b k a A cl cu n y : Nat} {pl pu : Option Addr} {D : Dk} {L : List Ro} {U : List Nat} {r : Ro} {Z Tk : Int} {okb : Bool} {f : Nat → Bool}
theorem JQ.vals (h : JQ T w0 w X b k a A pl cl pu cu n D L U r y Z Tk okb f tm W) (hT : 96 < T.size) {i : Nat} {v : Value} (hi : i < 26) (h23 : i ≠ 23) (hv : ∀ u, pvq X (.slice pl n cl) (.slice pu n cu) r.val Z Tk i = some u → u = v) : ∀ k u, pvq X (.slice pl n cl) (.slice pu n cu) r.val Z Tk k = some u → more f i k = true → (tm.setIfInBounds (slq i) v)[slq k]? = some u := fun q u hu hf => by
  rw [Array.getElem?_setIfInBounds]
  by_cases e : q = i
  · subst e
    rw [if_pos rfl, if_pos (by rw [h.sz]; unfold slq; split <;> omega), hv u hu]
  · have hq : q ≠ 23 := by rintro rfl; simp [pvq] at hu
    have hq2 : q < 26 := by
      rcases Nat.lt_or_ge q 26 with c | c
      · exact c
      · exfalso
        rcases q with _|_|_|_|_|_|_|_|_|_|_|_|_|_|_|_|_|_|_|_|_|_|_|_|_|_|q
        rotate_right
        · simp [pvq] at hu
        all_goals omega
    by_cases e2 : slq i = slq q
    · exfalso
      unfold slq at e2
      split at e2 <;> split at e2 <;> first | omega | skip
      all_goals
        have : i = 23 ∨ q = 23 := by omega
        rcases this with c | c
        · exact h23 c
        · exact hq c
    · rw [if_neg e2]
      exact h.val q u hu (by simpa [more, e] using hf)
theorem slq_old {i q : Nat} (hi : i < 26) (hq : q < 72 ∨ 96 < q) : slq i ≠ q := by unfold slq; split <;> omega
/-- A plain operation. -/
theorem JQ.same (h : JQ T w0 w X b k a A pl cl pu cu n D L U r y Z Tk okb f tm W) (hT : 96 < T.size) {i : Nat} {v : Value} (hi : i < 26) (hv : pvq X (.slice pl n cl) (.slice pu n cu) r.val Z Tk i = some v) : JQ T w0 w X b k a A pl cl pu cu n D L U r y Z Tk okb (more f i) (tm.setIfInBounds (slq i) v) W := by
  have h7 : i ≠ 7 := by rintro rfl; simp [pvq] at hv
  have h8 : i ≠ 8 := by rintro rfl; simp [pvq] at hv
  have h19 : i ≠ 19 := by rintro rfl; simp [pvq] at hv
  have h20 : i ≠ 20 := by rintro rfl; simp [pvq] at hv
  have h23 : i ≠ 23 := by rintro rfl; simp [pvq] at hv
  have m : ∀ q, q ≠ i → more f i q = f q := fun q e => by simp [more, e]
  have s : ∀ q, q ≠ i → q < 26 → q ≠ 23 → slq i ≠ slq q := fun q e e1 e2 c => by unfold slq at c; split at c <;> split at c <;> omega
  have g : ∀ q, q ≠ i → q < 26 → q ≠ 23 → (tm.setIfInBounds (slq i) v)[slq q]? = tm[slq q]? := fun q e e1 e2 => by rw [Array.getElem?_setIfInBounds, if_neg (s q e e1 e2)]
  refine ⟨by simpa using h.sz, fun q hq => ?_, h.vals hT hi h23 (fun u hu => Option.some.inj (hu.symm.trans hv)), h.kept, h.ds, fun e => h.box (by rw [← m 7 h7.symm]; exact e), fun e1 e2 => ?_, fun e => h.row1 (by rw [← m 8 h8.symm]; exact e), fun e => ?_, fun e1 e2 => ?_, fun e => h.row2 (by rw [← m 20 h20.symm]; exact e), fun e => ?_, ?_⟩
  · rw [Array.getElem?_setIfInBounds, if_neg (slq_old hi hq)]; exact h.old q hq
  · obtain ⟨B, q1, q2⟩ := h.lit1 (by rw [← m 7 h7.symm]; exact e1) (by rw [← m 8 h8.symm]; exact e2)
    exact ⟨B, (g 7 h7.symm (by decide) (by decide)).trans q1, q2⟩
  · obtain ⟨p, c, q1, q2⟩ := h.new1 (by rw [← m 8 h8.symm]; exact e)
    exact ⟨p, c, (g 8 h8.symm (by decide) (by decide)).trans q1, q2⟩
  · obtain ⟨B, q1, q2⟩ := h.lit2 (by rw [← m 19 h19.symm]; exact e1) (by rw [← m 20 h20.symm]; exact e2)
    exact ⟨B, (g 19 h19.symm (by decide) (by decide)).trans q1, q2⟩
  · obtain ⟨p, c, q1, q2⟩ := h.new2 (by rw [← m 20 h20.symm]; exact e)
    exact ⟨p, c, (g 20 h20.symm (by decide) (by decide)).trans q1, q2⟩
  · obtain ⟨v', q1, q2, q3⟩ := h.xb
    exact ⟨v', q1, fun e => q2 (by rw [← m 23 h23.symm]; exact e), fun e => (g 8 h8.symm (by decide) (by decide)).trans (q3 (by rw [← m 23 h23.symm]; exact e))⟩
end
/-! ### what a turn of blocks of one type leaves -/
section
variable {P : Nat → Prop} {W W' w0 : World} {τ : TypeId}
theorem bk_turn {g : Nat} {t : TypeId} {cs : Array Value} (hP : ∀ g t cs, P g → Bk W g t cs → t = τ) (h : Bk W g t cs) (ht : t ≠ τ) (q : Kept P W W') : Bk W' g t cs := h.kept q fun hp => ht (hP g t cs hp h)
theorem own_turn {base n s : Nat} {e : TypeId} {v : Value} {xs : List Value} (hP : ∀ g t cs, P g → Bk W g t cs → t = τ) (h : W.ownsRow base e s v n xs) (he : e ≠ τ) (q : Kept P W W') : W'.ownsRow base e s v n xs := by
  refine own_same h fun g hg => ?_
  rcases h.2 with ⟨rfl, _⟩ | ⟨g', cap, cur, rfl, _, h2, _⟩
  · cases hg
  · obtain rfl : g' = g := by simpa [Value.ownBlock] using hg
    have hb : Bk W g' e cur := h2
    exact q.block g' hb.lt fun hp => he (hP g' e cur hp hb)
theorem ds_turn {b k a : Nat} {D : Dk} (hP : ∀ g t cs, P g → Bk W g t cs → t = τ) (h : DSt w0 W b k a D) (h1 : 54 ≠ τ) (h2 : 105 ≠ τ) (h3 : 78 ≠ τ) (q : Kept P W W') (hlo : ∀ g, P g → w0.heap.size ≤ g) : DSt w0 W' b k a D := by
  refine ⟨h.f.kept q fun g hg hp => ?_, h.bel.trans (q.below h.bel.size hlo), h.lo⟩
  rcases hg with rfl | rfl | rfl
  · exact h1 (hP _ _ _ hp h.f.hb)
  · exact h2 (hP _ _ _ hp h.f.tab.bk)
  · exact h3 (hP _ _ _ hp h.f.ha)
theorem row_turn {base n s : Nat} {e : TypeId} {v : Value} {xs : List Value} (h : W.ownsRow base e s v n xs) : ∀ g t cs, v.ownBlock = some g → Bk W g t cs → t = e := fun _ _ _ hg hb => own_type h hg hb
theorem one_turn {X : Nat} {t : TypeId} {cs : Array Value} (h : Bk W X t cs) : ∀ g t' cs', g = X → Bk W g t' cs' → t' = t := fun _ _ _ e hb => by subst e; exact (hb.uniq h).1
end

set_option maxHeartbeats 8000000 in
set_option maxRecDepth 100000 in
theorem app_region {id : Nat} {Q : Exit → Act → World → Prop} {T : Array Value} {w0 w : World} {X b k a A cl cu n y : Nat} {pl pu : Option Addr} {D : Dk} {L : List Ro} {U : List Nat} {r : Ro} {Z Tk : Int} {okb : Bool} (hT : 96 < T.size) (t0 : T[0]? = some (.pointer (some ⟨X, 0, none⟩))) (t5 : T[5]? = some (.int .i64 Tk)) (t6 : T[6]? = some (.pointer (some ⟨A, 0, none⟩)))
    (hy : Z + Tk = (y : Int)) (hy2 : y ≤ 1000000) (hn : n ≤ 500) (hL : L.length = n) (hU : U.length = n) (hlo : w0.heap.size ≤ X)
    (ds : DSt w0 w b k a D) (hA : Bk w A 33 r.cl.toArray) (hX : Bk w X 62 #[.pointer (some ⟨b, 0, none⟩), .slice pl n cl, .slice pu n cu, .int .i64 Z, .bool okb]) (hl : w.ownsRow w0.heap.size 33 3 (.slice pl n cl) n (ocls L)) (hu : w.ownsRow w0.heap.size 2 1 (.slice pu n cu) n (us U))
    (hQ : ∀ tm W p c p' c', tm.size = T.size → (∀ q, q < 72 → tm[q]? = T[q]?) → Kept (LFt X b k a pl pu) w W → DSt w0 W b k a D → Bk W X 62 #[.pointer (some ⟨b, 0, none⟩), .slice p (n + 1) c, .slice p' (n + 1) c', .int .i64 Z, .bool okb] →
      W.ownsRow w0.heap.size 33 3 (.slice p (n + 1) c) (n + 1) (ocls (L ++ [r])) → W.ownsRow w0.heap.size 2 1 (.slice p' (n + 1) c') (n + 1) (us (U ++ [y])) → Q .normal ⟨tm, []⟩ W) :
    (Code.region id
      #[{ dst := some 72, op := Op.move (Operand.tmp 0), type := 58, pos := "outright.go:55", after := #[], guard := none },
        { dst := some 73, op := Op.move (Operand.tmp 0), type := 58, pos := "outright.go:55", after := #[{ on := 23, ground := Ground.gcOnly Departure.lateStores }], guard := none },
        { dst := some 74, op := Op.move (Operand.tmp 0), type := 58, pos := "outright.go:55", after := #[], guard := none },
        { dst := some 75, op := Op.nilCheck (Operand.tmp 74), type := 0, pos := "outright.go:55", after := #[{ on := 2, ground := Ground.data }], guard := none },
        { dst := some 76, op := Op.fieldAddr 62 (Operand.tmp 75) 1, type := 0, pos := "outright.go:55", after := #[{ on := 3, ground := Ground.data }], guard := none },
        { dst := some 77, op := Op.load 48 (Operand.tmp 76), type := 48, pos := "outright.go:55", after := #[{ on := 4, ground := Ground.data }], guard := none },
        { dst := some 78, op := Op.load 33 (Operand.tmp 6), type := 33, pos := "outright.go:55", after := #[], guard := none },
        { dst := some 79, op := Op.buildSlice 48 1 #[(0, Operand.tmp 78)], type := 48, pos := "outright.go:55", after := #[{ on := 6, ground := Ground.data }], guard := none },
        { dst := some 80, op := Op.call { callee := Callee.builtin Builtin.append, args := #[Operand.tmp 77, Operand.tmp 79], argTypes := #[48, 48] }, type := 48, pos := "outright.go:55", after := #[{ on := 5, ground := Ground.data }, { on := 7, ground := Ground.data }], guard := none },
        { dst := some 81, op := Op.move (Operand.tmp 0), type := 58, pos := "outright.go:55", after := #[], guard := none },
        { dst := some 82, op := Op.nilCheck (Operand.tmp 81), type := 0, pos := "outright.go:55", after := #[{ on := 9, ground := Ground.data }], guard := none },
        { dst := some 83, op := Op.fieldAddr 62 (Operand.tmp 82) 2, type := 0, pos := "outright.go:55", after := #[{ on := 10, ground := Ground.data }], guard := none },
        { dst := some 84, op := Op.load 60 (Operand.tmp 83), type := 60, pos := "outright.go:55", after := #[{ on := 11, ground := Ground.data }], guard := none },
        { dst := some 85, op := Op.move (Operand.tmp 0), type := 58, pos := "outright.go:55", after := #[], guard := none },
        { dst := some 86, op := Op.nilCheck (Operand.tmp 85), type := 0, pos := "outright.go:55", after := #[{ on := 13, ground := Ground.data }], guard := none },
        { dst := some 87, op := Op.fieldAddr 62 (Operand.tmp 86) 3, type := 0, pos := "outright.go:55", after := #[{ on := 14, ground := Ground.data }], guard := none },
        { dst := some 88, op := Op.load 2 (Operand.tmp 87), type := 2, pos := "outright.go:55", after := #[{ on := 15, ground := Ground.data }], guard := none },
        { dst := some 89, op := Op.move (Operand.tmp 5), type := 2, pos := "outright.go:55", after := #[], guard := none },
        { dst := some 90, op := Op.binOp BinOp.add 2 (Operand.tmp 88) (Operand.tmp 89) 2, type := 2, pos := "outright.go:55", after := #[{ on := 16, ground := Ground.data }, { on := 17, ground := Ground.data }], guard := none },
        { dst := some 91, op := Op.buildSlice 60 1 #[(0, Operand.tmp 90)], type := 60, pos := "outright.go:55", after := #[{ on := 18, ground := Ground.data }], guard := none },
        { dst := some 92, op := Op.call { callee := Callee.builtin Builtin.append, args := #[Operand.tmp 84, Operand.tmp 91], argTypes := #[60, 60] }, type := 60, pos := "outright.go:55", after := #[{ on := 12, ground := Ground.data }, { on := 19, ground := Ground.data }, { on := 8, ground := Ground.chain }], guard := none },
        { dst := some 93, op := Op.nilCheck (Operand.tmp 72), type := 0, pos := "outright.go:55", after := #[{ on := 0, ground := Ground.data }, { on := 0, ground := Ground.phase }, { on := 1, ground := Ground.textOnly Departure.lateStores }, { on := 2, ground := Ground.phase }, { on := 3, ground := Ground.phase }, { on := 4, ground := Ground.phase }, { on := 5, ground := Ground.phase }, { on := 6, ground := Ground.phase }, { on := 7, ground := Ground.phase }, { on := 8, ground := Ground.phase }, { on := 9, ground := Ground.textOnly Departure.lateStores }, { on := 10, ground := Ground.textOnly Departure.lateStoresUnsure }, { on := 11, ground := Ground.textOnly Departure.lateStoresUnsure }, { on := 12, ground := Ground.phase }, { on := 13, ground := Ground.textOnly Departure.lateStores }, { on := 14, ground := Ground.textOnly Departure.lateStoresUnsure }, { on := 15, ground := Ground.textOnly Departure.lateStoresUnsure }, { on := 16, ground := Ground.phase }, { on := 17, ground := Ground.textOnly Departure.lateStores }, { on := 18, ground := Ground.textOnly Departure.lateStoresUnsure }, { on := 19, ground := Ground.textOnly Departure.lateStoresUnsure }, { on := 20, ground := Ground.phase }], guard := none },
        { dst := some 94, op := Op.fieldAddr 62 (Operand.tmp 93) 1, type := 0, pos := "outright.go:55", after := #[{ on := 21, ground := Ground.data }, { on := 0, ground := Ground.phase }, { on := 1, ground := Ground.textOnly Departure.lateStores }, { on := 2, ground := Ground.phase }, { on := 3, ground := Ground.phase }, { on := 4, ground := Ground.phase }, { on := 5, ground := Ground.phase }, { on := 6, ground := Ground.phase }, { on := 7, ground := Ground.phase }, { on := 8, ground := Ground.phase }, { on := 9, ground := Ground.textOnly Departure.lateStores }, { on := 10, ground := Ground.textOnly Departure.lateStoresUnsure }, { on := 11, ground := Ground.textOnly Departure.lateStoresUnsure }, { on := 12, ground := Ground.phase }, { on := 13, ground := Ground.textOnly Departure.lateStores }, { on := 14, ground := Ground.textOnly Departure.lateStoresUnsure }, { on := 15, ground := Ground.textOnly Departure.lateStoresUnsure }, { on := 16, ground := Ground.phase }, { on := 17, ground := Ground.textOnly Departure.lateStores }, { on := 18, ground := Ground.textOnly Departure.lateStoresUnsure }, { on := 19, ground := Ground.textOnly Departure.lateStoresUnsure }, { on := 20, ground := Ground.phase }], guard := none },
        { dst := none, op := Op.store 48 (Operand.tmp 94) (Operand.tmp 80), type := 0, pos := "outright.go:55", after := #[{ on := 22, ground := Ground.data }, { on := 8, ground := Ground.data }, { on := 20, ground := Ground.chain }, { on := 0, ground := Ground.phase }, { on := 1, ground := Ground.textOnly Departure.lateStores }, { on := 2, ground := Ground.phase }, { on := 3, ground := Ground.phase }, { on := 4, ground := Ground.phase }, { on := 5, ground := Ground.phase }, { on := 6, ground := Ground.phase }, { on := 7, ground := Ground.phase }, { on := 8, ground := Ground.phase }, { on := 9, ground := Ground.textOnly Departure.lateStores }, { on := 10, ground := Ground.textOnly Departure.lateStoresUnsure }, { on := 11, ground := Ground.textOnly Departure.lateStoresUnsure }, { on := 12, ground := Ground.phase }, { on := 13, ground := Ground.textOnly Departure.lateStores }, { on := 14, ground := Ground.textOnly Departure.lateStoresUnsure }, { on := 15, ground := Ground.textOnly Departure.lateStoresUnsure }, { on := 16, ground := Ground.phase }, { on := 17, ground := Ground.textOnly Departure.lateStores }, { on := 18, ground := Ground.textOnly Departure.lateStoresUnsure }, { on := 19, ground := Ground.textOnly Departure.lateStoresUnsure }, { on := 20, ground := Ground.phase }], guard := none },
        { dst := some 95, op := Op.nilCheck (Operand.tmp 73), type := 0, pos := "outright.go:55", after := #[{ on := 1, ground := Ground.data }, { on := 0, ground := Ground.phase }, { on := 1, ground := Ground.phase }, { on := 2, ground := Ground.phase }, { on := 3, ground := Ground.phase }, { on := 4, ground := Ground.phase }, { on := 5, ground := Ground.phase }, { on := 6, ground := Ground.phase }, { on := 7, ground := Ground.phase }, { on := 8, ground := Ground.phase }, { on := 9, ground := Ground.phase }, { on := 10, ground := Ground.phase }, { on := 11, ground := Ground.phase }, { on := 12, ground := Ground.phase }, { on := 13, ground := Ground.phase }, { on := 14, ground := Ground.phase }, { on := 15, ground := Ground.phase }, { on := 16, ground := Ground.phase }, { on := 17, ground := Ground.phase }, { on := 18, ground := Ground.phase }, { on := 19, ground := Ground.phase }, { on := 20, ground := Ground.phase }, { on := 21, ground := Ground.phase }, { on := 22, ground := Ground.phase }, { on := 23, ground := Ground.phase }], guard := none },
        { dst := some 96, op := Op.fieldAddr 62 (Operand.tmp 95) 2, type := 0, pos := "outright.go:55", after := #[{ on := 24, ground := Ground.data }, { on := 0, ground := Ground.phase }, { on := 1, ground := Ground.phase }, { on := 2, ground := Ground.phase }, { on := 3, ground := Ground.phase }, { on := 4, ground := Ground.phase }, { on := 5, ground := Ground.phase }, { on := 6, ground := Ground.phase }, { on := 7, ground := Ground.phase }, { on := 8, ground := Ground.phase }, { on := 9, ground := Ground.phase }, { on := 10, ground := Ground.phase }, { on := 11, ground := Ground.phase }, { on := 12, ground := Ground.phase }, { on := 13, ground := Ground.phase }, { on := 14, ground := Ground.phase }, { on := 15, ground := Ground.phase }, { on := 16, ground := Ground.phase }, { on := 17, ground := Ground.phase }, { on := 18, ground := Ground.phase }, { on := 19, ground := Ground.phase }, { on := 20, ground := Ground.phase }, { on := 21, ground := Ground.phase }, { on := 22, ground := Ground.phase }, { on := 23, ground := Ground.phase }], guard := none },
        { dst := none, op := Op.store 60 (Operand.tmp 96) (Operand.tmp 92), type := 0, pos := "outright.go:55", after := #[{ on := 25, ground := Ground.data }, { on := 20, ground := Ground.data }, { on := 23, ground := Ground.chain }, { on := 0, ground := Ground.phase }, { on := 1, ground := Ground.phase }, { on := 2, ground := Ground.phase }, { on := 3, ground := Ground.phase }, { on := 4, ground := Ground.phase }, { on := 5, ground := Ground.phase }, { on := 6, ground := Ground.phase }, { on := 7, ground := Ground.phase }, { on := 8, ground := Ground.phase }, { on := 9, ground := Ground.phase }, { on := 10, ground := Ground.phase }, { on := 11, ground := Ground.phase }, { on := 12, ground := Ground.phase }, { on := 13, ground := Ground.phase }, { on := 14, ground := Ground.phase }, { on := 15, ground := Ground.phase }, { on := 16, ground := Ground.phase }, { on := 17, ground := Ground.phase }, { on := 18, ground := Ground.phase }, { on := 19, ground := Ground.phase }, { on := 20, ground := Ground.phase }, { on := 21, ground := Ground.phase }, { on := 22, ground := Ground.phase }, { on := 23, ground := Ground.phase }], guard := none }]
      true).wp Try.prog Q ⟨T, []⟩ w := by
  have hwr : IntKind.i64.wrap (Z + Tk) = Z + Tk := by rw [IntKind.wrap_i64]; omega
  refine region_last 26 (fun f a' W => ∃ tm, a' = ⟨tm, []⟩ ∧ JQ T w0 w X b k a A pl cl pu cu n D L U r y Z Tk okb f tm W) (by kernel_rfl) rfl ?_ ?_ ?_ ?_ ?_
  · intro i o ho
    rcases i with _|_|_|_|_|_|_|_|_|_|_|_|_|_|_|_|_|_|_|_|_|_|_|_|_|_|_|i
    all_goals simp at ho
    all_goals subst ho
    all_goals simp [Region.binds]
  · intro f hcl hp i hi
    have h1 := hp _ rfl
    simp [Region.binds] at h1
    have h25 := hcl 25 _ rfl (by simp [h1])
    simp [Region.binds] at h25
    rcases i with _|_|_|_|_|_|_|_|_|_|_|_|_|_|_|_|_|_|_|_|_|_|_|_|_|_|i
    all_goals try simp only [Nat.zero_add, Nat.reduceAdd] at hi ⊢
    all_goals first | omega | simp [h1, h25]
  · have bd : Below w.heap.size w w.drew := bel_drew (Below.refl _ _)
    exact ⟨T, rfl, rfl, fun _ _ => rfl, (fun k v _ h => by cases h), (Kept.refl _ w).drew, ds.quiet bd, fun _ => hA.below bd, (fun h => by cases h), fun _ => own_below hl bd, (fun h => by cases h), (fun h => by cases h), fun _ => own_below hu bd, (fun h => by cases h), ⟨_, hX.below bd, fun _ => rfl, fun h => by cases h⟩⟩
  · rintro f a' W ⟨tm, rfl, hJ⟩ hcl i o ho hi hfi hpre
    have HY := Lib.hid hy
    clear hy
    have k0 : tm[0]? = some (.pointer (some ⟨X, 0, none⟩)) := (hJ.old 0 (by omega)).trans t0
    have k5 : tm[5]? = some (.int .i64 Tk) := (hJ.old 5 (by omega)).trans t5
    have k6 : tm[6]? = some (.pointer (some ⟨A, 0, none⟩)) := (hJ.old 6 (by omega)).trans t6

    have c8 := fun h => hcl 8 _ rfl h
    have c7 := fun h => hcl 7 _ rfl h
    have c19 := fun h => hcl 19 _ rfl h
    have c20 := fun h => hcl 20 _ rfl h
    have c23 := fun h => hcl 23 _ rfl h
    have c22 := fun h => hcl 22 _ rfl h
    have d87 : f 8 = true → f 7 = true := fun h => c8 h ⟨7, .data⟩ (by simp) rfl
    have d76 : f 7 = true → f 6 = true := fun h => c7 h ⟨6, .data⟩ (by simp) rfl
    have d2019 : f 20 = true → f 19 = true := fun h => c20 h ⟨19, .data⟩ (by simp) rfl
    have d208 : f 20 = true → f 8 = true := fun h => c20 h ⟨8, .chain⟩ (by simp) rfl
    have d238 : f 23 = true → f 8 = true := fun h => c23 h ⟨8, .data⟩ (by simp) rfl
    have d2320 : f 23 = true → f 20 = true := fun h => c23 h ⟨20, .chain⟩ (by simp) rfl
    have d235 : f 23 = true → f 5 = true := fun h => c23 h ⟨5, .phase⟩ (by simp) rfl
    clear hcl c8 c7 c19 c20 c23 c22
    obtain ⟨xv, hx, hx0, hx1⟩ := hJ.xb
    have hoX := hJ.ds.f.off hx (by decide) (by decide) (by decide)
    have x1 := hx.cell 1
    have x2 := hx.cell 2
    have x3 := hx.cell 3
    have fx := hx.frozen 1
    have lx := hx.lt
    simp only [List.getElem?_toArray, List.getElem?_cons_zero, List.getElem?_cons_succ] at x1 x2 x3
    rcases i with _|_|_|_|_|_|_|_|_|_|_|_|_|_|_|_|_|_|_|_|_|_|_|_|_|_|i
    rotate_right
    · exfalso; omega
    all_goals try simp only [Nat.zero_add, Nat.reduceAdd] at hfi ho hi ⊢
    all_goals simp at ho
    all_goals subst ho
    all_goals clear hi
    · refine wpOp_of rfl rfl ?_
      go_simp
      exact hJ.same (i := 0) hT (by decide) rfl
    · refine wpOp_of rfl rfl ?_
      go_simp
      exact hJ.same (i := 1) hT (by decide) rfl
    · refine wpOp_of rfl rfl ?_
      go_simp
      exact hJ.same (i := 2) hT (by decide) rfl
    · have v2 : tm[74]? = some (.pointer (some ⟨X, 0, none⟩)) := hJ.val 2 _ rfl (hpre ⟨2, .data⟩ (by simp) rfl)
      refine wpOp_of rfl rfl ?_
      go_simp
      exact hJ.same (i := 3) hT (by decide) rfl
    · have v3 : tm[75]? = some (.pointer (some ⟨X, 0, none⟩)) := hJ.val 3 _ rfl (hpre ⟨3, .data⟩ (by simp) rfl)
      refine wpOp_of rfl rfl ?_
      go_simp
      exact hJ.same (i := 4) hT (by decide) rfl
    · have v4 : tm[76]? = some (.pointer (some ⟨X, 1, none⟩)) := hJ.val 4 _ rfl (hpre ⟨4, .data⟩ (by simp) rfl)
      have hv : xv = .slice pl n cl := hx0 (by cases e : f 23 with | false => rfl | true => rw [d235 e] at hfi; cases hfi)
      subst hv
      refine wpOp_of rfl rfl ?_
      go_simp
      exact hJ.same (i := 5) hT (by decide) rfl
    · have q7 : f 7 = false := by cases e : f 7 with | false => rfl | true => rw [d76 e] at hfi; cases hfi
      obtain ⟨y0, y1, y2, y3⟩ := ob_cells (hJ.box q7)
      refine wpOp_of rfl rfl ?_
      go_simp
      exact hJ.same (i := 6) hT (by decide) rfl
    · have v6 : tm[78]? = some (.agg #[.int .i64 r.k, .int .i64 r.i, .int .u32 r.g]) := hJ.val 6 _ rfl (hpre ⟨6, .data⟩ (by simp) rfl)
      have q8 : f 8 = false := by cases e : f 8 with | false => rfl | true => rw [d87 e] at hfi; cases hfi
      refine wpOp_of rfl rfl ?_
      go_simp
      have bb := bal W (.cells #[.int .i64 r.k, .int .i64 r.i, .int .u32 r.g] 33)
      refine ⟨by simpa using hJ.sz, fun p hp => ?_, hJ.vals (i := 7) hT (by decide) (by decide) (fun u hu => by simp [pvq] at hu), hJ.kept.alloc _, hJ.ds.quiet bb, (fun e => by simp [more] at e), fun _ _ => ⟨W.heap.size, ?_, Bk.new W _ _⟩, fun e => own_below (hJ.row1 q8) bb, (fun e => by simp [more, q8] at e), fun e1 e2 => ?_, fun e => own_below (hJ.row2 (by simpa [more] using e)) bb, (fun e => ?_), ⟨xv, hx.below bb, fun e => hx0 (by simpa [more] using e), fun e => ?_⟩⟩
      · rw [Array.getElem?_setIfInBounds, if_neg (by omega)]; exact hJ.old p hp
      · rw [Array.getElem?_setIfInBounds, if_pos rfl, if_pos (by rw [hJ.sz]; omega)]
      · obtain ⟨B, g1, g2⟩ := hJ.lit2 (by simpa [more] using e1) (by simpa [more] using e2)
        exact ⟨B, by rw [Array.getElem?_setIfInBounds, if_neg (by omega)]; exact g1, g2.below bb⟩
      · exact absurd (d208 (by simpa [more] using e)) (by rw [q8]; decide)
      · exact absurd (d238 (by simpa [more] using e)) (by rw [q8]; decide)
    · have q7 : f 7 = true := hpre ⟨7, .data⟩ (by simp) rfl
      have v5 : tm[77]? = some (.slice pl n cl) := hJ.val 5 _ rfl (hpre ⟨5, .data⟩ (by simp) rfl)
      obtain ⟨B, g1, g2⟩ := hJ.lit1 q7 hfi
      have hrow := hJ.row1 hfi
      have hrow' : W.ownsRow w0.heap.size 33 3 (.slice pl n cl) L.length (ocls L) := by rw [hL]; exact hrow
      obtain ⟨p', c', W', hrun, happ⟩ := app_o (r := r) hL hrow' g2 (by omega) hJ.ds.bel.size
      obtain ⟨hown, hk⟩ := happ
      have hlen : (L ++ [r]).length = n + 1 := by simp [hL]
      rw [hlen] at hown
      have hP := row_turn hrow
      have hlo2 : ∀ g, (Value.slice pl n cl).ownBlock = some g → w0.heap.size ≤ g := fun g e => (hrow.lt g e).1
      have q23 : f 23 = false := by cases e : f 23 with | false => rfl | true => rw [d238 e] at hfi; cases hfi
      have q20 : f 20 = false := by cases e : f 20 with | false => rfl | true => rw [d208 e] at hfi; cases hfi
      refine wpOp_of rfl rfl (Lib.wp_append_run W _ _ _ _ rfl (.slice pl n cl) (.slice (some ⟨B, 0, none⟩) 1 1) (by simp [Act.eval, v5]) (by simp [Act.eval, g1]) _ _ hrun ?_)
      refine ⟨_, rfl, by simpa using hJ.sz, fun p hp => ?_, hJ.vals (i := 8) hT (by decide) (by decide) (fun u hu => by simp [pvq] at hu), hJ.kept.trans (hk.mono fun g _ e => ?_), ds_turn hP hJ.ds (by decide) (by decide) (by decide) hk hlo2, (fun e => by simp [more, q7] at e), (fun _ e => by simp [more] at e), (fun e => by simp [more] at e), fun _ => ⟨p', c', ?_, hown⟩, fun e1 e2 => ?_, fun e => own_turn hP (hJ.row2 (by simpa [more] using e)) (by decide) hk, (fun e => by simp [more, q20] at e), ⟨xv, bk_turn hP hx (by decide) hk, fun _ => hx0 q23, fun e => by simp [more, q23] at e⟩⟩
      · rw [Array.getElem?_setIfInBounds, if_neg (by omega)]; exact hJ.old p hp
      · cases pl with
        | none => cases e
        | some ad => exact .inr (.inr (.inl ⟨ad, rfl, Option.some.inj e⟩))
      · rw [Array.getElem?_setIfInBounds, if_pos rfl, if_pos (by rw [hJ.sz]; omega)]
      · obtain ⟨B', g3, g4⟩ := hJ.lit2 (by simpa [more] using e1) (by simpa [more] using e2)
        exact ⟨B', by rw [Array.getElem?_setIfInBounds, if_neg (by omega)]; exact g3, bk_turn hP g4 (by decide) hk⟩
    · refine wpOp_of rfl rfl ?_
      go_simp
      exact hJ.same (i := 9) hT (by decide) rfl
    · have v9 : tm[81]? = some (.pointer (some ⟨X, 0, none⟩)) := hJ.val 9 _ rfl (hpre ⟨9, .data⟩ (by simp) rfl)
      refine wpOp_of rfl rfl ?_
      go_simp
      exact hJ.same (i := 10) hT (by decide) rfl
    · have v10 : tm[82]? = some (.pointer (some ⟨X, 0, none⟩)) := hJ.val 10 _ rfl (hpre ⟨10, .data⟩ (by simp) rfl)
      refine wpOp_of rfl rfl ?_
      go_simp
      exact hJ.same (i := 11) hT (by decide) rfl
    · have v11 : tm[83]? = some (.pointer (some ⟨X, 2, none⟩)) := hJ.val 11 _ rfl (hpre ⟨11, .data⟩ (by simp) rfl)
      refine wpOp_of rfl rfl ?_
      go_simp
      exact hJ.same (i := 12) hT (by decide) rfl
    · refine wpOp_of rfl rfl ?_
      go_simp
      exact hJ.same (i := 13) hT (by decide) rfl
    · have v13 : tm[85]? = some (.pointer (some ⟨X, 0, none⟩)) := hJ.val 13 _ rfl (hpre ⟨13, .data⟩ (by simp) rfl)
      refine wpOp_of rfl rfl ?_
      go_simp
      exact hJ.same (i := 14) hT (by decide) rfl
    · have v14 : tm[86]? = some (.pointer (some ⟨X, 0, none⟩)) := hJ.val 14 _ rfl (hpre ⟨14, .data⟩ (by simp) rfl)
      refine wpOp_of rfl rfl ?_
      go_simp
      exact hJ.same (i := 15) hT (by decide) rfl
    · have v15 : tm[87]? = some (.pointer (some ⟨X, 3, none⟩)) := hJ.val 15 _ rfl (hpre ⟨15, .data⟩ (by simp) rfl)
      refine wpOp_of rfl rfl ?_
      go_simp
      exact hJ.same (i := 16) hT (by decide) rfl
    · refine wpOp_of rfl rfl ?_
      go_simp
      exact hJ.same (i := 17) hT (by decide) rfl
    · have v16 : tm[88]? = some (.int .i64 Z) := hJ.val 16 _ rfl (hpre ⟨16, .data⟩ (by simp) rfl)
      have v17 : tm[89]? = some (.int .i64 Tk) := hJ.val 17 _ rfl (hpre ⟨17, .data⟩ (by simp) rfl)
      refine wpOp_of rfl rfl ?_
      go_simp
      exact hJ.same (i := 18) hT (by decide) rfl
    · have v18 : tm[90]? = some (.int .i64 (Z + Tk)) := hJ.val 18 _ rfl (hpre ⟨18, .data⟩ (by simp) rfl)
      have q20 : f 20 = false := by cases e : f 20 with | false => rfl | true => rw [d2019 e] at hfi; cases hfi
      refine wpOp_of rfl rfl ?_
      go_simp
      rw [HY.out]
      have bb := bal W (.cells #[.int .i64 (y : Int)] 2)
      refine ⟨by simpa using hJ.sz, fun p hp => ?_, hJ.vals (i := 19) hT (by decide) (by decide) (fun u hu => by simp [pvq] at hu), hJ.kept.alloc _, hJ.ds.quiet bb, fun e => (hJ.box (by simpa [more] using e)).below bb, fun e1 e2 => ?_, fun e => own_below (hJ.row1 (by simpa [more] using e)) bb, (fun e => ?_), fun _ _ => ⟨W.heap.size, ?_, Bk.new W _ _⟩, fun e => own_below (hJ.row2 q20) bb, (fun e => by simp [more, q20] at e), ⟨xv, hx.below bb, fun e => hx0 (by simpa [more] using e), fun e => ?_⟩⟩
      · rw [Array.getElem?_setIfInBounds, if_neg (by omega)]; exact hJ.old p hp
      · obtain ⟨B, g1, g2⟩ := hJ.lit1 (by simpa [more] using e1) (by simpa [more] using e2)
        exact ⟨B, by rw [Array.getElem?_setIfInBounds, if_neg (by omega)]; exact g1, g2.below bb⟩
      · obtain ⟨p, c, g1, g2⟩ := hJ.new1 (by simpa [more] using e)
        exact ⟨p, c, by rw [Array.getElem?_setIfInBounds, if_neg (by omega)]; exact g1, own_below g2 bb⟩
      · rw [Array.getElem?_setIfInBounds, if_pos rfl, if_pos (by rw [hJ.sz]; omega)]
      · exact absurd (d2320 (by simpa [more] using e)) (by rw [q20]; decide)
    · have q19 : f 19 = true := hpre ⟨19, .data⟩ (by simp) rfl
      have q8 : f 8 = true := hpre ⟨8, .chain⟩ (by simp) rfl
      have v12 : tm[84]? = some (.slice pu n cu) := hJ.val 12 _ rfl (hpre ⟨12, .data⟩ (by simp) rfl)
      obtain ⟨B, g1, g2⟩ := hJ.lit2 q19 hfi
      have hrow := hJ.row2 hfi
      obtain ⟨p', c', W', hrun, hown, hk⟩ := app_u hU hrow g2 (by omega) hJ.ds.bel.size
      have hP := row_turn hrow
      have hlo2 : ∀ g, (Value.slice pu n cu).ownBlock = some g → w0.heap.size ≤ g := fun g e => (hrow.lt g e).1
      have q23 : f 23 = false := by cases e : f 23 with | false => rfl | true => rw [d2320 e] at hfi; cases hfi
      refine wpOp_of rfl rfl (Lib.wp_append_run W _ _ _ _ rfl (.slice pu n cu) (.slice (some ⟨B, 0, none⟩) 1 1) (by simp [Act.eval, v12]) (by simp [Act.eval, g1]) _ _ hrun ?_)
      refine ⟨_, rfl, by simpa using hJ.sz, fun p hp => ?_, hJ.vals (i := 20) hT (by decide) (by decide) (fun u hu => by simp [pvq] at hu), hJ.kept.trans (hk.mono fun g _ e => ?_), ds_turn hP hJ.ds (by decide) (by decide) (by decide) hk hlo2, fun e => ?_, fun _ e2 => ?_, (fun e => by simp [more, q8] at e), fun e => ?_, (fun _ e => by simp [more] at e), (fun e => by simp [more] at e), fun _ => ⟨p', c', ?_, hown⟩, ⟨xv, bk_turn hP hx (by decide) hk, fun _ => hx0 q23, fun e => by simp [more, q23] at e⟩⟩
      · rw [Array.getElem?_setIfInBounds, if_neg (by omega)]; exact hJ.old p hp
      · cases pu with
        | none => cases e
        | some ad => exact .inr (.inr (.inr ⟨ad, rfl, Option.some.inj e⟩))
      · exact absurd (d87 q8) (by have e2 : f 7 = false := by simpa [more] using e
                                  rw [e2]; decide)
      · exact absurd q8 (by have e3 : f 8 = false := by simpa [more] using e2
                            rw [e3]; decide)
      · obtain ⟨p, c, g3, g4⟩ := hJ.new1 q8
        exact ⟨p, c, by rw [Array.getElem?_setIfInBounds, if_neg (by omega)]; exact g3, own_turn hP g4 (by decide) hk⟩
      · rw [Array.getElem?_setIfInBounds, if_pos rfl, if_pos (by rw [hJ.sz]; omega)]
    · have v0 : tm[72]? = some (.pointer (some ⟨X, 0, none⟩)) := hJ.val 0 _ rfl (hpre ⟨0, .data⟩ (by simp) rfl)
      refine wpOp_of rfl rfl ?_
      go_simp
      exact hJ.same (i := 21) hT (by decide) rfl
    · have v21 : tm[93]? = some (.pointer (some ⟨X, 0, none⟩)) := hJ.val 21 _ rfl (hpre ⟨21, .data⟩ (by simp) rfl)
      refine wpOp_of rfl rfl ?_
      go_simp
      exact hJ.same (i := 22) hT (by decide) rfl
    · have q8 : f 8 = true := hpre ⟨8, .data⟩ (by simp) rfl
      have q20 : f 20 = true := hpre ⟨20, .chain⟩ (by simp) rfl
      have q7 : f 7 = true := d87 q8
      have q19 : f 19 = true := d2019 q20
      have v22 : tm[94]? = some (.pointer (some ⟨X, 1, none⟩)) := hJ.val 22 _ rfl (hpre ⟨22, .data⟩ (by simp) rfl)
      obtain ⟨p, c, g3, g4⟩ := hJ.new1 q8
      obtain ⟨p2, c2, g5, g6⟩ := hJ.new2 q20
      have hP := one_turn hx
      have hk : Kept (· = X) W (W.setCell ⟨X, 1, none⟩ (.slice p (n + 1) c)) := (Kept.refl _ W).put1 1 _
      refine wpOp_of rfl rfl ?_
      go_simp
      refine ⟨hJ.sz, hJ.old, fun q u hu e => hJ.val q u hu (by
        have hq : q ≠ 23 := by rintro rfl; simp [pvq] at hu
        simpa [more, hq] using e), hJ.kept.trans (hk.mono fun g _ e => .inl e), ds_turn hP hJ.ds (by decide) (by decide) (by decide) hk (by rintro g rfl; exact hlo), (fun e => by simp [more, q7] at e), (fun _ e => by simp [more, q8] at e), (fun e => by simp [more, q8] at e), fun _ => ⟨p, c, g3, own_turn hP g4 (by decide) hk⟩, (fun _ e => by simp [more, q20] at e), (fun e => by simp [more, q20] at e), fun _ => ⟨p2, c2, g5, own_turn hP g6 (by decide) hk⟩, ⟨_, hx.put 1 _, fun e => by simp [more] at e, fun _ => g3⟩⟩
    · have v1 : tm[73]? = some (.pointer (some ⟨X, 0, none⟩)) := hJ.val 1 _ rfl (hpre ⟨1, .data⟩ (by simp) rfl)
      refine wpOp_of rfl rfl ?_
      go_simp
      exact hJ.same (i := 24) hT (by decide) rfl
    · have v24 : tm[95]? = some (.pointer (some ⟨X, 0, none⟩)) := hJ.val 24 _ rfl (hpre ⟨24, .data⟩ (by simp) rfl)
      refine wpOp_of rfl rfl ?_
      go_simp
      exact hJ.same (i := 25) hT (by decide) rfl
  · rintro f a' W ⟨tm, rfl, hJ⟩ hal
    obtain ⟨xv, hx, hx0, hx1⟩ := hJ.xb
    obtain ⟨p, c, g3, g4⟩ := hJ.new1 (hal 8 (by decide))
    obtain ⟨p2, c2, g5, g6⟩ := hJ.new2 (hal 20 (by decide))
    have e80 := hx1 (hal 23 (by decide))
    have hv : xv = .slice p (n + 1) c := Option.some.inj (e80.symm.trans g3)
    subst hv
    have v25 : tm[96]? = some (.pointer (some ⟨X, 2, none⟩)) := hJ.val 25 _ rfl (hal 25 (by decide))
    have x2 := hx.cell 2
    have fx := hx.frozen 2
    have lx := hx.lt
    simp only [List.getElem?_toArray, List.getElem?_cons_zero, List.getElem?_cons_succ] at x2
    have hP := one_turn hx
    have hk : Kept (· = X) W (W.setCell ⟨X, 2, none⟩ (.slice p2 (n + 1) c2)) := (Kept.refl _ W).put1 2 _
    refine wpOp_of rfl rfl ?_
    go_simp
    exact hQ tm _ p c p2 c2 hJ.sz (fun q hq => hJ.old q (.inl hq)) (hJ.kept.trans (hk.mono fun g _ e => .inl e)) (ds_turn hP hJ.ds (by decide) (by decide) (by decide) hk (by rintro g rfl; exact hlo)) (hx.put 2 _) (own_turn hP g4 (by decide) hk) (own_turn hP g6 (by decide) hk)
end Go.Proofs.Ytfemfgpciogbeaa
