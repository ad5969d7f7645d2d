/- A region of eleven operations, whatever its frame: append(append([]held{}, in[:k]...), in[k+1:]...). -/
import Derived.Test.YtjhgckaaaonbiaaUi
import Derived.Lib.AppendZeros
import Derived.Lib.SliceRun
namespace Go.Proofs.Ytjhgckaaaonbiaa
open Go.RowKit

/-- The slice of n entries at a, with room for c, reads as L. -/
def RdI (w : World) (a : Option Addr) (n c : Nat) (L : List It) : Prop := n = L.length ∧ ((a = none ∧ n = 0 ∧ c = 0) ∨ ∃ ad : Addr, a = some ad ∧ ∀ j u, (icls L)[j]? = some u → w.cell? (ad.add j) = some u)
/-- One slice more behind a slice of one's own. -/
theorem app_i {W : World} {base m c : Nat} {v : Value} {a : Option Addr} {L M : List It} (ho : W.ownsRow base 60 4 v L.length (icls L)) (hr : RdI W a m c M) (hl : L.length + M.length ≤ 1000) (hb : base ≤ W.heap.size) :
    ∃ v' W', (Builtin.append_ #[56, 56] 56 #[v, .slice a m c]).run Try.prog W = .ok v' W' ∧ W'.ownsRow base 60 4 v' (L ++ M).length (icls (L ++ M)) ∧ Kept (fun g => v.ownBlock = some g) W W' := by
  obtain ⟨i0, hi, hz0, hz1, hz2⟩ := info_parts info_held
  obtain ⟨rfl, h⟩ := hr
  rcases h with ⟨rfl, h0, rfl⟩ | ⟨ad, rfl, hc⟩
  · have hM : M = [] := List.eq_nil_of_length_eq_zero h0
    subst hM
    refine ⟨v, W, ?_, by rw [List.append_nil]; exact ho, Kept.refl _ _⟩
    exact run_append_owned_none (P := Try.prog) W base 56 56 60 i0 4 Try.underlying56 hi _ _ _ ho
  · obtain ⟨v', W', hrun, hown, hgr, _, _⟩ := run_append_own_at (P := Try.prog) W base 56 56 60 i0 _ 4 32 Try.underlying56 hi hz0 hz1 hz2 rfl (by decide) v L.length (icls L) ho ad M.length c (icls M) (icls_length M) hc (icls_one M) (by unfold maxLen; omega) (by omega) hb
    exact ⟨v', W', hrun, by rw [List.length_append, icls_append]; exact hown, ⟨hgr.os, hgr.tape, hgr.output, hgr.size, fun k hk hs => hgr.block k hk fun e => hs e.symm⟩⟩
/-- A part of the entries: from lo up to hi. -/
theorem rdi_part {w : World} {base g q c : Nat} {L : List It} (h : w.ownsRow base 60 4 (.slice (some ⟨g, 0, none⟩) q c) q (icls L)) (hl : L.length = q) (lo hi : Nat) (h1 : lo ≤ hi) (h2 : hi ≤ q) (ad : Addr) (he : lo < hi → ad = ⟨g, lo * 4, none⟩) (c' : Nat) : RdI w (some ad) (hi - lo) c' ((L.drop lo).take (hi - lo)) := by
  have hlen : ((L.drop lo).take (hi - lo)).length = hi - lo := by rw [List.length_take, List.length_drop]; omega
  refine ⟨hlen.symm, .inr ⟨ad, rfl, fun j u hj => ?_⟩⟩
  have hjl : j < (hi - lo) * 4 := by
    have := (List.getElem?_eq_some_iff.1 hj).1
    rwa [icls_length, hlen] at this
  obtain rfl := he (by omega)
  have e : (⟨g, lo * 4, none⟩ : Addr).add j = ⟨g, lo * 4 + j, none⟩ := by unfold Addr.add; split <;> simp_all
  rw [e]
  have hc := h.cellAt (lo * 4 + j) (by omega)
  rw [hc]
  rw [← icls_take _ _ (by rw [List.length_drop]; omega), ← icls_drop _ _ (by omega), List.getElem?_take_of_lt hjl, List.getElem?_drop] at hj
  exact hj

/-- What a slot holds once its operation has come up. -/
def SpJ (V s1 s2 : Value) (y : Nat) (k : Nat) (x : Value) : Prop :=
  match k with | 1 => x = V | 2 => x = .int .i64 y | 3 => x = s1 | 5 => x = V | 6 => x = .int .i64 y | 7 => x = .int .i64 ((y : Int) + 1) | 8 => x = s2 | _ => True
structure JA (T : Array Value) (w : World) (V s1 s2 : Value) (y : Nat) (R1 R2 : List It) (f : Nat → Bool) (tm : Array Value) (W : World) : Prop where
  sz : tm.size = T.size
  old : ∀ q, (q < 139 ∨ 148 < q) → tm[q]? = T[q]?
  val : ∀ k, k < 10 → f k = true → ∃ x, tm[139 + k]? = some x ∧ SpJ V s1 s2 y k x
  bel : Below w.heap.size w W
  r0 : f 0 = true → f 4 = false → ∃ x, tm[139]? = some x ∧ W.ownsRow w.heap.size 60 4 x 0 (icls [])
  r4 : f 4 = true → f 9 = false → ∃ x, tm[143]? = some x ∧ W.ownsRow w.heap.size 60 4 x R1.length (icls R1)
  r9 : f 9 = true → ∃ x, tm[148]? = some x ∧ W.ownsRow w.heap.size 60 4 x (R1 ++ R2).length (icls (R1 ++ R2))
section
variable {T tm : Array Value} {w W W' : World} {V s1 s2 v : Value} {y : Nat} {R1 R2 : List It} {f : Nat → Bool}
theorem JA.vals (h : JA T w V s1 s2 y R1 R2 f tm W) (hT : 148 < T.size) {i : Nat} (hi : i < 10) (hs : SpJ V s1 s2 y i v) : ∀ k, k < 10 → more f i k = true → ∃ x, (tm.setIfInBounds (139 + i) v)[139 + k]? = some x ∧ SpJ V s1 s2 y k x := fun k hk hf => by
  rw [Array.getElem?_setIfInBounds]
  by_cases e : k = i
  · subst e
    rw [if_pos rfl, if_pos (by rw [h.sz]; omega)]
    exact ⟨v, rfl, hs⟩
  · rw [if_neg (by omega)]
    refine h.val k hk ?_
    simpa [more, e] using hf
theorem JA.same (h : JA T w V s1 s2 y R1 R2 f tm W) (hT : 148 < T.size) {i : Nat} (hi : i < 10) (hs : SpJ V s1 s2 y i v) (h0 : i ≠ 0) (h4 : i ≠ 4) (h9 : i ≠ 9) : JA T w V s1 s2 y R1 R2 (more f i) (tm.setIfInBounds (139 + i) v) W := by
  refine ⟨by simpa using h.sz, fun q hq => ?_, h.vals hT hi hs, h.bel, fun g1 g2 => ?_, fun g1 g2 => ?_, fun g1 => ?_⟩
  · rw [Array.getElem?_setIfInBounds, if_neg (by omega)]; exact h.old q hq
  · obtain ⟨x, h1, h2⟩ := h.r0 (by simpa [more, h0.symm] using g1) (by simpa [more, h4.symm] using g2)
    exact ⟨x, by rw [Array.getElem?_setIfInBounds, if_neg (by omega)]; exact h1, h2⟩
  · obtain ⟨x, h1, h2⟩ := h.r4 (by simpa [more, h4.symm] using g1) (by simpa [more, h9.symm] using g2)
    exact ⟨x, by rw [Array.getElem?_setIfInBounds, if_neg (by omega)]; exact h1, h2⟩
  · obtain ⟨x, h1, h2⟩ := h.r9 (by simpa [more, h9.symm] using g1)
    exact ⟨x, by rw [Array.getElem?_setIfInBounds, if_neg (by omega)]; exact h1, h2⟩
theorem JA.get (h : JA T w V s1 s2 y R1 R2 f tm W) {k : Nat} (hk : k < 10) (hf : f k = true) : ∃ x, tm[139 + k]? = some x ∧ SpJ V s1 s2 y k x := h.val k hk hf
end
set_option maxHeartbeats 4000000 in
set_option maxRecDepth 100000 in
theorem app2_region {id : Nat} {Q : Exit → Act → World → Prop} {T : Array Value} {w : World} {b0 g q c y : Nat} {R : List It} (hT : 148 < T.size) (h12 : T[12]? = some (.slice (some ⟨g, 0, none⟩) q c)) (h18 : T[18]? = some (.int .i64 y))
    (hrow : w.ownsRow b0 60 4 (.slice (some ⟨g, 0, none⟩) q c) q (icls R)) (hl : R.length = q) (hy : y < q) (hq : q ≤ 500) (hc : q ≤ c) (hcm : c ≤ maxLen)
    (hQ : ∀ u0 u1 u2 u3 u4 u5 u6 u7 u8 u9 x W, Below w.heap.size w W → W.ownsRow w.heap.size 60 4 x (R.eraseIdx y).length (icls (R.eraseIdx y)) →
      Q .normal ⟨((((((((((T.setIfInBounds 139 u0).setIfInBounds 140 u1).setIfInBounds 141 u2).setIfInBounds 142 u3).setIfInBounds 143 u4).setIfInBounds 144 u5).setIfInBounds 145 u6).setIfInBounds 146 u7).setIfInBounds 147 u8).setIfInBounds 148 u9).setIfInBounds 12 x, []⟩ W) :
    (Code.region id
      #[{ dst := some 139, op := Op.buildSlice 56 0 #[], type := 56, pos := "outright.go:50", after := #[], guard := none },
        { dst := some 140, op := Op.move (Operand.tmp 12), type := 56, pos := "outright.go:50", after := #[], guard := none },
        { dst := some 141, op := Op.move (Operand.tmp 18), type := 3, pos := "outright.go:50", after := #[], guard := none },
        { dst := some 142, op := Op.slice 56 (Operand.tmp 140) none (some (Operand.tmp 141)) none, type := 56, pos := "outright.go:50", after := #[{ on := 1, ground := Ground.data }, { on := 2, ground := Ground.data }], guard := none },
        { dst := some 143, op := Op.call { callee := Callee.builtin Builtin.append, args := #[Operand.tmp 139, Operand.tmp 142], argTypes := #[56, 56] }, type := 56, pos := "outright.go:50", after := #[{ on := 0, ground := Ground.data }, { on := 3, ground := Ground.data }], guard := none },
        { dst := some 144, op := Op.move (Operand.tmp 12), type := 56, pos := "outright.go:50", after := #[], guard := none },
        { dst := some 145, op := Op.move (Operand.tmp 18), type := 3, pos := "outright.go:50", after := #[], guard := none },
        { dst := some 146, op := Op.binOp BinOp.add 3 (Operand.tmp 145) (Operand.const (Value.int IntKind.i64 1)) 3, type := 3, pos := "outright.go:50", after := #[{ on := 6, ground := Ground.data }], guard := none },
        { dst := some 147, op := Op.slice 56 (Operand.tmp 144) (some (Operand.tmp 146)) none none, type := 56, pos := "outright.go:50", after := #[{ on := 5, ground := Ground.data }, { on := 7, ground := Ground.data }], guard := none },
        { dst := some 148, op := Op.call { callee := Callee.builtin Builtin.append, args := #[Operand.tmp 143, Operand.tmp 147], argTypes := #[56, 56] }, type := 56, pos := "outright.go:50", after := #[{ on := 4, ground := Ground.data }, { on := 8, ground := Ground.data }, { on := 4, ground := Ground.chain }], guard := none },
        { dst := some 12, op := Op.assign (Operand.tmp 148), type := 56, pos := "outright.go:50", after := #[{ on := 9, ground := Ground.data }, { on := 9, ground := Ground.chain }, { on := 0, ground := Ground.phase }, { on := 1, ground := Ground.phase }, { on := 2, ground := Ground.phase }, { on := 3, ground := Ground.phase }, { on := 4, ground := Ground.phase }, { on := 5, ground := Ground.phase }, { on := 6, ground := Ground.phase }, { on := 7, ground := Ground.phase }, { on := 8, ground := Ground.phase }, { on := 9, ground := Ground.phase }], guard := none }]
      true).wp Try.prog Q ⟨T, []⟩ w := by
  obtain ⟨a2, ha2⟩ : ∃ a2, (if c = y + 1 then some (⟨g, 0, none⟩ : Addr) else some ⟨g, (y + 1) * 4, none⟩) = a2 := ⟨_, rfl⟩
  have P1 : ∀ W, Below w.heap.size w W → RdI W (some ⟨g, 0, none⟩) y c (R.take y) := fun W hB => by
    have := rdi_part (own_below hrow hB) hl 0 y (Nat.zero_le _) (by omega) ⟨g, 0, none⟩ (fun _ => rfl) c
    simpa using this
  have P2 : ∀ W, Below w.heap.size w W → RdI W a2 (q - (y + 1)) (c - (y + 1)) (R.drop (y + 1)) := fun W hB => by
    have e : a2 = some (if c = y + 1 then ⟨g, 0, none⟩ else ⟨g, (y + 1) * 4, none⟩) := by rw [← ha2]; split <;> rfl
    rw [e]
    have := rdi_part (own_below hrow hB) hl (y + 1) q (by omega) (Nat.le_refl _) (if c = y + 1 then ⟨g, 0, none⟩ else ⟨g, (y + 1) * 4, none⟩) (fun h => if_neg (by omega)) (c - (y + 1))
    rwa [List.take_of_length_le (l := R.drop (y + 1)) (by rw [List.length_drop]; omega)] at this
  have eR : R.eraseIdx y = R.take y ++ R.drop (y + 1) := by rw [List.eraseIdx_eq_take_drop_succ]
  have hsum : (R.take y).length + (R.drop (y + 1)).length ≤ 500 := by rw [List.length_take, List.length_drop]; omega
  have hcm2 : c ≤ 9223372036854775807 := by unfold maxLen at hcm; omega
  have hyc : y ≤ c := by omega
  have hyq : (y : Int) + 1 ≤ q := by omega
  have hy0 : (0 : Int) ≤ (y : Int) + 1 := by omega
  have hwr : IntKind.i64.wrap ((y : Int) + 1) = y + 1 := by rw [IntKind.wrap_i64]; omega
  rw [eR] at hQ
  refine region_last 10 (fun f a W => ∃ tm, a = ⟨tm, []⟩ ∧ JA T w (.slice (some ⟨g, 0, none⟩) q c) (.slice (some ⟨g, 0, none⟩) y c) (.slice a2 (q - (y + 1)) (c - (y + 1))) y (R.take y) (R.drop (y + 1)) f tm W) (by kernel_rfl) rfl ?_ ?_ ?_ ?_ ?_
  · intro i o ho
    rcases i with _ | _ | _ | _ | _ | _ | _ | _ | _ | _ | _ | i
    all_goals simp at ho
    all_goals subst ho
    all_goals simp [Region.binds]
  · intro f hcl hp i hi
    have h1 := hp _ rfl
    simp [Region.binds] at h1
    rcases i with _ | _ | _ | _ | _ | _ | _ | _ | _ | _ | i
    all_goals try simp only [Nat.zero_add, Nat.reduceAdd] at hi ⊢
    all_goals first | omega | simp [h1]
  · exact ⟨T, rfl, rfl, fun _ _ => rfl, (fun k _ h => by cases h), bel_drew (Below.refl _ _), (fun h => by cases h), (fun h => by cases h), (fun h => by cases h)⟩
  · rintro f a W ⟨tm, rfl, hJ⟩ hcl i o ho hi hfi hpre
    have k12 : tm[12]? = some (.slice (some ⟨g, 0, none⟩) q c) := (hJ.old 12 (by omega)).trans h12
    have k18 : tm[18]? = some (.int .i64 y) := (hJ.old 18 (by omega)).trans h18
    have c4 := fun h => hcl 4 _ rfl h
    have c9 := fun h => hcl 9 _ rfl h
    simp [Region.binds] at c4 c9
    clear hcl
    rcases i with _ | _ | _ | _ | _ | _ | _ | _ | _ | _ | i
    rotate_right
    · exfalso; omega
    all_goals try simp only [Nat.zero_add, Nat.reduceAdd] at hfi ho ⊢
    all_goals simp at ho
    all_goals subst ho
    all_goals simp [Region.binds] at hpre
    all_goals clear hi
    · refine wpOp_of rfl rfl ?_
      go_simp
      refine ⟨by simpa using hJ.sz, fun p hp => ?_, hJ.vals (i := 0) hT (by decide) trivial, hJ.bel.alloc hJ.bel.size _, fun _ _ => ⟨_, ?_, World.ownsRow_lit W #[] 0 hJ.bel.size (by decide) rfl⟩, fun g1 => ?_, fun g1 => ?_⟩
      · rw [Array.getElem?_setIfInBounds, if_neg (by omega)]; exact hJ.old p hp
      · rw [Array.getElem?_setIfInBounds, if_pos rfl, if_pos (by rw [hJ.sz]; omega)]
      · exact absurd (c4 (by simpa [more] using g1)).1 (by rw [hfi]; decide)
      · exact absurd (c4 (c9 (by simpa [more] using g1)).1).1 (by rw [hfi]; decide)
    · refine wpOp_of rfl rfl ?_
      go_simp
      exact hJ.same (i := 1) hT (by decide) rfl (by decide) (by decide) (by decide)
    · refine wpOp_of rfl rfl ?_
      go_simp
      exact hJ.same (i := 2) hT (by decide) rfl (by decide) (by decide) (by decide)
    · obtain ⟨x1, e1, rfl⟩ := hJ.get (k := 1) (by decide) hpre.1
      obtain ⟨x2, e2, rfl⟩ := hJ.get (k := 2) (by decide) hpre.2
      refine wpOp_of rfl rfl ?_
      go_simp
      exact hJ.same (i := 3) hT (by decide) rfl (by decide) (by decide) (by decide)
    · obtain ⟨x3, e3, rfl⟩ := hJ.get (k := 3) (by decide) hpre.2
      obtain ⟨x0, e0, o0⟩ := hJ.r0 hpre.1 hfi
      obtain ⟨v', W', hrun, hown, hk⟩ := app_i (L := []) (M := R.take y) o0 (P1 W hJ.bel) (by simp only [List.length_nil]; omega) hJ.bel.size
      refine wpOp_of rfl rfl (Lib.wp_append_run W _ _ _ _ rfl x0 (.slice (some ⟨g, 0, none⟩) y c) (by simp [Act.eval, e0]) (by simp [Act.eval, e3]) _ _ hrun ?_)
      refine ⟨_, rfl, by simpa using hJ.sz, fun p hp => ?_, hJ.vals (i := 4) hT (by decide) trivial, hJ.bel.trans (hk.below hJ.bel.size fun g e => (o0.lt g e).1), fun _ g2 => ?_, fun _ _ => ⟨_, ?_, hown⟩, fun g1 => ?_⟩
      · rw [Array.getElem?_setIfInBounds, if_neg (by omega)]; exact hJ.old p hp
      · exact absurd g2 (by simp [more])
      · rw [Array.getElem?_setIfInBounds, if_pos rfl, if_pos (by rw [hJ.sz]; omega)]
      · exact absurd (c9 (by simpa [more] using g1)).1 (by rw [hfi]; decide)
    · refine wpOp_of rfl rfl ?_
      go_simp
      exact hJ.same (i := 5) hT (by decide) rfl (by decide) (by decide) (by decide)
    · refine wpOp_of rfl rfl ?_
      go_simp
      exact hJ.same (i := 6) hT (by decide) rfl (by decide) (by decide) (by decide)
    · obtain ⟨x6, e6, rfl⟩ := hJ.get (k := 6) (by decide) hpre
      refine wpOp_of rfl rfl ?_
      go_simp
      exact hJ.same (i := 7) hT (by decide) rfl (by decide) (by decide) (by decide)
    · obtain ⟨x5, e5, rfl⟩ := hJ.get (k := 5) (by decide) hpre.1
      obtain ⟨x7, e7, rfl⟩ := hJ.get (k := 7) (by decide) hpre.2
      refine wpOp_of rfl rfl ?_
      go_simp
      exact hJ.same (i := 8) hT (by decide) rfl (by decide) (by decide) (by decide)
    · obtain ⟨x8, e8, rfl⟩ := hJ.get (k := 8) (by decide) hpre.2.1
      obtain ⟨x4, e4, o4⟩ := hJ.r4 hpre.1 hfi
      obtain ⟨v', W', hrun, hown, hk⟩ := app_i (L := R.take y) (M := R.drop (y + 1)) o4 (P2 W hJ.bel) (by omega) hJ.bel.size
      refine wpOp_of rfl rfl (Lib.wp_append_run W _ _ _ _ rfl x4 (.slice a2 (q - (y + 1)) (c - (y + 1))) (by simp [Act.eval, e4]) (by simp [Act.eval, e8]) _ _ hrun ?_)
      refine ⟨_, rfl, by simpa using hJ.sz, fun p hp => ?_, hJ.vals (i := 9) hT (by decide) trivial, hJ.bel.trans (hk.below hJ.bel.size fun g e => (o4.lt g e).1), fun g1 g2 => ?_, fun _ g2 => ?_, fun _ => ⟨_, ?_, hown⟩⟩
      · rw [Array.getElem?_setIfInBounds, if_neg (by omega)]; exact hJ.old p hp
      · exact absurd (show f 4 = false from g2) (by rw [hpre.1]; decide)
      · exact absurd g2 (by simp [more])
      · rw [Array.getElem?_setIfInBounds, if_pos rfl, if_pos (by rw [hJ.sz]; omega)]
  · rintro f a W ⟨tm, rfl, hJ⟩ hal
    obtain ⟨x, e9, o9⟩ := hJ.r9 (hal 9 (by decide))
    refine wpOp_of rfl rfl ?_
    go_simp
    have hq := fun k hk => hJ.val k hk (hal k hk)
    obtain ⟨u0, g0, _⟩ := hq 0 (by decide)
    obtain ⟨u1, g1, _⟩ := hq 1 (by decide)
    obtain ⟨u2, g2, _⟩ := hq 2 (by decide)
    obtain ⟨u3, g3, _⟩ := hq 3 (by decide)
    obtain ⟨u4, g4, _⟩ := hq 4 (by decide)
    obtain ⟨u5, g5, _⟩ := hq 5 (by decide)
    obtain ⟨u6, g6, _⟩ := hq 6 (by decide)
    obtain ⟨u7, g7, _⟩ := hq 7 (by decide)
    obtain ⟨u8, g8, _⟩ := hq 8 (by decide)
    obtain ⟨u9, g9, _⟩ := hq 9 (by decide)
    have et : tm = (((((((((T.setIfInBounds 139 u0).setIfInBounds 140 u1).setIfInBounds 141 u2).setIfInBounds 142 u3).setIfInBounds 143 u4).setIfInBounds 144 u5).setIfInBounds 145 u6).setIfInBounds 146 u7).setIfInBounds 147 u8).setIfInBounds 148 u9 := by
      refine Array.ext_getElem? fun p => ?_
      by_cases hp : p < 139 ∨ 148 < p
      · rw [hJ.old p hp]
        simp only [Array.getElem?_setIfInBounds]
        repeat rw [if_neg (by omega)]
      · obtain ⟨k, hk, rfl⟩ : ∃ k, k < 10 ∧ p = 139 + k := ⟨p - 139, by omega, by omega⟩
        simp only [Array.getElem?_setIfInBounds, Array.size_setIfInBounds]
        rcases k with _ | _ | _ | _ | _ | _ | _ | _ | _ | _ | k
        rotate_right
        · omega
        all_goals simp only [Nat.zero_add, Nat.reduceAdd] at g0 g1 g2 g3 g4 g5 g6 g7 g8 g9 ⊢
        all_goals simp [g0, g1, g2, g3, g4, g5, g6, g7, g8, g9]
        all_goals omega
    rw [et]
    exact hQ _ _ _ _ _ _ _ _ _ _ _ _ hJ.bel o9
/-! ### refused calls leave everything; sums -/
theorem unpin_no (b s k : Nat) (P : Po) (x y z E : Int) (w : World) (h : PW w b s k P) (hc : P.chk x y z = E) (hE : E ≠ 0) : Calls Try.prog 16 #[.pointer (some ⟨b, 0, none⟩), .agg #[.int .i64 x, .int .i64 y, .int .u32 z]] w fun e w' => e = .returned (.int .i64 E) ∧ Below w.heap.size w w' := by
  subst hc
  exact punpin_core _ x y z _ w (by simpa using hE) fun W hW => pheld_no b s k P x y z W (h.below hW) hE
theorem bytes_no (b s k : Nat) (P : Po) (x y z E : Int) (w : World) (h : PW w b s k P) (hc : P.chk x y z = E) (hE : E ≠ 0) : Calls Try.prog 20 #[.pointer (some ⟨b, 0, none⟩), .agg #[.int .i64 x, .int .i64 y, .int .u32 z]] w (BytesV 0 E w) := by
  subst hc
  exact pbytes_core _ x y z _ w (by simpa using hE) fun W hW => pheld_no b s k P x y z W (h.below hW) hE
def sumI (R : List It) (t : Nat) : Nat := ((R.take t).map (·.x)).sum
theorem sumI_step {R : List It} {t : Nat} (h : t < R.length) : sumI R (t + 1) = sumI R t + R[t].x := by
  unfold sumI
  rw [List.take_add_one, List.getElem?_eq_getElem h, List.map_append, List.sum_append]
  rfl
theorem sumI_le {R : List It} (h : ∀ r ∈ R, r.x ≤ 65536) : ∀ t, t ≤ R.length → sumI R t ≤ t * 65536
  | 0, _ => by simp [sumI]
  | t + 1, ht => by
    have h1 := sumI_le h t (by omega)
    have h2 := h R[t] (List.getElem_mem (by omega))
    rw [sumI_step (by omega)]
    omega
theorem sumI_all {R : List It} {q : Nat} (h : R.length = q) : sumI R q = (R.map (·.x)).sum := by
  unfold sumI; rw [List.take_of_length_le (by omega)]
/-- The list of names, in order of their ids. -/
theorem all_sorted {P : Po} {j : Nat} {o o' : Ro} (h : P.all[j]? = some o) (h' : P.all[j + 1]? = some o') : o.i < o'.i := by
  simp only [Po.all, Tb.now, Tb.refs, List.getElem?_map, Option.map_eq_some_iff] at h h'
  obtain ⟨r, ⟨i, h1, rfl⟩, rfl⟩ := h
  obtain ⟨r', ⟨i', h1', rfl⟩, rfl⟩ := h'
  have hp := sel_sorted P.t.s 1 P.t.n
  have e1 := (List.getElem?_eq_some_iff.1 h1)
  have e2 := (List.getElem?_eq_some_iff.1 h1')
  obtain ⟨l1, e1⟩ := e1
  obtain ⟨l2, e2⟩ := e2
  have := List.pairwise_iff_getElem.1 hp j (j + 1) l1 l2 (Nat.lt_succ_self j)
  show (i : Int) < i'
  have h3 : i < i' := by rw [← e1, ← e2]; exact this
  omega
/-- The world between the rounds. -/
def Nx (w wr : World) (b s k n f : Nat) (p : Option Addr) (q c : Nat) (p' : Option Addr) (q' c' mB e : Nat) : Prop :=
  ∃ P R G N, Nb w wr b s k P p q c R p' q' c' G mB e N ∧ Nw P n f R G N
end Go.Proofs.Ytjhgckaaaonbiaa
