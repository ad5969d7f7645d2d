/- Pools: the lowest free id; what Pin does where it succeeds. -/
import Derived.Test.YtjhgckaaaonbiaaUm
namespace Go.Proofs.Ytjhgckaaaonbiaa

/-! ### the lowest free id -/
theorem free_head {T : Tb} {i : Nat} (h : ∀ j, j < i → T.s j ≠ 0) (h0 : T.s i = 0) (hi : i < T.n) : ∃ r, T.free = i :: r := by
  have key : ∀ d j, j + d = i → selFrom T.s 0 j T.n = selFrom T.s 0 i T.n := by
    intro d
    induction d with
    | zero => intro j e; rw [Nat.add_zero] at e; rw [e]
    | succ d ih => intro j e; rw [selFrom_step T.s 0 (show j < T.n by omega), if_neg (h j (by omega)), List.nil_append]; exact ih (j + 1) (by omega)
  refine ⟨selFrom T.s 0 (i + 1) T.n, ?_⟩
  unfold Tb.free
  rw [← selFrom_zero, key i 0 (by omega), selFrom_step T.s 0 hi, if_pos h0]; rfl
theorem free_none {T : Tb} (h : ∀ j, j < T.n → T.s j ≠ 0) : T.free = [] := by
  unfold Tb.free
  rw [List.eq_nil_iff_forall_not_mem]
  intro i hi
  exact h i (mem_sel.1 hi).1 (mem_sel.1 hi).2
theorem held_none {T : Tb} (h : ∀ j, j < T.n → T.s j ≠ 1) : T.held = [] := by
  unfold Tb.held
  rw [List.eq_nil_iff_forall_not_mem]
  intro i hi
  exact h i (mem_sel.1 hi).1 (mem_sel.1 hi).2
/-- Pin succeeds where an id is free and there is room. -/
theorem Po.can_ok {P : Po} {x i : Nat} {r : List Nat} (h1 : 1 ≤ x) (h2 : x ≤ 65536) (h3 : P.used + x ≤ P.room) (h4 : P.t.free = i :: r) : P.can (x : Int) = 0 := by
  unfold Po.can
  rw [if_neg (by omega), if_neg (by omega), h4]
theorem Po.can_none {P : Po} {x : Nat} (h1 : 1 ≤ x) (h2 : x ≤ 65536) (h4 : P.t.free = []) : P.can (x : Int) = 4 := by
  unfold Po.can
  rw [if_neg (by omega), h4]
  split <;> rfl
theorem Po.used_none {P : Po} (h : P.t.held = []) : P.used = 0 := by unfold Po.used; rw [h]; rfl
theorem Po.chk_put {P : Po} {i : Nat} (hi : i < P.t.n) (x : Nat) : (P.put i x).chk 2 i (P.t.g i) = 0 := by
  have h1 : (P.put i x).t.s i = 1 := by simp [Po.put, Tb.took, Go.Proofs.Ytjhgckaaaonbiaa.put]
  exact Po.chk_held (P := P.put i x) hi h1
theorem Po.unpin_of {P : Po} {i : Nat} {g : Int} (h : P.chk 2 i g = 0) : P.unpin 2 i g = P.gave i := by
  unfold Po.unpin; rw [if_pos h, Int.toNat_natCast]
end Go.Proofs.Ytjhgckaaaonbiaa
