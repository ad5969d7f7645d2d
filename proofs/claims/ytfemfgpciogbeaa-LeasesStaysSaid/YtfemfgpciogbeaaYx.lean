/- Desks: the lowest free id; the greatest desk, filled id by id, in the last generation. -/
import Derived.Test.YtfemfgpciogbeaaYm
namespace Go.Proofs.Ytfemfgpciogbeaa

/-! ### the lowest free id -/
theorem free_head {T : Tb} {i : Nat} (h : ∀ j, j < i → T.s j ≠ 0) (h0 : T.s i = 0) (hi : i < T.n) : ∃ r, T.free = i :: r := by
  have key : ∀ d j, j + d = i → selFrom T.s 0 j T.n = selFrom T.s 0 i T.n := by
    intro d
    induction d with
    | zero => intro j e; rw [Nat.add_zero] at e; rw [e]
    | succ d ih => intro j e; rw [selFrom_step T.s 0 (show j < T.n by omega), if_neg (h j (by omega)), List.nil_append]; exact ih (j + 1) (by omega)
  refine ⟨selFrom T.s 0 (i + 1) T.n, ?_⟩
  unfold Tb.free
  rw [← selFrom_zero, key i 0 (by omega), selFrom_step T.s 0 hi, if_pos h0]; rfl
theorem free_none {T : Tb} (h : ∀ j, j < T.n → T.s j ≠ 0) : T.free = [] := by
  unfold Tb.free
  rw [List.eq_nil_iff_forall_not_mem]
  intro i hi
  exact h i (mem_sel.1 hi).1 (mem_sel.1 hi).2

/-! ### the greatest desk -/
/-- The ids below i are granted until the last time. -/
def EN (i : Nat) : Dk := ⟨⟨64, fun j => if j < i then 1 else 0, fun j => if j < 64 then 4294967295 else 0⟩, fun j => if j < i then 1099511627776 else 0⟩
theorem EN.zero : dfresh 64 4294967295 = EN 0 := by
  unfold dfresh fresh EN
  simp only [Nat.not_lt_zero, if_false]
theorem EN.free {i : Nat} (h : i < 64) : ∃ r, (EN i).t.free = i :: r :=
  free_head (fun j hj => by show (if j < i then 1 else 0) ≠ 0; rw [if_pos hj]; omega) (by show (if i < i then 1 else 0) = 0; rw [if_neg (by omega)]) h
theorem EN.step {i : Nat} : (EN i).took i 1099511627776 = EN (i + 1) := by
  unfold EN Dk.took Tb.took
  simp only []
  congr 1
  · congr 1
    funext j
    simp only [put]
    by_cases e : j = i
    · rw [if_pos e, if_pos (by omega)]
    · rw [if_neg e]
      by_cases c : j < i
      · rw [if_pos c, if_pos (by omega)]
      · rw [if_neg c, if_neg (by omega)]
  · funext j
    simp only [put]
    by_cases e : j = i
    · rw [if_pos e, if_pos (by omega)]
    · rw [if_neg e]
      by_cases c : j < i
      · rw [if_pos c, if_pos (by omega)]
      · rw [if_neg c, if_neg (by omega)]
theorem EN.grant {i : Nat} (h : i < 64) : (EN i).gE 1048576 1099510579200 = 0 ∧ (EN i).gK 1048576 1099510579200 = 3 ∧ (EN i).gI 1048576 1099510579200 = i ∧ (EN i).gG 1048576 1099510579200 = 4294967295 ∧ (EN i).grant 1048576 1099510579200 = EN (i + 1) := by
  obtain ⟨r, hf⟩ := EN.free h
  have h0 := Dk.gE_ok (D := EN i) (x := 1048576) (now := 1099510579200) ⟨by decide, by decide⟩ ⟨by decide, by decide⟩ (by decide) hf
  obtain ⟨e1, e2, e3, e4⟩ := Dk.grant_zero h0 hf
  have hg : (EN i).t.g i = 4294967295 := if_pos h
  refine ⟨h0, e2, e3, by rw [e4, hg], ?_⟩
  rw [e1]
  exact EN.step
theorem EN.full : (EN 64).t.free = [] := free_none fun j hj => by
  have hj2 : j < 64 := hj
  show (if j < 64 then 1 else 0) ≠ 0
  rw [if_pos hj2]; decide
/-- Behind the return of the id 7. -/
def EG : Dk := (EN 64).give 7
theorem EN.f1 : (EN 64).gE 1 0 = 4 := Dk.gE_full ⟨by decide, by decide⟩ ⟨by decide, by decide⟩ (by decide) EN.full
theorem EN.f2 : (EN 64).gE 1 1099511627776 = 17 := Dk.gE_over ⟨by decide, by decide⟩ ⟨by decide, by decide⟩ (by decide)
theorem EN.f3 : (EN 64).chk 3 63 4294967295 = 0 := rfl
theorem EN.f4 : (EN 64).chk 3 7 4294967295 = 0 := rfl
theorem EN.f5 : (EN 64).ret 3 7 4294967295 = EG := rfl
theorem EN.f6 : ((EN 64).til 3 63 4294967295 : Int) = 1099511627776 := rfl
theorem EG.full : EG.t.free = [] := free_none fun j hj => by
  have e : EG.t.s = put (EN 64).t.s 7 2 := rfl
  have hj2 : j < 64 := hj
  rw [e]
  by_cases c : j = 7
  · rw [c, put_same]; decide
  · rw [put_other c]; show (if j < 64 then 1 else 0) ≠ 0; rw [if_pos hj2]; decide
theorem EG.f1 : EG.gE 1 0 = 4 := Dk.gE_full ⟨by decide, by decide⟩ ⟨by decide, by decide⟩ (by decide) EG.full
theorem EG.f2 : EG.t.held.length = 63 := rfl
theorem EG.f3 : EG.rE 3 8 4294967295 1048576 1099511627775 = 17 := rfl
theorem EG.f4 : EG.rE 3 8 4294967295 1 1099511627775 = 0 := rfl
end Go.Proofs.Ytfemfgpciogbeaa
