/- The lowest free slot; slots that are taken as often as there are generations. -/
import Derived.Test.YtfnhkapbfgofkaaWm
namespace Go.Proofs.Ytfnhkapbfgofkaa

/-! ### the lowest free slot -/
theorem free_head {T : Tb} {i : Nat} (h : ∀ j, j < i → T.s j ≠ 0) (h0 : T.s i = 0) (hi : i < T.n) : ∃ r, T.free = i :: r := by
  have key : ∀ d j, j + d = i → selFrom T.s 0 j T.n = selFrom T.s 0 i T.n := by
    intro d
    induction d with
    | zero => intro j e; rw [Nat.add_zero] at e; rw [e]
    | succ d ih => intro j e; rw [selFrom_step T.s 0 (show j < T.n by omega), if_neg (h j (by omega)), List.nil_append]; exact ih (j + 1) (by omega)
  refine ⟨selFrom T.s 0 (i + 1) T.n, ?_⟩
  unfold Tb.free
  rw [← selFrom_zero, key i 0 (by omega), selFrom_step T.s 0 hi, if_pos h0]; rfl
theorem free_none {T : Tb} (h : ∀ j, j < T.n → T.s j ≠ 0) : T.free = [] := by
  unfold Tb.free
  rw [List.eq_nil_iff_forall_not_mem]
  intro i hi
  exact h i (mem_sel.1 hi).1 (mem_sel.1 hi).2
theorem held_none {T : Tb} (h : ∀ j, j < T.n → T.s j ≠ 1) : T.held = [] := by
  unfold Tb.held
  rw [List.eq_nil_iff_forall_not_mem]
  intro i hi
  exact h i (mem_sel.1 hi).1 (mem_sel.1 hi).2
theorem sel_from_len {f : Nat → Nat} {v i : Nat} : ∀ n, i ≤ n → (∀ j, j < n → (f j = v ↔ i ≤ j)) → (sel f v n).length = n - i
  | 0, hi, _ => by simp [sel_zero]
  | n + 1, hi, h => by
    rw [sel_snoc, List.length_append]
    by_cases e : i = n + 1
    · have h1 : sel f v n = [] := by
        rw [List.eq_nil_iff_forall_not_mem]
        intro j hj
        have := mem_sel.1 hj
        have := (h j (by omega)).1 this.2
        omega
      have h2 : ¬ f n = v := fun e2 => by have := (h n (by omega)).1 e2; omega
      rw [h1, if_neg h2, e]; simp
    · rw [sel_from_len n (by omega) fun j hj => h j (by omega), if_pos ((h n (by omega)).2 (by omega))]
      simp only [List.length_cons, List.length_nil]; omega

/-! ### slots taken as often as there are generations -/
/-- The slots below i are retired; slot i has its k-th generation of G + 1; the others are as at first. -/
def ET (G n i k : Nat) : Tb := ⟨n, fun j => if j < i then 2 else 0, fun j => if j < n then (if j < i then 4294967295 else if j = i then 4294967295 - G + k else 4294967295 - G) else 0⟩
theorem ET.zero (G n : Nat) : fresh n (4294967295 - G) = ET G n 0 0 := by
  unfold fresh ET
  congr 1
  funext j
  by_cases h : j < n
  · rw [if_pos h, if_pos h, if_neg (Nat.not_lt_zero j)]
    split <;> rfl
  · rw [if_neg h, if_neg h]
theorem ET.free {G n i k : Nat} (hi : i < n) : ∃ r, (ET G n i k).free = i :: r :=
  free_head (fun j hj => by show (if j < i then 2 else 0) ≠ 0; rw [if_pos hj]; decide) (by show (if i < i then 2 else 0) = 0; rw [if_neg (by omega)]) hi
theorem ET.gen {G n i k : Nat} (hi : i < n) : (ET G n i k).g i = 4294967295 - G + k := by
  show (if i < n then (if i < i then 4294967295 else if i = i then 4294967295 - G + k else 4294967295 - G) else 0) = _
  rw [if_pos hi, if_neg (by omega), if_pos rfl]
theorem ET.left {G n i k : Nat} (hi : i < n) : ((ET G n i k).took i).free.length = n - i - 1 := by
  have := sel_from_len (f := ((ET G n i k).took i).s) (v := 0) (i := i + 1) n (by omega) fun j hj => by
    show put (fun j => if j < i then 2 else 0) i 1 j = 0 ↔ i + 1 ≤ j
    unfold put
    by_cases e : j = i
    · rw [if_pos e]; constructor <;> intro h <;> omega
    · rw [if_neg e]
      simp only []
      by_cases h : j < i
      · rw [if_pos h]; constructor <;> intro h <;> omega
      · rw [if_neg h]; constructor <;> intro _ <;> omega
  exact this.trans (by omega)
theorem ET.give {G n i k : Nat} (hi : i < n) (hk : k < G) (hG : G ≤ 3) : ((ET G n i k).took i).gave i = ET G n i (k + 1) := by
  have hg : ((ET G n i k).took i).g i = 4294967295 - G + k := ET.gen hi
  unfold Tb.gave
  rw [if_neg (by rw [hg]; omega), hg]
  unfold ET Tb.took
  simp only []
  congr 1
  · funext j
    unfold put
    by_cases e : j = i
    · subst e; rw [if_pos rfl, if_neg (by omega)]
    · rw [if_neg e, if_neg e]
  · funext j
    unfold put
    by_cases e : j = i
    · subst e; rw [if_pos rfl, if_pos hi, if_neg (by omega), if_pos rfl]; omega
    · rw [if_neg e]
      simp only []
      by_cases h : j < n
      · rw [if_pos h, if_pos h, if_neg e, if_neg e]
      · rw [if_neg h, if_neg h]
theorem ET.last {G n i : Nat} (hi : i < n) (hG : G ≤ 3) : ((ET G n i G).took i).gave i = ET G n (i + 1) 0 := by
  have hg : ((ET G n i G).took i).g i = 4294967295 := (ET.gen hi).trans (by omega)
  unfold Tb.gave
  rw [if_pos hg]
  unfold ET Tb.took
  simp only []
  congr 1
  · funext j
    unfold put
    by_cases e : j = i
    · subst e; rw [if_pos rfl, if_pos (by omega)]
    · rw [if_neg e, if_neg e]
      simp only []
      by_cases h : j < i
      · rw [if_pos h, if_pos (by omega)]
      · rw [if_neg h, if_neg (by omega)]
  · funext j
    by_cases h : j < n
    · rw [if_pos h, if_pos h]
      by_cases h1 : j < i
      · rw [if_pos h1, if_pos (by omega)]
      · rw [if_neg h1]
        by_cases e : j = i
        · subst e; rw [if_pos rfl, if_pos (by omega)]; omega
        · rw [if_neg e, if_neg (by omega)]
          by_cases e2 : j = i + 1
          · rw [if_pos e2]; omega
          · rw [if_neg e2]
    · rw [if_neg h, if_neg h]
theorem ET.done {G n : Nat} : (ET G n n 0).free = [] ∧ (ET G n n 0).held = [] := by
  refine ⟨free_none fun j hj => ?_, held_none fun j hj => ?_⟩
  · have hj : j < n := hj
    show (if j < n then 2 else 0) ≠ 0
    rw [if_pos hj]; decide
  · have hj : j < n := hj
    show (if j < n then 2 else 0) ≠ 1
    rw [if_pos hj]; decide
/-- Where the inner loop stands. -/
def EAt (G n i k : Nat) : Tb := if k ≤ G then ET G n i k else ET G n (i + 1) 0
theorem EAt.go {G n i k : Nat} (hk : k ≤ G) : EAt G n i k = ET G n i k := if_pos hk
theorem EAt.stop {G n i : Nat} : EAt G n i (G + 1) = ET G n (i + 1) 0 := if_neg (by omega)
theorem EAt.step {G n i k : Nat} (hi : i < n) (hk : k ≤ G) (hG : G ≤ 3) : ((ET G n i k).took i).gave i = EAt G n i (k + 1) := by
  by_cases e : k = G
  · subst e; rw [EAt.stop]; exact ET.last hi hG
  · rw [EAt.go (by omega)]; exact ET.give hi (by omega) hG
end Go.Proofs.Ytfnhkapbfgofkaa
