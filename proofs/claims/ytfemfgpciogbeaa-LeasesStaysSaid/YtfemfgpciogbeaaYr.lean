/- A region whose order is drawn, by what holds when some of its operations have come up. -/
import Derived.Test.YtfemfgpciogbeaaYp
import Derived.Orders
import Derived.Lib.AppendZeros
import Derived.Lib.SliceRun
namespace Go.Proofs.Ytfemfgpciogbeaa
open Go.RowKit

theorem wpOp_of {P : Program} {ops : Array Oper} {Q : Exit → Act → World → Prop} {i : Nat} {o : Oper} {K : Act → World → Prop} {a : Act} {w : World} (ho : ops[i]? = some o) (hg : o.guard = none) (h : o.wp P a w K Q) : wpOp P ops Q i K a w := by
  unfold wpOp
  rw [ho]
  have hw : Region.wanted o (yielded ops a.tmps) = true := by simp [Region.wanted, hg]
  simp only [hw, if_true]
  exact .inl h

/-- J f a w: the operations that f names have come up, and no others. -/
theorem region_by {P : Program} {ops : Array Oper} {Q : Exit → Act → World → Prop} {id : Nat} {a : Act} {w : World}
    (J : (Nat → Bool) → Act → World → Prop) (hm : P.follows .mixedOrders = true)
    (hord : ∀ i o, ops[i]? = some o → ∀ e ∈ o.after, Region.binds .any e = true → e.on < i)
    (h0 : J (fun _ => false) a w.drew)
    (hs : ∀ (f : Nat → Bool) (a : Act) (w : World), J f a w → ∀ i o, ops[i]? = some o → f i = false → (∀ e ∈ o.after, Region.binds .any e = true → f e.on = true) → wpOp P ops Q i (J (fun j => if j = i then true else f j)) a w)
    (he : ∀ f a w, J f a w → (∀ i, i < ops.size → f i = true) → Q .normal a w) : (Code.region id ops true).wp P Q a w := by
  have all : ∀ (listed : Array Bool), listed.size = ops.size → Region.ready .any ops listed = [] → ∀ i, i < ops.size → listed.getD i false = true := by
    intro listed hsz hr i
    induction i using Nat.strongRecOn with
    | ind i ih =>
      intro hi
      cases hc : listed.getD i false with
      | true => rfl
      | false =>
        exfalso
        have : i ∈ Region.ready .any ops listed := by
          refine mem_ready.2 ⟨?_, ops[i], Array.getElem?_eq_getElem hi, fun e hee hb => ?_⟩
          · simp only [Array.getD_eq_getD_getElem?] at hc ⊢
            rw [Array.getElem?_eq_getElem (by omega)] at hc ⊢
            exact hc
          · have hlt := hord i ops[i] (Array.getElem?_eq_getElem hi) e hee hb
            exact ih e.on hlt (by omega)
        rw [hr] at this
        cases this
  have key : ∀ (fuel : Nat) (listed : Array Bool) (f : Nat → Bool) (a : Act) (w : World), listed.size = ops.size → (∀ j, listed.getD j false = f j) → listed.toList.countP (fun b => !b) ≤ fuel → J f a w → wpAny P .any ops Q fuel listed a w := by
    intro fuel
    induction fuel with
    | zero =>
      intro listed f a w hsz hf hc hJ
      have h1 : ∀ i, i < ops.size → f i = true := fun i hi => by
        have h2 := List.countP_eq_zero.1 (Nat.le_zero.1 hc) (listed[i]'(by omega)) (by simp)
        rw [← hf, Array.getD_eq_getD_getElem?, Array.getElem?_eq_getElem (by omega)]
        simpa using h2
      refine ⟨?_, he f a w hJ h1⟩
      apply List.eq_nil_iff_forall_not_mem.2
      intro j hj
      obtain ⟨g1, o, ho, _⟩ := mem_ready.1 hj
      have hjlt : j < ops.size := (Array.getElem?_eq_some_iff.1 ho).1
      have := h1 j hjlt
      rw [← hf] at this
      rw [Array.getD_eq_getD_getElem?, Array.getElem?_eq_getElem (by omega)] at g1 this
      simp at g1 this
      rw [g1] at this; cases this
    | succ fuel ih =>
      intro listed f a w hsz hf hc hJ
      refine ⟨fun hr => he f a w hJ fun i hi => by rw [← hf]; exact all listed hsz hr i hi, fun i hi => ?_⟩
      obtain ⟨g1, o, ho, g2⟩ := mem_ready.1 hi
      have hilt : i < ops.size := (Array.getElem?_eq_some_iff.1 ho).1
      have g3 : f i = false := by
        rw [← hf]
        rw [Array.getD_eq_getD_getElem?, Array.getElem?_eq_getElem (by omega)] at g1 ⊢
        exact g1
      refine wpOp_mono (fun a' w' h => ?_) (hs f a w hJ i o ho g3 fun e hee hb => by rw [← hf]; exact g2 e hee hb)
      refine ih _ _ a' w' (by simp [hsz]) (fun j => ?_) ?_ h
      · simp only [Array.getD_eq_getD_getElem?, Array.getElem?_setIfInBounds]
        by_cases hj : j = i
        · subst hj; simp [hsz, hilt]
        · rw [if_neg (fun e => hj e.symm), if_neg hj, ← hf, Array.getD_eq_getD_getElem?]
      · have hb : listed.toList[i]'(by simp [hsz, hilt]) = false := by
          rw [Array.getD_eq_getD_getElem?, Array.getElem?_eq_getElem (by omega)] at g1
          simpa using g1
        rw [Array.toList_setIfInBounds, List.countP_set (h := by simp [hsz, hilt]), hb]
        simp only [Bool.not_false, Bool.not_true, if_true, Bool.false_eq_true, if_false]
        omega
  refine wp_region_any hm ?_
  refine key ops.size (Array.replicate ops.size false) (fun _ => false) a w.drew (by simp) (fun j => ?_) ?_ h0
  · rw [Array.getD_eq_getD_getElem?, Array.getElem?_replicate]
    split <;> rfl
  · refine Nat.le_trans List.countP_le_length ?_
    simp

/-- What has come up has come up behind all that must come before it. -/
def Closed (ops : Array Oper) (f : Nat → Bool) : Prop := ∀ i o, ops[i]? = some o → f i = true → ∀ e ∈ o.after, Region.binds .any e = true → f e.on = true
/-- One more. -/
def more (f : Nat → Bool) (i : Nat) : Nat → Bool := fun j => if j = i then true else f j
/-- A region whose last operation comes behind all others: J holds up to it. -/
theorem region_last {P : Program} {ops : Array Oper} {Q : Exit → Act → World → Prop} {id : Nat} {a : Act} {w : World} (m : Nat)
    (J : (Nat → Bool) → Act → World → Prop) (hm : P.follows .mixedOrders = true) (hsz : ops.size = m + 1)
    (hord : ∀ i o, ops[i]? = some o → ∀ e ∈ o.after, Region.binds .any e = true → e.on < i)
    (hall : ∀ f, Closed ops f → (∀ o, ops[m]? = some o → ∀ e ∈ o.after, Region.binds .any e = true → f e.on = true) → ∀ i, i < m → f i = true)
    (h0 : J (fun _ => false) a w.drew)
    (hs : ∀ (f : Nat → Bool) (a : Act) (w : World), J f a w → Closed ops f → ∀ i o, ops[i]? = some o → i < m → f i = false → (∀ e ∈ o.after, Region.binds .any e = true → f e.on = true) → wpOp P ops Q i (J (more f i)) a w)
    (hl : ∀ (f : Nat → Bool) (a : Act) (w : World), J f a w → (∀ i, i < m → f i = true) → wpOp P ops Q m (Q .normal) a w) : (Code.region id ops true).wp P Q a w := by
  refine region_by (fun f a w => Closed ops f ∧ ((f m = false ∧ J f a w) ∨ (f m = true ∧ (∀ i, i < m → f i = true) ∧ Q .normal a w))) hm hord ⟨(fun i o _ h => by cases h), .inl ⟨rfl, h0⟩⟩ ?_ ?_
  · rintro f a w ⟨hc, h⟩ i o ho hfi hpre
    have hc2 : Closed ops (more f i) := fun j o' ho' hj e hee hb => by
      unfold more at hj ⊢
      by_cases he : e.on = i
      · rw [if_pos he]
      · rw [if_neg he]
        by_cases hji : j = i
        · subst hji
          rw [ho] at ho'
          obtain rfl := Option.some.inj ho'
          exact hpre e hee hb
        · rw [if_neg hji] at hj
          exact hc j o' ho' hj e hee hb
    have hilt : i < m + 1 := by rw [← hsz]; exact (Array.getElem?_eq_some_iff.1 ho).1
    rcases h with ⟨hfm, hJ⟩ | ⟨hfm, hal, _⟩
    · by_cases him : i = m
      · subst him
        have hal := hall f hc fun o' ho' => by
          rw [ho] at ho'
          obtain rfl := Option.some.inj ho'
          exact hpre
        refine wpOp_mono (fun a' w' h => ⟨hc2, .inr ⟨if_pos rfl, fun j hj => ?_, h⟩⟩) (hl f a w hJ hal)
        show (if j = i then true else f j) = true
        rw [if_neg (by omega)]
        exact hal j hj
      · refine wpOp_mono (fun a' w' h => ⟨hc2, .inl ⟨?_, h⟩⟩) (hs f a w hJ hc i o ho (by omega) hfi hpre)
        show (if m = i then true else f m) = false
        rw [if_neg (fun e => him e.symm)]
        exact hfm
    · exfalso
      by_cases him : i = m
      · subst him; rw [hfm] at hfi; cases hfi
      · rw [hal i (by omega)] at hfi; cases hfi
  · rintro f a w ⟨_, ⟨hfm, _⟩ | ⟨_, _, h⟩⟩ hal
    · rw [hal m (by omega)] at hfm; cases hfm
    · exact h

end Go.Proofs.Ytfemfgpciogbeaa
