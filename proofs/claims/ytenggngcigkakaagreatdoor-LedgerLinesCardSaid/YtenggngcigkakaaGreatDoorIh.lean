/- Mathematics of the laws on ledgers by numbers: the twelve resources; an attempt with another time; wrong attempts; the same attempt many times. -/
import Derived.Test.YtenggngcigkakaaGreatDoorIf
namespace Go.Proofs.YtenggngcigkakaaGreatDoor
open Go.RowKit

/-! ### another time -/
def setT (a : Att) (t : Int) : Att := ⟨t, a.k, a.i, a.g, a.y, a.n⟩
theorem setT_ok {a : Att} (h : a.Ok) {t : Int} (h0 : 0 ≤ t) (h1 : t ≤ 1099511627776) : (setT a t).Ok :=
  ⟨h0, h1, h.k0, h.k1, h.i0, h.i1, h.g0, h.g1, h.y0, h.y1, h.n0, h.n1⟩
theorem setT_no {a : Att} {t : Int} (h : t < 0 ∨ 1099511627776 < t) : ¬ (setT a t).Ok := fun k => by
  have h0 : 0 ≤ t := k.t0
  have h1 : t ≤ 1099511627776 := k.t1
  omega
theorem setT_rg {a : Att} (h : a.Ok) {t : Int} (h0 : -9223372036854775808 ≤ t) (h1 : t ≤ 9223372036854775807) : (setT a t).Rg := by
  have k := h.rg
  exact ⟨h0, h1, k.k0, k.k1, k.i0, k.i1, k.g0, k.g1, k.y0, k.y1, k.n0, k.n1⟩
/-- What Add says of an attempt at time t behind a list that is not empty. -/
theorem addE_time {L : List Att} (hL : L.length < 10000) {a : Att} (ha : a.Ok) : addE L a = if ∃ z, L.getLast? = some z ∧ a.t < z.t then 8 else 0 := by
  by_cases h : ∃ z, L.getLast? = some z ∧ a.t < z.t
  · rw [addE_state ha h, if_pos h]
  · rw [addE_ok ha h hL, if_neg h]
theorem last_at {L : List Att} {j : Nat} (hj : L.length = j + 1) : L.getLast? = some (L[j]'(by omega)) := by
  rw [List.getLast?_eq_getElem?, show L.length - 1 = j by omega, List.getElem?_eq_getElem (by omega)]
theorem addE_late {L : List Att} {j : Nat} (hj : L.length = j + 1) (hL : L.length < 10000) {a : Att} (ha : a.Ok) (h : (L[j]'(by omega)).t ≤ a.t) : addE L a = 0 := by
  refine addE_ok ha ?_ hL
  rintro ⟨z, hz, hlt⟩
  rw [last_at hj] at hz
  obtain rfl := Option.some.inj hz
  omega
theorem addE_early {L : List Att} {j : Nat} (hj : L.length = j + 1) {a : Att} (ha : a.Ok) (h : a.t < (L[j]'(by omega)).t) : addE L a = 8 :=
  addE_state ha ⟨_, last_at hj, h⟩
theorem addE_none {a : Att} (ha : a.Ok) : addE [] a = 0 := addE_ok ha (by rintro ⟨z, hz, _⟩; cases hz) (by decide)

/-! ### the twelve resources -/
theorem ent_is (t : Nat) (x : Ent) (q : Nat) (hq : q < 12) : (entA t x).is (1 + (q : Int) % 3) ((q : Int) / 3 % 2) (1 + (q : Int) / 6) = decide (x.r % 12 = q) := by
  unfold Att.is
  rw [decide_eq_decide]
  simp only [entA]
  constructor
  · rintro ⟨h1, h2, h3⟩
    omega
  · intro h
    refine ⟨?_, ?_, ?_⟩ <;> omega
theorem ofL_ent (q : Nat) (hq : q < 12) (l : List Ent) : ∀ t, (ofL (entL t l) (1 + (q : Int) % 3) ((q : Int) / 3 % 2) (1 + (q : Int) / 6)).length = (l.filter fun x => decide (x.r % 12 = q)).length := by
  induction l with
  | nil => intro t; rfl
  | cons x l ih =>
    intro t
    have h := ih (t + x.u)
    unfold ofL at h ⊢
    simp only [entL, List.filter_cons, ent_is t x q hq]
    split
    · simp only [List.length_cons, h]
    · exact h
/-- How many attempts the first m resources have. -/
def cntTo (L : List Att) : Nat → Nat
  | 0 => 0
  | m + 1 => cntTo L m + (ofL L (1 + (m : Int) % 3) ((m : Int) / 3 % 2) (1 + (m : Int) / 6)).length
theorem filter_succ (l : List Ent) (m : Nat) : (l.filter fun x => decide (x.r % 12 < m + 1)).length = (l.filter fun x => decide (x.r % 12 < m)).length + (l.filter fun x => decide (x.r % 12 = m)).length := by
  induction l with
  | nil => rfl
  | cons x l ih =>
    simp only [List.filter_cons]
    by_cases h1 : x.r % 12 < m
    · have h2 : x.r % 12 < m + 1 := by omega
      have h3 : ¬ x.r % 12 = m := by omega
      simp [h1, h2, h3, ih]; omega
    · by_cases h3 : x.r % 12 = m
      · have h2 : x.r % 12 < m + 1 := by omega
        simp [h1, h2, h3, ih]; omega
      · have h2 : ¬ x.r % 12 < m + 1 := by omega
        simp [h1, h2, h3, ih]
theorem cntTo_ent (l : List Ent) (t : Nat) : ∀ m, m ≤ 12 → cntTo (entL t l) m = (l.filter fun x => decide (x.r % 12 < m)).length := by
  intro m
  induction m with
  | zero => intro _; rw [cntTo, List.filter_eq_nil_iff.2 (fun x _ => by simp)]; rfl
  | succ m ih =>
    intro h
    rw [cntTo, ih (by omega), ofL_ent m (by omega), filter_succ]
theorem cntTo_all (l : List Ent) (t : Nat) : cntTo (entL t l) 12 = (entL t l).length := by
  rw [cntTo_ent l t 12 (Nat.le_refl _), entL_length, List.filter_eq_self.2]
  intro x _
  have := Nat.mod_lt x.r (show 0 < 12 by decide)
  simpa using this
theorem cntTo_le (L : List Att) : ∀ m, cntTo L m ≤ m * L.length := by
  intro m
  induction m with
  | zero => simp [cntTo]
  | succ m ih =>
    have := ofL_le L (1 + (m : Int) % 3) ((m : Int) / 3 % 2) (1 + (m : Int) / 6)
    rw [cntTo, Nat.succ_mul]
    omega
theorem ofL_take (L : List Att) (j : Nat) (h : j < L.length) (k i g : Int) : ofL (L.take (j + 1)) k i g = ofL (L.take j) k i g ++ (if L[j].is k i g then [L[j]] else []) := by
  rw [List.take_succ_eq_append_getElem h, ofL_snoc]
theorem endOf_snoc_no (M : List Att) (a : Att) (h : a.n = 2 ∨ isEnd M = true) : endOf (M ++ [a]) = endOf M ∧ isEnd (M ++ [a]) = isEnd M := by
  unfold endOf isEnd at *
  rw [List.find?_append]
  cases hf : M.find? (fun a => decide (a.n ≠ 2)) with
  | some z => simp
  | none =>
    rw [hf] at h
    have h2 : a.n = 2 := by simpa using h
    simp [h2]
theorem endOf_snoc_yes (M : List Att) (a : Att) (h : a.n ≠ 2) (h2 : isEnd M = false) : endOf (M ++ [a]) = a.n ∧ isEnd (M ++ [a]) = true := by
  unfold endOf isEnd at *
  rw [List.find?_append]
  cases hf : M.find? (fun a => decide (a.n ≠ 2)) with
  | some z => rw [hf] at h2; cases h2
  | none => simp [h]
theorem endOf_no {M : List Att} (h : isEnd M = false) : endOf M = 0 := by
  unfold endOf isEnd at *
  cases hf : M.find? (fun a => decide (a.n ≠ 2)) with
  | some z => rw [hf] at h; cases h
  | none => rfl
end Go.Proofs.YtenggngcigkakaaGreatDoor
