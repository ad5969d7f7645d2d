/- Plain facts about decimal digits, second part: the number that digits spell; nothing of the program. -/
import Derived.Test.YtmbkhkijmfogcaaDoorMath
namespace Go.Proofs.YtmbkhkijmfogcaaDoor
open Go.Lib

def numFrom (a : Nat) (l : List UInt8) : Nat := l.foldl (fun a c => a * 10 + (c.toNat - 48)) a
def numOf (l : List UInt8) : Nat := numFrom 0 l

theorem numOf_snoc (l : List UInt8) (c : UInt8) : numOf (l ++ [c]) = numOf l * 10 + (c.toNat - 48) := by
  simp [numOf, numFrom, List.foldl_append]

theorem numFrom_lt : ∀ (l : List UInt8) (a : Nat), (∀ c ∈ l, c.toNat ≤ 57) → numFrom a l < (a + 1) * 10 ^ l.length
  | [], a, _ => by simp [numFrom]
  | c :: r, a, h => by
    have hc := h c (by simp)
    have ih := numFrom_lt r (a * 10 + (c.toNat - 48)) (fun d hd => h d (by simp [hd]))
    have e : numFrom a (c :: r) = numFrom (a * 10 + (c.toNat - 48)) r := rfl
    rw [e, List.length_cons, Nat.pow_succ, Nat.mul_comm (10 ^ r.length) 10, ← Nat.mul_assoc]
    refine Nat.lt_of_lt_of_le ih (Nat.mul_le_mul_right _ ?_)
    omega

theorem numOf_lt (l : List UInt8) (h : ∀ c ∈ l, c.toNat ≤ 57) : numOf l < 10 ^ l.length := by
  have := numFrom_lt l 0 h
  simpa [numOf] using this

theorem numOf_small (l : List UInt8) (h : ∀ c ∈ l, c.toNat ≤ 57) (hl : l.length ≤ 10) : numOf l ≤ 9999999999 := by
  have h1 := numOf_lt l h
  have h2 : 10 ^ l.length ≤ 10 ^ 10 := Nat.pow_le_pow_right (by decide) hl
  have h3 : (10 : Nat) ^ 10 = 10000000000 := by decide
  omega

theorem numOf_digits (u : Nat) : numOf (decDigits u) = u := by
  induction u using Nat.strongRecOn with
  | _ u ih =>
    by_cases h : u < 10
    · rw [decDigits, dif_pos h]
      have e := toNat_digit u h
      simp only [numOf, numFrom, List.foldl_cons, List.foldl_nil, e]
      omega
    · rw [decDigits, dif_neg h, numOf_snoc, ih (u / 10) (by omega), toNat_digit (u % 10) (by omega)]
      omega

theorem digits_mem (u : Nat) : ∀ c ∈ decDigits u, 48 ≤ c.toNat ∧ c.toNat ≤ 57 := by
  induction u using Nat.strongRecOn with
  | _ u ih =>
    by_cases h : u < 10
    · rw [decDigits, dif_pos h]
      intro c hc
      rw [List.mem_singleton] at hc
      subst hc
      rw [toNat_digit u h]
      omega
    · rw [decDigits, dif_neg h]
      intro c hc
      rcases List.mem_append.1 hc with hc | hc
      · exact ih (u / 10) (by omega) c hc
      · rw [List.mem_singleton] at hc
        subst hc
        rw [toNat_digit (u % 10) (by omega)]
        omega

theorem nDigits_le : ∀ (k u : Nat), u < 10 ^ (k + 1) → nDigits u ≤ k + 1
  | 0, u, h => by rw [nDigits_small (by simpa using h)]; omega
  | k + 1, u, h => by
    by_cases h0 : u < 10
    · rw [nDigits_small h0]; omega
    · rw [nDigits_big h0]
      have := nDigits_le k (u / 10) (by rw [Nat.pow_succ] at h; omega)
      omega

theorem digits_len (u : Nat) (h : u ≤ 9999999999) : 1 ≤ (decDigits u).length ∧ (decDigits u).length ≤ 10 := by
  rw [decDigits_length]
  exact ⟨nDigits_pos u, nDigits_le 9 u (by have h3 : (10 : Nat) ^ (9 + 1) = 10000000000 := by decide
                                           omega)⟩

theorem digits_inj {u v : Nat} (h : decDigits u = decDigits v) : u = v := by rw [← numOf_digits u, h, numOf_digits]

theorem nogen_len {l : List UInt8} (h : l.length = 0 ∨ 10 < l.length) : NoGen l := by
  rintro u h1 h2 rfl
  have := digits_len u (by omega)
  omega

theorem nogen_byte {l : List UInt8} {c : UInt8} (hc : c ∈ l) (h : c.toNat < 48 ∨ 57 < c.toNat) : NoGen l := by
  rintro u h1 h2 rfl
  have := digits_mem u c hc
  omega

theorem nogen_other {l : List UInt8} (h : decDigits (numOf l) ≠ l) : NoGen l := by
  rintro u h1 h2 rfl
  rw [numOf_digits] at h
  exact h rfl

theorem nogen_range {n : Nat} (h : n = 0 ∨ 4294967295 < n) : NoGen (decDigits n) := by
  intro u h1 h2 e
  have := digits_inj e
  omega
end Go.Proofs.YtmbkhkijmfogcaaDoor
