/- Plain facts about decimal digits and about reading them; nothing of the program. -/
import Derived.Lib.ItoaNum
import Derived.Lib.ParseIntBCases
namespace Go.Proofs.YtmbkhkijmfogcaaDoor
open Go.Lib

theorem parseM_snoc (M : Nat) : ∀ (l : List UInt8) (acc a : Nat) (c : UInt8), parseUintM M acc l = .ok a → parseUintM M acc (l ++ [c]) = parseUintM M a [c]
  | [], acc, a, c, h => by
    simp only [parseUintM, NumEnd.ok.injEq] at h
    subst h
    rfl
  | d :: r, acc, a, c, h => by
    simp only [List.cons_append, parseUintM] at h ⊢
    split at h
    · rename_i hd
      rw [if_pos hd]
      split at h
      · cases h
      · rename_i h1
        rw [if_neg h1]
        split at h
        · cases h
        · rename_i h2
          rw [if_neg h2]
          exact parseM_snoc M r _ a c h
    · cases h

theorem toNat_digit (d : Nat) (h : d < 10) : (UInt8.ofNat (48 + d)).toNat = 48 + d := by
  rw [UInt8.toNat_ofNat']; omega

theorem parseM_digits (M : Nat) (hM : M ≤ 4294967295) (u : Nat) : u ≤ M → parseUintM M 0 (decDigits u) = .ok u := by
  induction u using Nat.strongRecOn with
  | _ u ih =>
    intro hu
    by_cases h : u < 10
    · rw [decDigits, dif_pos h]
      have e := toNat_digit u h
      simp only [parseUintM, e]
      rw [if_pos (by omega), if_neg (by omega), if_neg (by omega)]
      congr 1
      omega
    · rw [decDigits, dif_neg h, parseM_snoc M _ 0 (u / 10) _ (ih (u / 10) (by omega) (by omega))]
      have e := toNat_digit (u % 10) (by omega)
      simp only [parseUintM, e]
      rw [if_pos (by omega), if_neg (by omega), if_neg (by omega)]
      congr 1
      omega

theorem decDigits_ne_nil (u : Nat) : decDigits u ≠ [] := by
  intro h
  have := decDigits_length u
  rw [h] at this
  have := nDigits_pos u
  simp at *
  omega

theorem parseB_digits (u : Nat) (hu : u ≤ 4294967295) : parseUintB 32 (decDigits u) = .ok u := by
  unfold parseUintB
  rw [if_neg (decDigits_ne_nil u)]
  exact parseM_digits _ (by decide) u (by simpa using hu)

theorem decDigits_inj {u v : Nat} (hu : u ≤ 4294967295) (hv : v ≤ 4294967295) (h : decDigits u = decDigits v) : u = v := by
  have a := parseB_digits u hu
  rw [h, parseB_digits v hv] at a
  injection a with a
  exact a.symm

/-- The texts of generations. -/
def IsGen (l : List UInt8) (u : Nat) : Prop := 1 ≤ u ∧ u ≤ 4294967295 ∧ l = decDigits u
def NoGen (l : List UInt8) : Prop := ∀ u, 1 ≤ u → u ≤ 4294967295 → l ≠ decDigits u
theorem gen_or (l : List UInt8) : (∃ u, IsGen l u) ∨ NoGen l := by
  by_cases h : ∃ u, IsGen l u
  · exact .inl h
  · exact .inr fun u h1 h2 e => h ⟨u, h1, h2, e⟩
end Go.Proofs.YtmbkhkijmfogcaaDoor
