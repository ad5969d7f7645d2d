/- Plain facts about how the texts of descriptors are read: their letter, their mark and their two numbers; nothing of the program. -/
import Derived.Test.YtmbkhkijmfogcaaDoorDm
import Derived.Lib.ParseIntBTie
import Derived.Lib.IndexMore
import Derived.Lib.Strings
namespace Go.Proofs.YtmbkhkijmfogcaaDoor
open Go.Lib

theorem parseM_digits' (M : Nat) (u : Nat) : u ≤ M → u ≤ 4294967295 → parseUintM M 0 (decDigits u) = .ok u := by
  induction u using Nat.strongRecOn with
  | _ u ih =>
    intro hu hv
    by_cases h : u < 10
    · rw [decDigits, dif_pos h]
      have e := toNat_digit u h
      simp only [parseUintM, e]
      rw [if_pos (by omega), if_neg (by omega), if_neg (by omega)]
      congr 1
      omega
    · rw [decDigits, dif_neg h, parseM_snoc M _ 0 (u / 10) _ (ih (u / 10) (by omega) (by omega) (by omega))]
      have e := toNat_digit (u % 10) (by omega)
      simp only [parseUintM, e]
      rw [if_pos (by omega), if_neg (by omega), if_neg (by omega)]
      congr 1
      omega

theorem parseI_digits (p : Nat) (hp : p ≤ 4294967295) : parseIntB 64 (decDigits p) = .ok (p : Int) := by
  have hb : parseUintB 64 (decDigits p) = .ok p := by
    unfold parseUintB
    rw [if_neg (decDigits_ne_nil p)]
    exact parseM_digits' _ p (by omega) hp
  have hd := digits_mem p
  cases hl : decDigits p with
  | nil => exact absurd hl (decDigits_ne_nil p)
  | cons c r =>
    rw [hl] at hb hd
    have hc := hd c (by simp)
    rw [parseIntB_plain 64 c r (by omega) (by omega), hb]
    show (if 2 ^ (64 - 1) ≤ p then NumEnd.range else NumEnd.ok (p : Int)) = NumEnd.ok (p : Int)
    rw [if_neg (by have : (2 : Nat) ^ (64 - 1) = 9223372036854775808 := by decide
                   omega)]

theorem index_mark {m : UInt8} : ∀ (a b : List UInt8), (∀ x ∈ a, x ≠ m) → index (a ++ m :: b) [m] = a.length
  | [], b, _ => by simp [index, List.isPrefixOf]
  | x :: a, b, h => by
    have h0 : x ≠ m := h x (by simp)
    have ih := index_mark a b (fun y hy => h y (by simp [hy]))
    have e : (m == x) = false := beq_eq_false_iff_ne.2 (fun e => h0 e.symm)
    simp only [List.cons_append, index, List.isPrefixOf, e, Bool.false_and]
    rw [ih]
    have e2 : (((a.length : Nat) : Int) == -1) = false := beq_eq_false_iff_ne.2 (by omega)
    simp [e2]

theorem cut_mark {m : UInt8} (a b : List UInt8) (h : ∀ x ∈ a, x ≠ m) : cut (a ++ m :: b) [m] = (a, b, true) := by
  unfold cut
  rw [index_mark a b h, if_pos (by omega)]
  simp

theorem cut_len (l s : List UInt8) : (cut l s).1.length ≤ l.length ∧ (cut l s).2.1.length ≤ l.length := by
  unfold cut
  split
  · simp only [List.length_take, List.length_drop]
    omega
  · simp

theorem pre_txt (c m : UInt8) (k p g : Nat) : hasPrefix (txt m k p g) [c] = (c == letter k) := by simp [hasPrefix, txt, List.isPrefixOf]
theorem trim_txt (m : UInt8) (k p g : Nat) : trimPrefix (txt m k p g) [letter k] = decDigits p ++ m :: decDigits g := by
  unfold trimPrefix
  rw [pre_txt]
  simp [txt]
theorem trim_len (l s : List UInt8) : (trimPrefix l s).length ≤ l.length := by
  unfold trimPrefix
  split
  · simp
  · exact Nat.le_refl _

/-- The kind whose letter a byte is, of those below k; 0: of none. -/
def kindOf (c : UInt8) : Nat → Nat
  | 0 => 0
  | k + 1 => if k = 0 then 0 else if c = letter k then k else kindOf c k
theorem kindOf_le (c : UInt8) : ∀ k, kindOf c k ≤ k
  | 0 => Nat.le_refl _
  | k + 1 => by
    unfold kindOf
    split
    · omega
    · split
      · omega
      · have := kindOf_le c k; omega
theorem kindOf_letter (k : Nat) (h1 : 1 ≤ k) (h3 : k ≤ 3) : kindOf (letter k) 4 = k := by
  have h : k = 1 ∨ k = 2 ∨ k = 3 := by omega
  rcases h with rfl | rfl | rfl <;> decide
theorem kindOf_pos (c : UInt8) : ∀ k, 0 < kindOf c k → c = letter (kindOf c k)
  | 0, h => by simp [kindOf] at h
  | k + 1, h => by
    unfold kindOf at h ⊢
    split
    · rename_i h0; rw [if_pos h0] at h; omega
    · rename_i h0
      rw [if_neg h0] at h
      split
      · rename_i h1; exact h1
      · rename_i h1
        rw [if_neg h1] at h
        exact kindOf_pos c k h

/-- A text with its first mark at a place: what comes of it. -/
theorem txt_parts {m c : UInt8} {A B : List UInt8} (hm : Mark m) (hA : ∀ x ∈ A, x ≠ m) {k p g : Nat} (h : c :: (A ++ m :: B) = txt m k p g) : c = letter k ∧ A = decDigits p ∧ B = decDigits g := by
  unfold txt at h
  rw [List.cons.injEq] at h
  obtain ⟨e1, e2⟩ := split_eq hA (digit_ne hm p) h.2
  exact ⟨h.1, e1, e2⟩
end Go.Proofs.YtmbkhkijmfogcaaDoor
