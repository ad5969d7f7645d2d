/- Plain facts about the texts of descriptors; nothing of the program. -/
import Derived.Test.YtmbkhkijmfogcaaDoorMathb
namespace Go.Proofs.YtmbkhkijmfogcaaDoor
open Go.Lib

/-- The letter of a kind. -/
def letter (k : Nat) : UInt8 := if k = 1 then 102 else if k = 2 then 98 else 108
/-- A name's text, with a mark between its two numbers. -/
def txt (m : UInt8) (k p g : Nat) : List UInt8 := letter k :: (decDigits p ++ m :: decDigits g)
/-- A name is possible where there are n places. -/
structure Okn (n k p g : Nat) : Prop where
  k1 : 1 ≤ k
  k3 : k ≤ 3
  p1 : p < n
  g1 : 1 ≤ g
  g2 : g ≤ 4294967295
/-- The text is that of no possible name. -/
def NoName (m : UInt8) (n : Nat) (l : List UInt8) : Prop := ∀ k p g, Okn n k p g → l ≠ txt m k p g
/-- The mark of a descriptor, or that of a resource of the outer world. -/
def Mark (m : UInt8) : Prop := m = 46 ∨ m = 58

theorem name_or (m : UInt8) (n : Nat) (l : List UInt8) : (∃ k p g, Okn n k p g ∧ l = txt m k p g) ∨ NoName m n l := by
  by_cases h : ∃ k p g, Okn n k p g ∧ l = txt m k p g
  · exact .inl h
  · exact .inr fun k p g h1 e => h ⟨k, p, g, h1, e⟩

theorem letter_inj {a b : Nat} (ha : 1 ≤ a) (ha' : a ≤ 3) (hb : 1 ≤ b) (hb' : b ≤ 3) (h : letter a = letter b) : a = b := by
  have h1 : a = 1 ∨ a = 2 ∨ a = 3 := by omega
  have h2 : b = 1 ∨ b = 2 ∨ b = 3 := by omega
  rcases h1 with rfl | rfl | rfl <;> rcases h2 with rfl | rfl | rfl <;> first | rfl | (exact absurd h (by decide))

theorem Mark.val {m : UInt8} (h : Mark m) : m.toNat = 46 ∨ m.toNat = 58 := by rcases h with rfl | rfl <;> simp

theorem digit_ne {m : UInt8} (hm : Mark m) (u : Nat) : ∀ x ∈ decDigits u, x ≠ m := by
  rintro x hx rfl
  have := digits_mem u x hx
  have := hm.val
  omega

theorem split_eq {m : UInt8} : ∀ {a b c d : List UInt8}, (∀ x ∈ a, x ≠ m) → (∀ x ∈ b, x ≠ m) → a ++ m :: c = b ++ m :: d → a = b ∧ c = d
  | [], [], c, d, _, _, h => by simpa using h
  | [], y :: b, c, d, _, hb, h => by
    simp only [List.nil_append, List.cons_append, List.cons.injEq] at h
    exact absurd h.1.symm (hb y (by simp))
  | x :: a, [], c, d, ha, _, h => by
    simp only [List.nil_append, List.cons_append, List.cons.injEq] at h
    exact absurd h.1 (ha x (by simp))
  | x :: a, y :: b, c, d, ha, hb, h => by
    simp only [List.cons_append, List.cons.injEq] at h
    have := split_eq (fun z hz => ha z (by simp [hz])) (fun z hz => hb z (by simp [hz])) h.2
    exact ⟨by rw [h.1, this.1], this.2⟩

theorem txt_inj {m : UInt8} (hm : Mark m) {n n' k p g k' p' g' : Nat} (h : Okn n k p g) (h' : Okn n' k' p' g') (e : txt m k p g = txt m k' p' g') : k = k' ∧ p = p' ∧ g = g' := by
  unfold txt at e
  rw [List.cons.injEq] at e
  obtain ⟨e1, e2⟩ := split_eq (digit_ne hm p) (digit_ne hm p') e.2
  exact ⟨letter_inj h.k1 h.k3 h'.k1 h'.k3 e.1, digits_inj e1, digits_inj e2⟩

theorem letter_val (k : Nat) : (letter k).toNat = 102 ∨ (letter k).toNat = 98 ∨ (letter k).toNat = 108 := by
  unfold letter
  split
  · simp
  · split <;> simp

theorem txt_mem {m x : UInt8} {k p g : Nat} (hx : x ∈ txt m k p g) : x.toNat = 102 ∨ x.toNat = 98 ∨ x.toNat = 108 ∨ x = m ∨ (48 ≤ x.toNat ∧ x.toNat ≤ 57) := by
  unfold txt at hx
  rw [List.mem_cons, List.mem_append, List.mem_cons] at hx
  rcases hx with rfl | hx | rfl | hx
  · rcases letter_val k with h | h | h
    · exact .inl h
    · exact .inr (.inl h)
    · exact .inr (.inr (.inl h))
  · exact .inr (.inr (.inr (.inr (digits_mem p x hx))))
  · exact .inr (.inr (.inr (.inl rfl)))
  · exact .inr (.inr (.inr (.inr (digits_mem g x hx))))

theorem mark_mem (m : UInt8) (k p g : Nat) : m ∈ txt m k p g := by simp [txt]

theorem no_other {m m' : UInt8} (hm : Mark m) (_hm' : Mark m') (hne : m ≠ m') (n k p g : Nat) : NoName m' n (txt m k p g) := by
  intro k' p' g' _ e
  have h := mark_mem m k p g
  rw [e] at h
  rcases txt_mem h with h | h | h | h | h
  · have := hm.val; omega
  · have := hm.val; omega
  · have := hm.val; omega
  · exact hne h
  · have := hm.val; omega

theorem txt_size {m : UInt8} {n k p g : Nat} (h : Okn n k p g) (hn : n ≤ 256) : 4 ≤ (txt m k p g).length ∧ (txt m k p g).length ≤ 22 := by
  have h1 := digits_len p (by have := h.p1; omega)
  have h2 := digits_len g (by have := h.g2; omega)
  simp only [txt, List.length_cons, List.length_append]
  omega

/-- The text spells no number. -/
def NoNum (l : List UInt8) : Prop := ∀ u, u ≤ 4294967295 → l ≠ decDigits u
theorem nonum_len {l : List UInt8} (h : l.length = 0 ∨ 10 < l.length) : NoNum l := by
  rintro u h2 rfl
  have := digits_len u (by omega)
  omega
theorem nonum_byte {l : List UInt8} {c : UInt8} (hc : c ∈ l) (h : c.toNat < 48 ∨ 57 < c.toNat) : NoNum l := by
  rintro u h2 rfl
  have := digits_mem u c hc
  omega
theorem nonum_other {l : List UInt8} (h : decDigits (numOf l) ≠ l) : NoNum l := by
  rintro u h2 rfl
  rw [numOf_digits] at h
  exact h rfl
end Go.Proofs.YtmbkhkijmfogcaaDoor
