/- Mathematics of lines that are wrong: none of the eight is the text of an attempt. -/
import Derived.Test.YtenggngcigkakaaGreatDoorHm
namespace Go.Proofs.YtenggngcigkakaaGreatDoor
open Go.Lib

theorem ansW_last (n : Int) : ∃ l c, ansW n = l ++ [c] ∧ (c = 107 ∨ c = 114 ∨ c = 108) := by
  unfold ansW
  split
  · exact ⟨[111], 107, rfl, .inl rfl⟩
  · split
    · exact ⟨[108, 97, 116, 101], 114, rfl, .inr (.inl rfl)⟩
    · exact ⟨[102, 97, 105], 108, rfl, .inr (.inr rfl)⟩
theorem aText_last (a : Att) : ∃ l c, aText a = l ++ [c] ∧ (c = 107 ∨ c = 114 ∨ c = 108) := by
  obtain ⟨l, c, h, hc⟩ := ansW_last a.n
  refine ⟨decDigits a.t.toNat ++ 32 :: (txt 58 a.k.toNat a.i.toNat a.g.toNat ++ 32 :: (whyW a.y ++ 32 :: l)), c, ?_, hc⟩
  unfold aText
  rw [h]
  simp
theorem aText_first (a : Att) : ∃ c l, aText a = c :: l ∧ 48 ≤ c.toNat ∧ c.toNat ≤ 57 := by
  unfold aText
  cases e : decDigits a.t.toNat with
  | nil => exact absurd e (decDigits_ne_nil _)
  | cons c l => exact ⟨c, _, rfl, digits_mem a.t.toNat c (by rw [e]; simp)⟩
/-- A zero ahead. -/
theorem wrong_zero (a c : Att) : 48 :: aText a ≠ aText c := by
  intro h
  unfold aText at h
  rw [← List.cons_append] at h
  obtain ⟨e, _⟩ := split_eq (m := 32) (by
    intro x hx
    rcases List.mem_cons.1 hx with rfl | hx
    · decide
    · exact dig_ne (by decide) _ x hx) (dig_ne (by decide) _) h
  have e2 := congrArg numOf e
  have e3 : numOf (48 :: decDigits a.t.toNat) = numOf (decDigits a.t.toNat) := rfl
  rw [e3, numOf_digits, numOf_digits] at e2
  rw [← e2] at e
  simpa using congrArg List.length e
/-- Another byte ahead. -/
theorem wrong_ahead {b : UInt8} (hb : b.toNat < 48 ∨ 57 < b.toNat) (x : List UInt8) (c : Att) : b :: x ≠ aText c := by
  intro h
  obtain ⟨d, l, e, h1, h2⟩ := aText_first c
  rw [e] at h
  injection h with h _
  subst h
  omega
/-- Another byte behind. -/
theorem wrong_behind {b : UInt8} (hb : b ≠ 107 ∧ b ≠ 114 ∧ b ≠ 108) (x : List UInt8) (c : Att) : x ++ [b] ≠ aText c := by
  intro h
  obtain ⟨l, d, e, hd⟩ := aText_last c
  rw [e] at h
  have := (List.append_inj' h rfl).2
  injection this with h _
  subst h
  rcases hd with hd | hd | hd
  · exact hb.1 hd
  · exact hb.2.1 hd
  · exact hb.2.2 hd
/-- Empty. -/
theorem wrong_empty (c : Att) : [] ≠ aText c := by
  obtain ⟨d, l, e, _⟩ := aText_first c
  rw [e]; exact (List.cons_ne_nil d l).symm
/-- The first blank twice. -/
theorem wrong_twice (u : Nat) (R : List UInt8) (c : Att) : decDigits u ++ 32 :: 32 :: R ≠ aText c := by
  intro h
  unfold aText at h
  obtain ⟨_, e⟩ := split_eq (m := 32) (dig_ne (by decide) _) (dig_ne (by decide) _) h
  obtain ⟨e, _⟩ := List.cons.inj e
  exact txt_ne (m := 32) (k := c.k.toNat) (p := c.i.toNat) (g := c.g.toNat) (by decide) (letter c.k.toNat) (by unfold txt; simp) e.symm
/-- An upper case letter for a lower case one. -/
def upB (b : UInt8) : UInt8 := if 97 ≤ b ∧ b ≤ 122 then b - 32 else b
theorem wrong_upper (a c : Att) : (aText a).map upB ≠ aText c := by
  obtain ⟨l, d, e, hd⟩ := aText_last a
  rw [e, List.map_append, List.map_cons, List.map_nil]
  refine wrong_behind ?_ _ c
  rcases hd with rfl | rfl | rfl <;> decide
/-! ### what Parse reads in such a text -/
theorem prel_wrong {L : List Att} (hL : AllOk L) {k : Nat} {x : List UInt8} (hx : ∀ b ∈ x, b ≠ 10) (h : ∀ a : Att, x ≠ aText a) :
    PRel (lines (L.take k) ++ (x ++ 10 :: lines (L.drop (k + 1)))) (L.take k) (x ++ 10 :: lines (L.drop (k + 1))) :=
  ⟨rfl, fun a ha => hL a (List.mem_of_mem_take ha), .inr (bad_of_line rfl hx fun a _ => h a)⟩
theorem prel_cut {L : List Att} (hL : AllOk L) {k : Nat} (hk : k < L.length) :
    PRel (lines (L.take k) ++ aText L[k]) (L.take k) (aText L[k]) :=
  ⟨rfl, fun a ha => hL a (List.mem_of_mem_take ha), .inr (bad_of_end (fun e => wrong_empty _ e.symm) (aText_ne (by decide) _))⟩
/-- The lines of a text, each with its line feed. -/
def lineL (a : Att) : List UInt8 := aText a ++ [10]
theorem lines_flat (L : List Att) : lines L = (L.map lineL).flatten := by unfold lines lineL; rw [List.flatMap_def]
theorem lines_take (L : List Att) (k : Nat) : lines (L.take k) = ((L.map lineL).take k).flatten := by rw [lines_flat, List.map_take]
theorem lines_drop (L : List Att) (k : Nat) : lines (L.drop k) = ((L.map lineL).drop k).flatten := by rw [lines_flat, List.map_drop]
theorem lines_app (A B : List Att) : lines (A ++ B) = lines A ++ lines B := by unfold lines; rw [List.flatMap_append]
theorem lines_parted (L : List Att) {k : Nat} (hk : k < L.length) : lines L = lines (L.take k) ++ (aText L[k] ++ 10 :: lines (L.drop (k + 1))) := by
  rw [← lines_cons, ← lines_app, ← List.drop_eq_getElem_cons hk, List.take_append_drop]
end Go.Proofs.YtenggngcigkakaaGreatDoor
