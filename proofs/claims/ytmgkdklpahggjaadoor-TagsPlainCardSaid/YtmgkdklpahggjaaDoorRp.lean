/- Plain mathematics of TagsPlain: texts of plain letters, and what one other byte makes of them. -/
import Derived.Test.YtmgkdklpahggjaaDoorRg
import Derived.Test.YtmgkdklpahggjaaDoorWe
namespace Go.Proofs.YtmgkdklpahggjaaDoor
open Go.RowKit

def letB : List UInt8 := [97, 98, 99, 100, 101, 102, 103, 104, 105, 106, 107, 108, 109, 110, 111, 112, 113, 114, 115, 116, 117, 118, 119, 120, 121, 122, 48, 49, 50, 51, 52, 53, 54, 55, 56, 57, 45, 46, 95]
theorem letB_plain : ∀ b ∈ letB, PlainR b.toNat := by decide
set_option maxRecDepth 100000 in
theorem plain_letB : ∀ n : Fin 256, PlainR n.val → UInt8.ofNat n.val ∈ letB := by decide
theorem mem_letB (b : UInt8) : b ∈ letB ↔ PlainR b.toNat := by
  refine ⟨letB_plain b, fun h => ?_⟩
  have := plain_letB ⟨b.toNat, b.toNat_lt⟩ h
  simpa using this
/-- The letters that the numbers choose, the first k of them. -/
def bl (c : Nat → Nat) (k : Nat) : List UInt8 := (List.range k).map fun i => letB.getD (c i % 39) 0
theorem bl_length (c : Nat → Nat) (k : Nat) : (bl c k).length = k := by simp [bl]
theorem bl_succ (c : Nat → Nat) (k : Nat) : bl c (k + 1) = bl c k ++ [letB.getD (c k % 39) 0] := by
  unfold bl; rw [List.range_succ, List.map_append]; rfl
theorem bl_plain (c : Nat → Nat) (k : Nat) : ∀ b ∈ bl c k, PlainR b.toNat := by
  intro b hb
  obtain ⟨i, _, rfl⟩ := List.mem_map.1 hb
  have hl : c i % 39 < letB.length := by have := Nat.mod_lt (c i) (show 0 < 39 by omega); exact this
  rw [List.getD_eq_getElem?_getD, List.getElem?_eq_getElem hl, Option.getD_some]
  exact letB_plain _ (List.getElem_mem hl)
theorem plain_small {n : Nat} (h : PlainR n) : n < 128 ∧ 32 ≤ n ∧ n ≠ 127 ∧ n ≠ 34 ∧ n ≠ 92 := by unfold PlainR at h; omega
theorem utf_of_plain : ∀ l : List UInt8, (∀ b ∈ l, PlainR b.toNat) → Utf l (l.map UInt8.toNat)
  | [], _ => utf_nil
  | b :: l, h => by
    have hb := plain_small (h b (by simp))
    have := utf_cons (r := b.toNat) (.inl (by omega)) (utf_of_plain l fun x hx => h x (by simp [hx]))
    rw [encR_1 hb.1] at this
    simpa using this
theorem tag_of_plain (l : List UInt8) (h : ∀ b ∈ l, PlainR b.toNat) (h1 : 1 ≤ l.length) (h2 : l.length ≤ 24) : Tag l (l.map UInt8.toNat) :=
  ⟨utf_of_plain l h, by simpa using h1, by simpa using h2, fun r hr => by
    obtain ⟨b, hb, rfl⟩ := List.mem_map.1 hr
    have := plain_small (h b hb)
    omega⟩
theorem esc_of_plain : ∀ l : List UInt8, (∀ b ∈ l, PlainR b.toNat) → esc l = l
  | [], _ => rfl
  | b :: l, h => by
    have hb := plain_small (h b (by simp))
    have e : esc (b :: l) = escB b ++ esc l := rfl
    have hne : ¬ (b = 34 ∨ b = 92) := by
      rintro (rfl | rfl)
      · exact hb.2.2.2.1 rfl
      · exact hb.2.2.2.2 rfl
    rw [e, esc_of_plain l fun x hx => h x (by simp [hx])]
    unfold escB
    rw [if_neg hne]
    rfl
theorem wids_of_plain : ∀ l : List UInt8, (∀ b ∈ l, PlainR b.toNat) → wids (l.map UInt8.toNat) = l.length
  | [], _ => rfl
  | b :: l, h => by
    have hb := plain_small (h b (by simp))
    rw [List.map_cons, wids_cons, wids_of_plain l fun x hx => h x (by simp [hx])]
    unfold wid
    rw [if_pos (by omega), List.length_cons]
    omega

/-- Plain, at a text of which one knows whether all its bytes are plain. -/
theorem plain_val (s : ByteArray) (w : World) (he : Env w) (hs : s.size ≤ 1000000) (h0 : 0 < s.size) (h24 : s.size ≤ 24) (p : Bool) (hp : p = true ↔ ∀ b ∈ s.data.toList, PlainR b.toNat) :
    Calls Tryd.prog 20 #[.string s] w fun e w' => e = .returned (.bool p) ∧ Below w.heap.size w w' := by
  rcases tag_dec s.data.toList with ⟨rs, ht⟩ | ht
  · have h := plain_tag s rs w he ht
    have e : decide (∀ r ∈ rs, PlainR r) = p := by
      rw [Bool.eq_iff_iff, decide_eq_true_iff, hp]; exact plain_bytes ht.utf
    rwa [e] at h
  · have hpf : p = false := by
      cases p with
      | false => rfl
      | true => exact absurd (tag_of_plain _ (hp.1 rfl) (by rw [← Lib.size_eq]; omega) (by rw [← Lib.size_eq]; omega)) (ht _)
    rw [hpf]
    exact plain_no s w he (by omega) ht
/-- One byte put in another's place. -/
theorem set_plain (l : List UInt8) (j : Nat) (o : UInt8) (hj : j < l.length) (h : ∀ b ∈ l, PlainR b.toNat) : o ∈ letB ↔ ∀ b ∈ l.set j o, PlainR b.toNat := by
  rw [mem_letB]
  constructor
  · intro ho b hb
    rcases List.mem_or_eq_of_mem_set hb with hb | rfl
    · exact h b hb
    · exact ho
  · intro hall
    exact hall o (List.mem_set hj o)
theorem byteCells_set (l : List UInt8) (j : Nat) (o : UInt8) : (Lib.byteCells l).set j (.int .u8 (o.toNat : Int)) = Lib.byteCells (l.set j o) := by
  simp [Lib.byteCells, List.map_set]
end Go.Proofs.YtmgkdklpahggjaaDoor
