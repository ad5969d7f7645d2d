/- The contracts of the document's parts, Parse and ParseOuter. -/
import Derived.Test.YtenggngcigkakaaGreatDoorDr
import Derived.Test.YtenggngcigkakaaGreatDoorDn
import Derived.Test.YtenggngcigkakaaGreatDoorDy
import Derived.Deep.QuietTactic
import Derived.BigQuiet
namespace Go.Proofs.YtenggngcigkakaaGreatDoor
open Go.RowKit

/-- What the document's parts comes to. -/
def PartsV (m : UInt8) (s : ByteArray) (e : Ending) : Prop :=
  ∃ (k a b : Nat) (ok : Bool), k ≤ 3 ∧ a ≤ 9999999999 ∧ b ≤ 9999999999 ∧ e = .returned (.tuple #[.int .i64 k, .int .u64 a, .int .u64 b, .bool ok]) ∧
    (ok = true → 1 ≤ k ∧ b ≤ 4294967295 ∧ s.data.toList = txt m k a b) ∧ (ok = false → ∀ N K P G : Nat, Okn N K P G → N ≤ 256 → s.data.toList ≠ txt m K P G)

/-- The first mark of a text is at a place, or there is none. -/
def AtM (m : UInt8) (s : ByteArray) (A : Nat) : Prop := A ≤ s.size ∧ (∀ i (h : i < s.size), i < A → s[i] ≠ m) ∧ ∀ h : A < s.size, s[A] = m

theorem at_mark (m : UInt8) (s : ByteArray) : ∃ A, AtM m s A := by
  have key : ∀ j, j ≤ s.size → (∃ A, A ≤ j ∧ AtM m s A ∧ A < s.size) ∨ ∀ i (h : i < s.size), i < j → s[i] ≠ m := by
    intro j
    induction j with
    | zero => exact fun _ => .inr fun i _ h => absurd h (Nat.not_lt_zero _)
    | succ j ih =>
      intro hj
      rcases ih (by omega) with ⟨A, h1, h2, h3⟩ | hno
      · exact .inl ⟨A, by omega, h2, h3⟩
      · by_cases hm : s[j]'(by omega) = m
        · exact .inl ⟨j, by omega, ⟨by omega, fun i h hi => hno i h hi, fun _ => hm⟩, by omega⟩
        · refine .inr fun i h hi => ?_
          by_cases e : i = j
          · subst e; exact hm
          · exact hno i h (by omega)
  rcases key s.size (Nat.le_refl _) with ⟨A, _, h, _⟩ | hno
  · exact ⟨A, h⟩
  · exact ⟨s.size, Nat.le_refl _, fun i h hi => hno i h hi, fun h => absurd h (Nat.lt_irrefl _)⟩

/-- A text with its first mark at a place of at least 1. -/
theorem at_split {m : UInt8} {s : ByteArray} {A : Nat} (h : AtM m s A) (hA : A < s.size) (h1 : 1 ≤ A) :
    s.data.toList = s[0] :: ((s.extract 1 A).data.toList ++ m :: (s.extract (A + 1) s.size).data.toList) ∧ ∀ x ∈ (s.extract 1 A).data.toList, x ≠ m := by
  obtain ⟨g1, g2, g3⟩ := h
  have hl := Lib.size_eq s
  have e1 : (s.extract 1 A).data.toList = (s.data.toList.drop 1).take (A - 1) := by rw [Lib.extract_eq]
  have e2 : (s.extract (A + 1) s.size).data.toList = s.data.toList.drop (A + 1) := by
    rw [Lib.extract_eq]
    exact List.take_of_length_le (by rw [List.length_drop]; omega)
  have e0 : s.data.toList[0]'(by omega) = s[0] := rfl
  have eA : s.data.toList[A]'(by omega) = m := g3 hA
  constructor
  · rw [e1, e2]
    apply List.ext_getElem
    · simp only [List.length_cons, List.length_append, List.length_drop, List.length_take]
      omega
    · intro i h1' h2'
      rcases Nat.eq_zero_or_pos i with rfl | hi
      · simp [e0]
      · rw [List.getElem_cons, dif_neg (by omega), List.getElem_append]
        by_cases hlt : i < A
        · rw [dif_pos (by simp only [List.length_drop, List.length_take]; omega)]
          simp only [List.getElem_drop, List.getElem_take]
          congr 1
          omega
        · rw [dif_neg (by simp only [List.length_drop, List.length_take]; omega)]
          rw [List.getElem_cons]
          by_cases he : i = A
          · subst he
            rw [dif_pos (by simp only [List.length_drop, List.length_take]; omega)]
            exact eA
          · rw [dif_neg (by simp only [List.length_drop, List.length_take]; omega)]
            simp only [List.getElem_drop, List.length_drop, List.length_take]
            congr 1
            omega
  · intro x hx
    rw [e1] at hx
    obtain ⟨i, hi, rfl⟩ := List.getElem_of_mem hx
    simp only [List.length_drop, List.length_take] at hi
    simp only [List.getElem_drop, List.getElem_take]
    exact g2 (1 + i) (by omega) (by omega)

theorem no_at_end {m : UInt8} {s : ByteArray} (h : AtM m s s.size) (k p g : Nat) : s.data.toList ≠ txt m k p g := by
  intro e
  have hm := mark_mem m k p g
  rw [← e] at hm
  obtain ⟨i, hi, hx⟩ := List.getElem_of_mem hm
  have hl := Lib.size_eq s
  exact h.2.1 i (by omega) (by omega) hx
theorem no_at_small {m : UInt8} (hm : Mark m) {s : ByteArray} {A : Nat} (h : AtM m s A) (hA : A < s.size) (h2 : A < 2) (k p g : Nat) : s.data.toList ≠ txt m k p g := by
  intro e
  have hl := Lib.size_eq s
  by_cases h0 : A = 0
  · subst h0
    have e0 : s.data.toList[0]'(by omega) = m := h.2.2 hA
    have e1 : (txt m k p g)[0]'(by simp [txt]) = letter k := rfl
    simp only [e] at e0
    rw [e1] at e0
    have := letter_val k
    have := hm.val
    rw [← e0] at this
    omega
  · obtain rfl : A = 1 := by omega
    obtain ⟨e1, e2⟩ := at_split h hA (by omega)
    rw [e1] at e
    obtain ⟨_, e4, _⟩ := txt_parts hm e2 e
    have e5 : (s.extract 1 1).data.toList = [] := by simp
    rw [e5] at e4
    exact decDigits_ne_nil p e4.symm

set_option maxHeartbeats 1000000 in
theorem parts_end (m : UInt8) (s : ByteArray) (A : Nat) (hA : AtM m s A) (he : A = s.size) (hs : s.size ≤ 100000) (w : World) :
    Calls Tryz.prog 116 #[.string s, .int .u8 m.toNat] w fun e w' => PartsV m s e ∧ Below w.heap.size w w' := by
  have HA := Lib.hid hA
  have HN : Hid (∀ N K P G : Nat, Okn N K P G → N ≤ 256 → s.data.toList ≠ txt m K P G) := fun N K P G _ _ => no_at_end (he ▸ hA) K P G
  clear hA
  go_enter Tryz.func116, Tryz.ntmps116
  go_wp2
  go_loop [8] (fun i => ∃ k : Nat, k ≤ A ∧ i = .int .i64 k) (fun i => A - (intOf i).toNat)
  case atStart => exact ⟨0, Nat.zero_le _, rfl⟩
  case round =>
    obtain ⟨k, hk, rfl⟩ := hrel
    by_cases hlt : k < A
    · have hks : k < s.size := by have := HA.out.1; omega
      have hne : s[k] ≠ m := HA.out.2.1 k hks hlt
      have hne1 : (((s[k].toNat : Int)) == (m.toNat : Int)) = false := by rw [beq_eq_false_iff_ne]; intro e; exact hne (UInt8.toNat_inj.1 (by omega))
      clear hne
      go_wp2
      go_round
      case rel => exact ⟨k + 1, by omega, by go_num⟩
      case measure => simp [intOf]; omega
    · obtain rfl : k = s.size := by omega
      go_wp2
      refine bodyPost_ret (v := .tuple #[.int .i64 0, .int .u64 0, .int .u64 0, .bool false]) (by simp [results, Tryz.results116, go_sem]) rfl ⟨⟨0, 0, 0, false, by omega, by omega, by omega, rfl, (fun h => by cases h), fun _ => HN.out⟩, Below.refl _ _⟩

set_option maxHeartbeats 1000000 in
theorem parts_small (m : UInt8) (hm : Mark m) (s : ByteArray) (A : Nat) (hA : AtM m s A) (he : A < s.size) (h2 : A < 2) (hs : s.size ≤ 100000) (w : World) :
    Calls Tryz.prog 116 #[.string s, .int .u8 m.toNat] w fun e w' => PartsV m s e ∧ Below w.heap.size w w' := by
  have HN : Hid (∀ N K P G : Nat, Okn N K P G → N ≤ 256 → s.data.toList ≠ txt m K P G) := fun N K P G _ _ => no_at_small hm hA he h2 K P G
  have HA := Lib.hid hA
  clear hA
  go_enter Tryz.func116, Tryz.ntmps116
  go_wp2
  go_loop [8] (fun i => ∃ k : Nat, k ≤ A ∧ i = .int .i64 k) (fun i => A - (intOf i).toNat)
  case atStart => exact ⟨0, Nat.zero_le _, rfl⟩
  case round =>
    obtain ⟨k, hk, rfl⟩ := hrel
    by_cases hlt : k < A
    · have hks : k < s.size := by have := HA.out.1; omega
      have hne : s[k] ≠ m := HA.out.2.1 k hks hlt
      have hne1 : (((s[k].toNat : Int)) == (m.toNat : Int)) = false := by rw [beq_eq_false_iff_ne]; intro e; exact hne (UInt8.toNat_inj.1 (by omega))
      clear hne
      go_wp2
      go_round
      case rel => exact ⟨k + 1, by omega, by go_num⟩
      case measure => simp [intOf]; omega
    · obtain rfl : k = A := by omega
      have hme : s[k] = m := HA.out.2.2 he
      have hz : ((k : Int) == (s.size : Int)) = false := beq_eq_false_iff_ne.2 (by omega)
      go_wp2
      refine bodyPost_ret (v := .tuple #[.int .i64 0, .int .u64 0, .int .u64 0, .bool false]) (by simp [results, Tryz.results116, go_sem]) rfl ⟨⟨0, 0, 0, false, by omega, by omega, by omega, rfl, (fun h => by cases h), fun _ => HN.out⟩, Below.refl _ _⟩
end Go.Proofs.YtenggngcigkakaaGreatDoor
