/- The eight wrong lines as the law makes them; what Parse says of a text that holds one, and of a text without its last line feed. -/
import Derived.Test.YtenggngcigkakaaGreatDoorHw
import Derived.Test.YtenggngcigkakaaGreatDoorJl
namespace Go.Proofs.YtenggngcigkakaaGreatDoor
open Go.RowKit

theorem join_plain : ∀ xs : List (List UInt8), Lib.join xs [] = xs.flatten
  | [] => rfl
  | x :: r => by rw [Lib.join_cons]; simp [Lib.joinTail]
theorem trim_line (x : List UInt8) : Lib.trimSuffix (x ++ [10]) [10] = x := by
  unfold Lib.trimSuffix
  rw [if_pos (by simp [Lib.hasSuffix])]
  simp
/-- What stands behind an attempt's first blank. -/
def aRest (a : Att) : List UInt8 := txt 58 a.k.toNat a.i.toNat a.g.toNat ++ 32 :: (whyW a.y ++ 32 :: ansW a.n)
theorem aText_rest (a : Att) : aText a = Lib.decDigits a.t.toNat ++ 32 :: aRest a := rfl
theorem repl_line (a : Att) : Lib.replace (aText a) [32] [32, 32] 1 = Lib.decDigits a.t.toNat ++ 32 :: 32 :: aRest a := by
  have h1 := dig_ne (m := 32) (by decide) a.t.toNat
  have hc : Lib.count (aText a) [32] = 3 := (line_words a).1
  have hi : Lib.index (aText a) [32] = ((Lib.decDigits a.t.toNat).length : Int) := index_mark (m := 32) (Lib.decDigits a.t.toNat) (aRest a) h1
  have hn : Lib.replaceNum (aText a) [32] 1 = 1 := by unfold Lib.replaceNum; rw [hc]; decide
  unfold Lib.replace
  rw [if_neg (by decide), hn, show (1 : Nat) = 0 + 1 from rfl, Lib.replaceK_hit _ _ _ _ _ hi, aText_rest]
  have e1 : (Lib.decDigits a.t.toNat ++ 32 :: aRest a).take (Lib.decDigits a.t.toNat).length = Lib.decDigits a.t.toNat := List.take_left
  have e2 : (Lib.decDigits a.t.toNat ++ 32 :: aRest a).drop ((Lib.decDigits a.t.toNat).length + ([32] : List UInt8).length) = aRest a := by
    rw [← List.drop_drop, List.drop_left]; rfl
  rw [e1, e2]
  simp [Lib.replaceK]
theorem aText_ascii (a : Att) : ∀ b ∈ aText a, b.toNat < 128 := by
  intro x hx
  unfold aText at hx
  rw [List.mem_append, List.mem_cons, List.mem_append, List.mem_cons, List.mem_append, List.mem_cons] at hx
  rcases hx with hx | rfl | hx | rfl | hx | rfl | hx
  · have := digits_mem _ _ hx; omega
  · decide
  · rcases txt_mem hx with h | h | h | h | h
    · omega
    · omega
    · omega
    · rw [h]; decide
    · omega
  · decide
  · have := whyW_mem hx; omega
  · decide
  · have := ansW_mem hx; omega
set_option maxRecDepth 100000 in
theorem upperB_ne {b : UInt8} (h : b ≠ 10) : Lib.upperB b ≠ 10 := by
  intro e
  cases hb : Lib.isLowerB b with
  | false => rw [Lib.upperB_of_not b hb] at e; exact h e
  | true =>
    have h2 : ∀ i : Fin 256, Lib.isLowerB (UInt8.ofNat i.val) = true → Lib.upperB (UInt8.ofNat i.val) ≠ 10 := by decide
    have h3 := h2 ⟨b.toNat, b.toNat_lt⟩
    rw [show UInt8.ofNat b.toNat = b by simp] at h3
    exact h3 hb e
/-- The wrong line. -/
def wrongL (q : Nat) (a : Att) : List UInt8 := match q with
  | 0 => 48 :: aText a
  | 1 => aText a ++ [32]
  | 2 => 32 :: aText a
  | 3 => Lib.decDigits a.t.toNat ++ 32 :: 32 :: aRest a
  | 4 => Lib.toUpperA (aText a)
  | 5 => []
  | 6 => aText a ++ [13]
  | _ => 120 :: aText a
theorem wrongL_ne (q : Nat) (a c : Att) : wrongL q a ≠ aText c := by
  unfold wrongL
  split
  · exact wrong_zero a c
  · exact wrong_behind (by decide) _ c
  · exact wrong_ahead (by decide) _ c
  · exact wrong_twice _ _ c
  · obtain ⟨l, d, e, hd⟩ := aText_last a
    rw [Lib.toUpperA, e, List.map_append, List.map_cons, List.map_nil]
    refine wrong_behind ?_ _ c
    rcases hd with rfl | rfl | rfl <;> decide
  · exact wrong_empty c
  · exact wrong_behind (by decide) _ c
  · exact wrong_ahead (by decide) _ c
theorem aRest_ne (a : Att) : ∀ x ∈ aRest a, x ≠ 10 := fun x hx => aText_ne (by decide) a x (by rw [aText_rest]; simp [hx])
theorem wrongL_no (q : Nat) (a : Att) : ∀ x ∈ wrongL q a, x ≠ 10 := by
  have h := aText_ne (m := 10) (by decide) a
  unfold wrongL
  intro x hx
  split at hx
  · rcases List.mem_cons.1 hx with rfl | hx
    · decide
    · exact h x hx
  · rcases List.mem_append.1 hx with hx | hx
    · exact h x hx
    · rw [List.mem_singleton.1 hx]; decide
  · rcases List.mem_cons.1 hx with rfl | hx
    · decide
    · exact h x hx
  · rcases List.mem_append.1 hx with hx | hx
    · exact dig_ne (by decide) _ x hx
    · rcases List.mem_cons.1 hx with rfl | hx
      · decide
      · rcases List.mem_cons.1 hx with rfl | hx
        · decide
        · exact aRest_ne a x hx
  · obtain ⟨y, hy, rfl⟩ := List.mem_map.1 hx
    exact upperB_ne (h y hy)
  · cases hx
  · rcases List.mem_append.1 hx with hx | hx
    · exact h x hx
    · rw [List.mem_singleton.1 hx]; decide
  · rcases List.mem_cons.1 hx with rfl | hx
    · decide
    · exact h x hx
theorem wrongL_len (q : Nat) (a : Att) : (wrongL q a).length ≤ (aText a).length + 1 := by
  unfold wrongL
  split <;> simp [Lib.toUpperA, aText_rest] <;> omega

/-! ### Parse -/
theorem parse_wrong {L : List Att} (hL : AllOk L) {k : Nat} (hk : k < L.length) (q : Nat) (hl : (lines L).length ≤ 65535) (w : World) (he : EnvL w) :
    Calls Tryz.prog 37 #[.string (bstr (lines (L.take k) ++ (wrongL q L[k] ++ 10 :: lines (L.drop (k + 1)))))] w fun e w' =>
      e = .returned (.tuple #[.slice none 0 0, .int .i64 ((k : Int) + 1), .int .i64 9]) ∧ Below w.heap.size w w' := by
  have hp := prel_wrong hL (k := k) (wrongL_no q L[k]) (wrongL_ne q L[k])
  have hlen : (lines (L.take k) ++ (wrongL q L[k] ++ 10 :: lines (L.drop (k + 1)))).length ≤ 65536 := by
    have h1 := wrongL_len q L[k]
    rw [lines_parted L hk] at hl
    simp only [List.length_append, List.length_cons] at hl ⊢
    omega
  refine (lparse_ok _ hlen w he).mono ?_
  rintro e w' ⟨ys, r, hq, hb, h | h⟩
  · have := (hq.uniq hp).2
    rw [h.1] at this
    exact absurd this.symm (by simp)
  · refine ⟨?_, hb⟩
    rw [h.2, (hq.uniq hp).1, List.length_take, Nat.min_eq_left (Nat.le_of_lt hk)]
theorem parse_cut {L : List Att} (hL : AllOk L) {k : Nat} (hk : k + 1 = L.length) (hl : (lines L).length ≤ 65535) (w : World) (he : EnvL w) :
    Calls Tryz.prog 37 #[.string (bstr (lines (L.take k) ++ aText (L[k]'(by omega))))] w fun e w' =>
      e = .returned (.tuple #[.slice none 0 0, .int .i64 ((k : Int) + 1), .int .i64 9]) ∧ Below w.heap.size w w' := by
  have hk' : k < L.length := by omega
  have hp := prel_cut hL hk'
  have hlen : (lines (L.take k) ++ aText L[k]).length ≤ 65536 := by
    rw [lines_parted L hk'] at hl
    simp only [List.length_append, List.length_cons] at hl ⊢
    omega
  refine (lparse_ok _ hlen w he).mono ?_
  rintro e w' ⟨ys, r, hq, hb, h | h⟩
  · have := (hq.uniq hp).2
    rw [h.1] at this
    exact absurd this (wrong_empty _)
  · refine ⟨?_, hb⟩
    rw [h.2, (hq.uniq hp).1, List.length_take, Nat.min_eq_left (Nat.le_of_lt hk')]
end Go.Proofs.YtenggngcigkakaaGreatDoor
