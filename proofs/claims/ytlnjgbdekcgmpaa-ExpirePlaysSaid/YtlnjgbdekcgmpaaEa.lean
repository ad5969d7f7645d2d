/- The contracts of the program's New, valid, When and Len; of cmp.Compare and cmp.Or. -/
import Derived.Test.YtlnjgbdekcgmpaaEk
import Derived.Carry
namespace Go.Proofs.Ytlnjgbdekcgmpaa
open Go.RowKit

/-! ### New -/
theorem new_ok (w : World) : Calls Try.prog 12 #[] w fun e w' => e = .returned (.pointer (some ⟨w.heap.size + 2, 0, none⟩)) ∧ QW w' (w.heap.size + 2) (w.heap.size + 1) w.heap.size (.slice none 0 0) [] ∧ Below w.heap.size w w' := by
  obtain ⟨w3, hw3⟩ : ∃ w3, ((w.alloc (.map #[] 0)).alloc (.cells #[.map (some w.heap.size), .slice none 0 0] 57)).alloc (.cells #[.pointer (some ⟨w.heap.size + 1, 0, none⟩)] 44) = w3 := ⟨_, rfl⟩
  have hB : Below w.heap.size w w3 := by rw [← hw3]; exact (((Below.refl _ w).alloc (Nat.le_refl _) _).alloc (by simp) _).alloc (by simp; omega) _
  have hQ : QW w3 (w.heap.size + 2) (w.heap.size + 1) w.heap.size (.slice none 0 0) [] := by
    have m0 := MapW.new w
    have k0 := Bk.new (w.alloc (.map #[] 0)) 57 #[.map (some w.heap.size), .slice none 0 0]
    rw [World.size_alloc] at k0
    have b0 := Bk.new ((w.alloc (.map #[] 0)).alloc (.cells #[.map (some w.heap.size), .slice none 0 0] 57)) 44 #[.pointer (some ⟨w.heap.size + 1, 0, none⟩)]
    rw [World.size_alloc, World.size_alloc] at b0
    rw [hw3] at b0
    refine ⟨List.Pairwise.nil, List.Pairwise.nil, fun _ h => (by cases h), (by simp), b0, ⟨?_, World.ownsRow_nil _ _ _ _, ?_, fun _ h => (by cases h)⟩⟩
    · exact k0.same (by rw [← hw3]; exact Below.heap_alloc _ _ _ (by simp))
    · exact (m0.same (by rw [← hw3, Below.heap_alloc _ _ _ (by simp; omega), Below.heap_alloc _ _ _ (by simp)])).congr fun _ _ => rfl
  have hmm := @run_makeMap Try.prog
  go_enter Try.func12, Try.ntmps12
  go_wp2
  go_ret
  first
  | exact ⟨rfl, by rw [hw3]; exact hQ, by rw [hw3]; exact hB⟩
  | (refine ⟨?_, ?_, ?_⟩ <;> simp_all)

/-! ### valid -/
theorem valid_no (p : Option Addr) (w : World) (h : Inv w p) : Calls Try.prog 30 #[.pointer p] w fun e w' => e = .returned (.bool false) ∧ w = w' := by
  rcases h with rfl | ⟨b, rfl, h⟩
  · go_enter Try.func30, Try.ntmps30
    go_wp2
    go_ret
    exact ⟨rfl, rfl⟩
  · have hc : w.cell? ⟨b, 0, none⟩ = some (.pointer none) := h.cell 0
    clear h
    go_enter Try.func30, Try.ntmps30
    go_wp2
    go_ret
    exact ⟨rfl, rfl⟩
theorem valid_yes (b k : Nat) (w : World) (hc : w.cell? ⟨b, 0, none⟩ = some (.pointer (some ⟨k, 0, none⟩))) : Calls Try.prog 30 #[.pointer (some ⟨b, 0, none⟩)] w fun e w' => e = .returned (.bool true) ∧ w = w' := by
  go_enter Try.func30, Try.ntmps30
  go_wp2
  go_ret
  exact ⟨rfl, rfl⟩

/-! ### When -/
theorem when_no (p : Option Addr) (i : Int) (w : World) (h : Inv w p) : Calls Try.prog 25 #[.pointer p, .int .i64 i] w fun e w' => e = .returned (.tuple #[.int .i64 0, .bool false]) ∧ w = w' := by
  go_enter Try.func25, Try.ntmps25
  go_wp2_with (go_at_call 30; refine (valid_no _ _ h).mono ?_; rintro e w' ⟨rfl, rfl⟩)
  go_ret2
  exact ⟨rfl, rfl⟩
theorem when_ok (b k m : Nat) (v : Value) (L : List En) (i : Int) (hi : I64 i) (w : World) (h : QW w b k m v L) : Calls Try.prog 25 #[.pointer (some ⟨b, 0, none⟩), .int .i64 i] w fun e w' => e = .returned (.tuple #[.int .i64 ((tm L i).getD 0), .bool (tm L i).isSome]) ∧ w = w' := by
  have hc := h.c
  have h0 := h.line.c0
  have hl := h.line.map.look2 hi
  clear h
  go_enter Try.func25, Try.ntmps25
  go_wp2_with (go_at_call 30; refine (valid_yes _ _ _ hc).mono ?_; rintro e w' ⟨rfl, rfl⟩)
  go_ret2
  exact ⟨rfl, rfl⟩

/-! ### Len -/
theorem len_no (p : Option Addr) (w : World) (h : Inv w p) : Calls Try.prog 27 #[.pointer p] w fun e w' => e = .returned (.int .i64 0) ∧ w = w' := by
  go_enter Try.func27, Try.ntmps27
  go_wp2_with (go_at_call 30; refine (valid_no _ _ h).mono ?_; rintro e w' ⟨rfl, rfl⟩)
  go_ret
  exact ⟨rfl, rfl⟩
theorem len_ok (b k m : Nat) (v : Value) (L : List En) (w : World) (h : QW w b k m v L) : Calls Try.prog 27 #[.pointer (some ⟨b, 0, none⟩)] w fun e w' => e = .returned (.int .i64 L.length) ∧ w = w' := by
  have hc := h.c
  have hlen := h.len
  obtain ⟨a, c, e, h1, h2, _⟩ := h.line.rd.len
  rw [ids_length] at e h1
  have h0 := h.line.c1
  rw [e] at h0
  clear h e
  go_enter Try.func27, Try.ntmps27
  go_wp2_with (go_at_call 30; refine (valid_yes _ _ _ hc).mono ?_; rintro e w' ⟨rfl, rfl⟩)
  go_ret
  exact ⟨rfl, rfl⟩

/-! ### cmp -/
def cmpi (a b : Int) : Int := if a < b then -1 else if b < a then 1 else 0
theorem cmp64_ok (a b : Int) (w : World) :
    Calls Try.prog 49 #[.int .i64 a, .int .i64 b] w fun e w' => e = .returned (.int .i64 (cmpi a b)) ∧ w = w' := by
  have hz : (a != a) = false := by simp
  have hz2 : (b != b) = false := by simp
  rcases Int.lt_trichotomy a b with h | h | h
  · have e : cmpi a b = -1 := by unfold cmpi; rw [if_pos h]
    rw [e]
    go_enter Try.func49, Try.ntmps49
    go_wp2
    go_ret
    exact ⟨rfl, rfl⟩
  · subst h
    have e : cmpi a a = 0 := by unfold cmpi; rw [if_neg (by omega), if_neg (by omega)]
    rw [e]
    go_enter Try.func49, Try.ntmps49
    go_wp2
    go_ret
    exact ⟨rfl, rfl⟩
  · have e : cmpi a b = 1 := by unfold cmpi; rw [if_neg (by omega), if_pos h]
    rw [e]
    go_enter Try.func49, Try.ntmps49
    go_wp2
    go_ret
    exact ⟨rfl, rfl⟩
theorem cmpint_ok (a b : Int) (w : World) :
    Calls Try.prog 50 #[.int .i64 a, .int .i64 b] w fun e w' => e = .returned (.int .i64 (cmpi a b)) ∧ w = w' := by
  have hz : (a != a) = false := by simp
  have hz2 : (b != b) = false := by simp
  rcases Int.lt_trichotomy a b with h | h | h
  · have e : cmpi a b = -1 := by unfold cmpi; rw [if_pos h]
    rw [e]
    go_enter Try.func50, Try.ntmps50
    go_wp2
    go_ret
    exact ⟨rfl, rfl⟩
  · subst h
    have e : cmpi a a = 0 := by unfold cmpi; rw [if_neg (by omega), if_neg (by omega)]
    rw [e]
    go_enter Try.func50, Try.ntmps50
    go_wp2
    go_ret
    exact ⟨rfl, rfl⟩
  · have e : cmpi a b = 1 := by unfold cmpi; rw [if_neg (by omega), if_pos h]
    rw [e]
    go_enter Try.func50, Try.ntmps50
    go_wp2
    go_ret
    exact ⟨rfl, rfl⟩
/-- cmp.Or of two numbers. -/
theorem or_ok (g : Nat) (x y : Int) (w : World) (h0 : w.cell? ⟨g, 0, none⟩ = some (.int .i64 x)) (h1 : w.cell? ⟨g, 1, none⟩ = some (.int .i64 y)) :
    Calls Try.prog 48 #[.slice (some ⟨g, 0, none⟩) 2 2] w fun e w' => e = .returned (.int .i64 (if x ≠ 0 then x else y)) ∧ w = w' := by
  by_cases hx : x = 0
  · subst hx
    by_cases hy : y = 0
    · subst hy
      go_enter Try.func48, Try.ntmps48
      go_wp2
      refine wp_loop_rounds 3 ?_
      rw [rounds_succ]; go_wp2
      rw [rounds_succ]; go_wp2
      rw [rounds_succ]; go_wp2
      go_ret
      exact ⟨rfl, rfl⟩
    · have hy2 : (y != 0) = true := by simpa using hy
      go_enter Try.func48, Try.ntmps48
      go_wp2
      refine wp_loop_rounds 3 ?_
      rw [rounds_succ]; go_wp2
      rw [rounds_succ]; go_wp2
      go_ret
      exact ⟨rfl, rfl⟩
  · have hx2 : (x != 0) = true := by simpa using hx
    have e : (if x ≠ 0 then x else y) = x := if_pos hx
    rw [e]
    clear e
    go_enter Try.func48, Try.ntmps48
    go_wp2
    refine wp_loop_rounds 3 ?_
    rw [rounds_succ]; go_wp2
    go_ret
    exact ⟨rfl, rfl⟩
end Go.Proofs.Ytlnjgbdekcgmpaa
