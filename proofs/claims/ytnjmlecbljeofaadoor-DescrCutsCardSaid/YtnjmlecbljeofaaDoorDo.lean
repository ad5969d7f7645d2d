/- The contracts of Order, the program's and the document's. -/
import Derived.Test.YtnjmlecbljeofaaDoorDs
import Derived.Laws.ResultCell
namespace Go.Proofs.YtnjmlecbljeofaaDoor
open Go.RowKit

/-- The order of two names in numbers. -/
def ord (k p g k' p' g' : Int) : Int := if k < k' then -1 else if k' < k then 1 else if p < p' then -1 else if p' < p then 1 else if g < g' then -1 else if g' < g then 1 else 0
def cmpi (a b : Int) : Int := if a < b then -1 else if b < a then 1 else 0

set_option maxHeartbeats 400000 in
theorem cmp_ok (a b : Int) (_ha : -9223372036854775808 ≤ a) (_ha' : a ≤ 9223372036854775807) (hb : -9223372036854775808 ≤ b) (hb' : b ≤ 9223372036854775807) (w : World) :
    Calls Tryd.prog 51 #[.int .i64 a, .int .i64 b] w fun e w' => e = .returned (.int .i64 (cmpi a b)) ∧ w = w' := by
  have hz : (a != a) = false := by simp
  have hz2 : (b != b) = false := by simp
  rcases Int.lt_trichotomy a b with h | h | h
  · have e : cmpi a b = -1 := by unfold cmpi; rw [if_pos h]
    rw [e]
    go_enter Tryd.func51, Tryd.ntmps51
    go_wp2
    go_ret
    exact ⟨rfl, rfl⟩
  · subst h
    have e : cmpi a a = 0 := by unfold cmpi; rw [if_neg (by omega), if_neg (by omega)]
    rw [e]
    go_enter Tryd.func51, Tryd.ntmps51
    go_wp2
    go_ret
    exact ⟨rfl, rfl⟩
  · have e : cmpi a b = 1 := by unfold cmpi; rw [if_neg (by omega), if_pos h]
    rw [e]
    go_enter Tryd.func51, Tryd.ntmps51
    go_wp2
    go_ret
    exact ⟨rfl, rfl⟩

/-- The three numbers of a name in an array. -/
def A3 (w : World) (b : Nat) (x : Nat → Int) : Prop := ∀ j, j < 3 → w.cell? ⟨b, j, none⟩ = some (.int .i64 (x j))
/-- The order by the first j numbers. -/
def cmps (x y : Nat → Int) : Int := if cmpi (x 0) (y 0) ≠ 0 then cmpi (x 0) (y 0) else if cmpi (x 1) (y 1) ≠ 0 then cmpi (x 1) (y 1) else cmpi (x 2) (y 2)

set_option maxHeartbeats 1000000 in
theorem scmp_ok (a b : Nat) (x y : Nat → Int) (hx : ∀ j, -9223372036854775808 ≤ x j ∧ x j ≤ 9223372036854775807) (hy : ∀ j, -9223372036854775808 ≤ y j ∧ y j ≤ 9223372036854775807) (w : World) (h1 : A3 w a x) (h2 : A3 w b y) :
    Calls Tryd.prog 44 #[.slice (some ⟨a, 0, none⟩) 3 3, .slice (some ⟨b, 0, none⟩) 3 3] w fun e w' => e = .returned (.int .i64 (cmps x y)) ∧ w = w' := by
  have HX := Lib.hid hx
  have HY := Lib.hid hy
  have a0 := h1 0 (by omega)
  have a1 := h1 1 (by omega)
  have a2 := h1 2 (by omega)
  have b0 := h2 0 (by omega)
  have b1 := h2 1 (by omega)
  have b2 := h2 2 (by omega)
  clear hx hy h1 h2
  have d0 := HX.out 0
  have d1 := HX.out 1
  have d2 := HX.out 2
  have e0 := HY.out 0
  have e1 := HY.out 1
  have e2 := HY.out 2
  unfold cmps
  generalize x 0 = x0 at *
  generalize x 1 = x1 at *
  generalize x 2 = x2 at *
  generalize y 0 = y0 at *
  generalize y 1 = y1 at *
  generalize y 2 = y2 at *
  have call (a b : Int) (ha : -9223372036854775808 ≤ a ∧ a ≤ 9223372036854775807) (hb : -9223372036854775808 ≤ b ∧ b ≤ 9223372036854775807) (W : World) := cmp_ok a b ha.1 ha.2 hb.1 hb.2 W
  by_cases c0 : cmpi x0 y0 = 0
  · by_cases c1 : cmpi x1 y1 = 0
    · rw [if_neg (by simp [c0]), if_neg (by simp [c1])]
      by_cases c2 : cmpi x2 y2 = 0
      · rw [c2]
        go_enter Tryd.func44, Tryd.ntmps44
        go_wp2
        refine wp_loop_rounds 4 ?_
        rw [rounds_succ]
        go_wp2_with (go_at_call 51; refine (call x0 y0 d0 e0 _).mono ?_; rintro e w' ⟨rfl, rfl⟩; rw [c0])
        rw [rounds_succ]
        go_wp2_with (go_at_call 51; refine (call x1 y1 d1 e1 _).mono ?_; rintro e w' ⟨rfl, rfl⟩; rw [c1])
        rw [rounds_succ]
        go_wp2_with (go_at_call 51; refine (call x2 y2 d2 e2 _).mono ?_; rintro e w' ⟨rfl, rfl⟩; rw [c2])
        rw [rounds_succ]
        go_wp2
        go_ret
        exact ⟨rfl, rfl⟩
      · have q2 : (cmpi x2 y2 == 0) = false := beq_eq_false_iff_ne.2 c2
        go_enter Tryd.func44, Tryd.ntmps44
        go_wp2
        refine wp_loop_rounds 4 ?_
        rw [rounds_succ]
        go_wp2_with (go_at_call 51; refine (call x0 y0 d0 e0 _).mono ?_; rintro e w' ⟨rfl, rfl⟩; rw [c0])
        rw [rounds_succ]
        go_wp2_with (go_at_call 51; refine (call x1 y1 d1 e1 _).mono ?_; rintro e w' ⟨rfl, rfl⟩; rw [c1])
        rw [rounds_succ]
        go_wp2_with (go_at_call 51; refine (call x2 y2 d2 e2 _).mono ?_; rintro e w' ⟨rfl, rfl⟩)
        go_ret
        exact ⟨rfl, rfl⟩
    · have q1 : (cmpi x1 y1 == 0) = false := beq_eq_false_iff_ne.2 c1
      rw [if_neg (by simp [c0]), if_pos c1]
      go_enter Tryd.func44, Tryd.ntmps44
      go_wp2
      refine wp_loop_rounds 4 ?_
      rw [rounds_succ]
      go_wp2_with (go_at_call 51; refine (call x0 y0 d0 e0 _).mono ?_; rintro e w' ⟨rfl, rfl⟩; rw [c0])
      rw [rounds_succ]
      go_wp2_with (go_at_call 51; refine (call x1 y1 d1 e1 _).mono ?_; rintro e w' ⟨rfl, rfl⟩)
      go_ret
      exact ⟨rfl, rfl⟩
  · have q0 : (cmpi x0 y0 == 0) = false := beq_eq_false_iff_ne.2 c0
    rw [if_pos c0]
    go_enter Tryd.func44, Tryd.ntmps44
    go_wp2
    refine wp_loop_rounds 4 ?_
    rw [rounds_succ]
    go_wp2_with (go_at_call 51; refine (call x0 y0 d0 e0 _).mono ?_; rintro e w' ⟨rfl, rfl⟩)
    go_ret
    exact ⟨rfl, rfl⟩
end Go.Proofs.YtnjmlecbljeofaaDoor
