/- The contracts of the document's small functions on tables: valid, Check, Give, Gen, count, Same; of estrayref01's Check and Next. -/
import Derived.Test.YtfemfgpciogbeaaYv
namespace Go.Proofs.Ytfemfgpciogbeaa
open Go.RowKit

theorem rone_ok (g : Int) (w : World) (h1 : 1 ≤ g) : Calls Try.prog 63 #[.int .u32 g] w fun e w' => e = .returned (.int .i64 0) ∧ w = w' := by
  have hz : (g == 0) = false := by rw [beq_eq_false_iff_ne]; omega
  go_enter Try.func63, Try.ntmps63
  go_wp2
  go_ret
  exact ⟨rfl, rfl⟩
theorem rone_zero (w : World) : Calls Try.prog 63 #[.int .u32 0] w fun e w' => e = .returned (.int .i64 2) ∧ w = w' := by
  go_enter Try.func63, Try.ntmps63
  go_wp2
  go_ret
  exact ⟨rfl, rfl⟩
theorem rnext_last (w : World) : Calls Try.prog 73 #[.int .u32 4294967295] w fun e w' => e = .returned (.tuple #[.int .u32 0, .bool false, .int .i64 0]) ∧ w = w' := by
  go_enter Try.func73, Try.ntmps73
  go_wp2
  go_ret3
  exact ⟨rfl, rfl⟩
theorem rnext_yes (g : Int) (w : World) (h1 : 1 ≤ g) (h2 : g < 4294967295) : Calls Try.prog 73 #[.int .u32 g] w fun e w' => e = .returned (.tuple #[.int .u32 (g + 1), .bool true, .int .i64 0]) ∧ w = w' := by
  have hz : (g == 0) = false := by rw [beq_eq_false_iff_ne]; omega
  have hm : (g == 4294967295) = false := by rw [beq_eq_false_iff_ne]; omega
  go_enter Try.func73, Try.ntmps73
  go_wp2
  go_ret3
  exact ⟨rfl, rfl⟩

theorem rvalid_nil (w : World) : Calls Try.prog 66 #[.pointer none] w fun e w' => e = .returned (.bool false) ∧ w = w' := by
  go_enter Try.func66, Try.ntmps66
  go_wp2
  go_ret
  exact ⟨rfl, rfl⟩
theorem rvalid_yes (b d : Nat) (T : Tb) (w : World) (h : RefW w b d T) : Calls Try.prog 66 #[.pointer (some ⟨b, 0, none⟩)] w fun e w' => e = .returned (.bool true) ∧ w = w' := by
  obtain ⟨cap, hc, _, _⟩ := h.c0
  have hn : 0 < T.n := h.ok.lo
  clear h
  go_enter Try.func66, Try.ntmps66
  go_wp2
  go_ret
  exact ⟨rfl, rfl⟩

/-! ### Check -/
theorem rchk_nil (i g : Int) (w : World) : Calls Try.prog 70 #[.pointer none, .agg #[.int .i64 i, .int .u32 g]] w fun e w' => e = .returned (.int .i64 1) ∧ Below w.heap.size w w' := by
  go_enter Try.func70, Try.ntmps70
  go_wp2_with (go_at_call 66; refine (rvalid_nil _).mono ?_; rintro e w' ⟨rfl, rfl⟩)
  go_ret
  exact ⟨rfl, (Below.refl _ w).alloc (Nat.le_refl _) _⟩
set_option maxHeartbeats 1000000 in
theorem rchk_any (b d : Nat) (T : Tb) (i g : Int) (w : World) (h : RefW w b d T) : Calls Try.prog 70 #[.pointer (some ⟨b, 0, none⟩), .agg #[.int .i64 i, .int .u32 g]] w fun e w' => e = .returned (.int .i64 (T.chk i g)) ∧ Below w.heap.size w w' := by
  have HW := Lib.hid (h.below ((Below.refl _ w).alloc (Nat.le_refl _) (.cells #[.int .i64 i, .int .u32 g] 86)))
  obtain ⟨cap, hc, hcap, hcm⟩ := h.c0
  have hn := h.ok.hi
  have hbt := h.ct
  have hdt := h.dt
  rcases chk_cases T i g with ⟨h1, h2⟩ | ⟨k, rfl, h1, h3, h2⟩ | ⟨k, rfl, h1, h3, h4, h2⟩
  · rw [h2]
    clear h h2
    by_cases h0 : i < 0
    all_goals
      first | have h5 : (T.n : Int) ≤ i := by omega | skip
      clear h1
      go_enter Try.func70, Try.ntmps70
      go_wp2_with (go_at_call 66; refine (rvalid_yes _ _ _ _ HW.out).mono ?_; rintro e w' ⟨rfl, rfl⟩)
      go_quiet (fail)
      go_wp2
      go_ret
      exact ⟨rfl, bel_drewN ((Below.refl _ w).alloc (Nat.le_refl _) _) _⟩
  · rw [h2]
    have hcs := h.cs h1
    have hcg := h.cg h1
    clear h h2
    generalize T.s k = x at *
    generalize T.g k = y at *
    by_cases hx : x = 1
    · have hy := h3 hx
      subst hx
      have hy2 : ((y : Int) != g) = true := by simpa using hy
      clear h3 hy
      go_enter Try.func70, Try.ntmps70
      go_wp2_with (go_at_call 66; refine (rvalid_yes _ _ _ _ HW.out).mono ?_; rintro e w' ⟨rfl, rfl⟩)
      go_quiet (fail)
      go_wp2
      go_quiet (fail)
      go_wp2
      go_ret
      exact ⟨rfl, bel_drewN (bel_drewN ((Below.refl _ w).alloc (Nat.le_refl _) _) _) _⟩
    · have hx2 : ((x : Int) != 1) = true := by simp; omega
      clear h3 hx
      go_enter Try.func70, Try.ntmps70
      go_wp2_with (go_at_call 66; refine (rvalid_yes _ _ _ _ HW.out).mono ?_; rintro e w' ⟨rfl, rfl⟩)
      go_quiet (fail)
      go_wp2
      go_quiet (fail)
      go_wp2
      go_ret
      exact ⟨rfl, bel_drewN (bel_drewN ((Below.refl _ w).alloc (Nat.le_refl _) _) _) _⟩
  · rw [h2]
    have hcs := h.cs h1
    have hcg := h.cg h1
    rw [h3] at hcs
    rw [h4] at hcg
    have hy2 : (g != g) = false := by simp
    clear h h2 h3 h4
    go_enter Try.func70, Try.ntmps70
    go_wp2_with (go_at_call 66; refine (rvalid_yes _ _ _ _ HW.out).mono ?_; rintro e w' ⟨rfl, rfl⟩)
    go_quiet (fail)
    go_wp2
    go_quiet (fail)
    go_wp2
    go_ret
    exact ⟨rfl, bel_drewN (bel_drewN ((Below.refl _ w).alloc (Nat.le_refl _) _) _) _⟩

/-! ### Gen -/

/-! ### count -/

/-! ### Same -/
end Go.Proofs.Ytfemfgpciogbeaa
