/- The contracts of small functions of the outer world's: valid, isSpan, table. -/
import Derived.Test.YtpinmiplefidpaaGreatDoorOk
namespace Go.Proofs.YtpinmiplefidpaaGreatDoor
open Go.RowKit

theorem wvalid_no (p : Option Addr) (w : World) (h : WInv w p) : Calls Tryz.prog 62 #[.pointer p] w fun e w' => e = .returned (.bool false) ∧ w = w' := by
  rcases h with rfl | ⟨b, rfl, h⟩
  · go_enter Tryz.func62, Tryz.ntmps62
    go_wp2
    go_ret
    exact ⟨rfl, rfl⟩
  · have hc : w.cell? ⟨b, 0, none⟩ = some (.pointer none) := h.cell 0
    clear h
    go_enter Tryz.func62, Tryz.ntmps62
    go_wp2
    go_ret
    exact ⟨rfl, rfl⟩
theorem wvalid_yes (b k : Nat) (w : World) (hc : w.cell? ⟨b, 0, none⟩ = some (ptr k)) : Calls Tryz.prog 62 #[ptr b] w fun e w' => e = .returned (.bool true) ∧ w = w' := by
  unfold ptr at *
  go_enter Tryz.func62, Tryz.ntmps62
  go_wp2
  go_ret
  exact ⟨rfl, rfl⟩
theorem wspan_is (x : Int) (b : Bool) (w : World) (h : decide (LS.IsSpan x) = b) : Calls Tryz.prog 78 #[.int .i64 x] w fun e w' => e = .returned (.bool b) ∧ w = w' := by
  by_cases h0 : 1 ≤ x ∧ x ≤ 1048576
  · obtain rfl : b = true := by rw [← h]; exact decide_eq_true h0
    obtain ⟨h1, h2⟩ := h0
    clear h
    go_enter Tryz.func78, Tryz.ntmps78
    go_wp2
    go_ret
    exact ⟨rfl, rfl⟩
  · obtain rfl : b = false := by rw [← h]; exact decide_eq_false h0
    by_cases h1 : x < 1
    · clear h h0
      go_enter Tryz.func78, Tryz.ntmps78
      go_wp2
      go_ret
      exact ⟨rfl, rfl⟩
    · have h2 : 1048576 < x := by omega
      have h3 : 1 ≤ x := by omega
      clear h h1 h0
      go_enter Tryz.func78, Tryz.ntmps78
      go_wp2
      go_ret
      exact ⟨by simp; omega, rfl⟩
/-- The table of a kind. -/
def tabV (A : Ad) (k : Int) : Value := if k = 1 then vF A.f else if k = 2 then vP A.q else if k = 3 then vD A.d else .nilIface
theorem wtable_ok (p : Nat) (A : Ad) (k : Int) (v : Value) (w : World) (hp : A.p = p) (h0 : w.cell? ⟨A.p, 0, none⟩ = some (vF A.f)) (h1 : w.cell? ⟨A.p, 1, none⟩ = some (vP A.q)) (h2 : w.cell? ⟨A.p, 2, none⟩ = some (vD A.d)) (hv : tabV A k = v) : Calls Tryz.prog 63 #[ptr p, .int .i64 k] w fun e w' => e = .returned v ∧ w = w' := by
  subst hp
  unfold ptr vF vP vD tabV at *
  generalize A.p = p at *
  by_cases k1 : k = 1
  · subst k1
    rw [if_pos rfl] at hv
    go_enter Tryz.func63, Tryz.ntmps63
    go_wp2
    go_ret
    exact ⟨by rw [← hv]; rfl, rfl⟩
  by_cases k2 : k = 2
  · subst k2
    rw [if_neg (by omega), if_pos rfl] at hv
    go_enter Tryz.func63, Tryz.ntmps63
    go_wp2
    go_ret
    exact ⟨by rw [← hv]; rfl, rfl⟩
  by_cases k3 : k = 3
  · subst k3
    rw [if_neg (by omega), if_neg (by omega), if_pos rfl] at hv
    go_enter Tryz.func63, Tryz.ntmps63
    go_wp2
    go_ret
    exact ⟨by rw [← hv]; rfl, rfl⟩
  rw [if_neg k1, if_neg k2, if_neg k3] at hv
  subst hv
  by_cases k4 : k < 1
  · clear k1 k2 k3
    go_enter Tryz.func63, Tryz.ntmps63
    go_wp2
    go_ret
    exact ⟨rfl, rfl⟩
  · have k5 : 3 < k := by omega
    clear k1 k2 k3
    go_enter Tryz.func63, Tryz.ntmps63
    go_wp2
    go_ret
    exact ⟨rfl, rfl⟩
/-! ### which function a method of a table is (375: the fuel that the walk shows) -/
theorem mF_all (b : Nat) (w : World) : (method 375 94 (.agg #[.pointer (some ⟨b, 0, none⟩)]) "All").run Tryz.prog w = .ok (166, .pointer (some ⟨b, 0, none⟩)) w := by kernel_rfl
theorem mF_acquire (b : Nat) (w : World) : (method 375 94 (.agg #[.pointer (some ⟨b, 0, none⟩)]) "estray/outer.acquire").run Tryz.prog w = .ok (182, .agg #[.pointer (some ⟨b, 0, none⟩)]) w := by kernel_rfl
theorem mF_giving (b : Nat) (w : World) : (method 375 94 (.agg #[.pointer (some ⟨b, 0, none⟩)]) "estray/outer.giving").run Tryz.prog w = .ok (183, .agg #[.pointer (some ⟨b, 0, none⟩)]) w := by kernel_rfl
theorem mF_twin (b : Nat) (w : World) : (method 375 94 (.agg #[.pointer (some ⟨b, 0, none⟩)]) "estray/outer.twin").run Tryz.prog w = .ok (184, .agg #[.pointer (some ⟨b, 0, none⟩)]) w := by kernel_rfl
theorem mP_all (b : Nat) (w : World) : (method 375 96 (.agg #[.pointer (some ⟨b, 0, none⟩)]) "All").run Tryz.prog w = .ok (173, .pointer (some ⟨b, 0, none⟩)) w := by kernel_rfl
theorem mP_acquire (b : Nat) (w : World) : (method 375 96 (.agg #[.pointer (some ⟨b, 0, none⟩)]) "estray/outer.acquire").run Tryz.prog w = .ok (200, .agg #[.pointer (some ⟨b, 0, none⟩)]) w := by kernel_rfl
theorem mP_giving (b : Nat) (w : World) : (method 375 96 (.agg #[.pointer (some ⟨b, 0, none⟩)]) "estray/outer.giving").run Tryz.prog w = .ok (201, .agg #[.pointer (some ⟨b, 0, none⟩)]) w := by kernel_rfl
theorem mP_twin (b : Nat) (w : World) : (method 375 96 (.agg #[.pointer (some ⟨b, 0, none⟩)]) "estray/outer.twin").run Tryz.prog w = .ok (202, .agg #[.pointer (some ⟨b, 0, none⟩)]) w := by kernel_rfl
theorem mD_all (b : Nat) (w : World) : (method 375 98 (.agg #[.pointer (some ⟨b, 0, none⟩)]) "All").run Tryz.prog w = .ok (179, .pointer (some ⟨b, 0, none⟩)) w := by kernel_rfl
theorem mD_acquire (b : Nat) (w : World) : (method 375 98 (.agg #[.pointer (some ⟨b, 0, none⟩)]) "estray/outer.acquire").run Tryz.prog w = .ok (208, .agg #[.pointer (some ⟨b, 0, none⟩)]) w := by kernel_rfl
theorem mD_giving (b : Nat) (w : World) : (method 375 98 (.agg #[.pointer (some ⟨b, 0, none⟩)]) "estray/outer.giving").run Tryz.prog w = .ok (209, .agg #[.pointer (some ⟨b, 0, none⟩)]) w := by kernel_rfl
theorem mD_twin (b : Nat) (w : World) : (method 375 98 (.agg #[.pointer (some ⟨b, 0, none⟩)]) "estray/outer.twin").run Tryz.prog w = .ok (210, .agg #[.pointer (some ⟨b, 0, none⟩)]) w := by kernel_rfl
end Go.Proofs.YtpinmiplefidpaaGreatDoor
