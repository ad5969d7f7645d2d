/- The contracts of colour's valid, check, change, turn, Shade, Blacken, Born, Bleach and Of. -/
import Derived.Test.YthcpmcdgojgdlaaCk
import Derived.IntWalk
namespace Go.Proofs.Ythcpmcdgojgdlaa
open Go.RowKit

theorem valid_nil (w : World) : Calls Try.prog 35 #[.pointer none] w fun e w' => e = .returned (.bool false) ∧ w = w' := by
  go_enter Try.func35, Try.ntmps35
  go_wp2
  go_ret
  exact ⟨rfl, rfl⟩
theorem valid_zero (b : Nat) (w : World) (h : Bk w b 42 (pcells zeroP)) : Calls Try.prog 35 #[.pointer (some ⟨b, 0, none⟩)] w fun e w' => e = .returned (.bool false) ∧ w = w' := by
  have hc : w.cell? ⟨b, 0, none⟩ = some (.int .i64 0) := by rw [h.cell, pcells_at _ (by omega)]; rfl
  clear h
  go_enter Try.func35, Try.ntmps35
  go_wp2
  go_ret
  exact ⟨rfl, rfl⟩
theorem valid_yes (b : Nat) (P : Pt) (w : World) (h : PaW w b P) : Calls Try.prog 35 #[.pointer (some ⟨b, 0, none⟩)] w fun e w' => e = .returned (.bool true) ∧ w = w' := by
  have hc := h.c0
  have hn : 0 < P.n := h.ok.lo
  clear h
  go_enter Try.func35, Try.ntmps35
  go_wp2
  go_ret
  exact ⟨rfl, rfl⟩
theorem valid_no (v : Option Addr) (w : World) (h : Inv w v) : Calls Try.prog 35 #[.pointer v] w fun e w' => e = .returned (.bool false) ∧ w = w' := by
  rcases h with rfl | ⟨b, rfl, h⟩
  · exact valid_nil w
  · exact valid_zero b w h

/-! ### check -/
theorem check_inv (v : Option Addr) (i : Int) (w : World) (h : Inv w v) : Calls Try.prog 39 #[.pointer v, .int .i64 i] w fun e w' => e = .returned (.int .i64 1) ∧ w = w' := by
  have H := Lib.hid h
  clear h
  go_enter Try.func39, Try.ntmps39
  go_wp2_with (go_at_call 35; refine (valid_no _ _ H.out).mono ?_; rintro e w' ⟨rfl, rfl⟩)
  go_ret
  exact ⟨rfl, rfl⟩
theorem check_out (b : Nat) (P : Pt) (i : Int) (w : World) (h : PaW w b P) (hi : i < 0 ∨ (P.n : Int) ≤ i) : Calls Try.prog 39 #[.pointer (some ⟨b, 0, none⟩), .int .i64 i] w fun e w' => e = .returned (.int .i64 3) ∧ w = w' := by
  have H := Lib.hid h
  have hc := h.c0
  clear h
  by_cases h0 : i < 0
  all_goals
    first | have h1 : (P.n : Int) ≤ i := by omega | skip
    clear hi
    go_enter Try.func39, Try.ntmps39
    go_wp2_with (go_at_call 35; refine (valid_yes _ _ _ H.out).mono ?_; rintro e w' ⟨rfl, rfl⟩)
    go_ret
    exact ⟨rfl, rfl⟩
theorem check_in (b : Nat) (P : Pt) (k : Nat) (w : World) (h : PaW w b P) (hk : k < P.n) : Calls Try.prog 39 #[.pointer (some ⟨b, 0, none⟩), .int .i64 k] w fun e w' => e = .returned (.int .i64 0) ∧ w = w' := by
  have H := Lib.hid h
  have hc := h.c0
  have hn := h.ok.hi
  clear h
  go_enter Try.func39, Try.ntmps39
  go_wp2_with (go_at_call 35; refine (valid_yes _ _ _ H.out).mono ?_; rintro e w' ⟨rfl, rfl⟩)
  go_ret
  exact ⟨rfl, rfl⟩

/-! ### Of -/
theorem of_inv (v : Option Addr) (i : Int) (w : World) (h : Inv w v) : Calls Try.prog 25 #[.pointer v, .int .i64 i] w fun e w' => e = .returned (.tuple #[.int .i64 0, .int .i64 1]) ∧ w = w' := by
  have H := Lib.hid h
  clear h
  go_enter Try.func25, Try.ntmps25
  go_wp2_with (go_at_call 39; refine (check_inv _ _ _ H.out).mono ?_; rintro e w' ⟨rfl, rfl⟩)
  go_ret2
  exact ⟨rfl, rfl⟩
theorem of_out (b : Nat) (P : Pt) (i : Int) (w : World) (h : PaW w b P) (hi : i < 0 ∨ (P.n : Int) ≤ i) : Calls Try.prog 25 #[.pointer (some ⟨b, 0, none⟩), .int .i64 i] w fun e w' => e = .returned (.tuple #[.int .i64 0, .int .i64 3]) ∧ w = w' := by
  have H := Lib.hid (And.intro h hi)
  clear h hi
  go_enter Try.func25, Try.ntmps25
  go_wp2_with (go_at_call 39; refine (check_out _ _ _ _ H.out.1 H.out.2).mono ?_; rintro e w' ⟨rfl, rfl⟩)
  go_ret2
  exact ⟨rfl, rfl⟩
theorem of_in (b : Nat) (P : Pt) (k : Nat) (w : World) (h : PaW w b P) (hk : k < P.n) : Calls Try.prog 25 #[.pointer (some ⟨b, 0, none⟩), .int .i64 k] w fun e w' => e = .returned (.tuple #[.int .i64 (P.c k), .int .i64 0]) ∧ w = w' := by
  have H := Lib.hid h
  have hn := h.ok.hi
  have hc := h.cs (i := k) (by omega)
  clear h
  go_enter Try.func25, Try.ntmps25
  go_wp2_with (go_at_call 39; refine (check_in _ _ _ _ H.out hk).mono ?_; rintro e w' ⟨rfl, rfl⟩)
  go_ret2
  exact ⟨rfl, rfl⟩

/-! ### the closures -/
set_option maxHeartbeats 1000000 in
theorem turn1_no (b i B C : Nat) (x a : Int) (q : Value) (w : World) (hx : w.cell? ⟨b, i, none⟩ = some (.int .i64 x)) (ha : w.cell? ⟨B, 0, none⟩ = some (.int .i64 a)) (hq : q = .pointer (some ⟨C, 0, none⟩)) (hne : x ≠ a) :
    Calls Try.prog 41 #[.pointer (some ⟨b, i, none⟩), .pointer (some ⟨B, 0, none⟩), q] w fun e w' => e = .returned (.int .i64 8) ∧ Below w.heap.size w w' := by
  have hn : (x != a) = true := by simpa using hne
  subst hq
  clear hne
  go_enter Try.func41, Try.ntmps41
  go_wp2
  go_quiet (fail)
  go_wp2
  go_ret
  exact ⟨rfl, bel_drewN (Below.refl _ w) _⟩
set_option maxHeartbeats 1000000 in
theorem turn1_yes (b i B C : Nat) (a v : Int) (w : World) (hx : w.cell? ⟨b, i, none⟩ = some (.int .i64 a)) (ha : w.cell? ⟨B, 0, none⟩ = some (.int .i64 a)) (hv : w.cell? ⟨C, 0, none⟩ = some (.int .i64 v)) (hf : w.frozen? ⟨b, i, none⟩ = false) :
    Calls Try.prog 41 #[.pointer (some ⟨b, i, none⟩), .pointer (some ⟨B, 0, none⟩), .pointer (some ⟨C, 0, none⟩)] w fun e w' => e = .returned (.int .i64 0) ∧ ∃ q, w' = (w.drewN q).setCell ⟨b, i, none⟩ (.int .i64 v) := by
  have hn : (a != a) = false := by simp
  go_enter Try.func41, Try.ntmps41
  go_wp2
  go_quiet (fail)
  go_wp2
  go_ret
  exact ⟨rfl, _, rfl⟩
theorem bleach1_ok (b i : Nat) (x : Value) (w : World) (hx : w.cell? ⟨b, i, none⟩ = some x) (hf : w.frozen? ⟨b, i, none⟩ = false) :
    Calls Try.prog 34 #[.pointer (some ⟨b, i, none⟩)] w fun e w' => e = .returned (.int .i64 0) ∧ w' = w.setCell ⟨b, i, none⟩ (.int .i64 0) := by
  go_enter Try.func34, Try.ntmps34
  go_wp2
  go_ret
  exact ⟨rfl, rfl⟩
end Go.Proofs.Ythcpmcdgojgdlaa
