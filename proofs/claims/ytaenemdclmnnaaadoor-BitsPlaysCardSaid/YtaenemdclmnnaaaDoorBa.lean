/- The contracts of bits' small functions: valid, check, place, Size, the two closures; math/bits.OnesCount64. -/
import Derived.Test.YtaenemdclmnnaaaDoorBk
import Derived.Test.YtaenemdclmnnaaaDoorBp
import Derived.IntWalk
import Derived.Laws.BitsAllLaws
namespace Go.Proofs.YtaenemdclmnnaaaDoor
open Go.RowKit

/-- A set that New or Copy did not make: nil, or the zero one. -/
def Inv (w : World) (v : Option Addr) : Prop := v = none ∨ ∃ b, v = some ⟨b, 0, none⟩ ∧ Bk w b 42 #[.int .i64 0, .slice none 0 0]

theorem valid_nil (w : World) : Calls Tryd.prog 38 #[.pointer none] w fun e w' => e = .returned (.bool false) ∧ w = w' := by
  go_enter Tryd.func38, Tryd.ntmps38
  go_wp2
  go_ret
  exact ⟨rfl, rfl⟩
theorem valid_zero (b : Nat) (w : World) (h : Bk w b 42 #[.int .i64 0, .slice none 0 0]) : Calls Tryd.prog 38 #[.pointer (some ⟨b, 0, none⟩)] w fun e w' => e = .returned (.bool false) ∧ w = w' := by
  have hc : w.cell? ⟨b, 0, none⟩ = some (.int .i64 0) := h.cell 0
  clear h
  go_enter Tryd.func38, Tryd.ntmps38
  go_wp2
  go_ret
  exact ⟨rfl, rfl⟩
theorem valid_yes (b g n : Nat) (f : Nat → Bool) (w : World) (h : SetW w b g n f) : Calls Tryd.prog 38 #[.pointer (some ⟨b, 0, none⟩)] w fun e w' => e = .returned (.bool true) ∧ w = w' := by
  have hc := h.c0
  have hn : 0 < n := h.lo
  clear h
  go_enter Tryd.func38, Tryd.ntmps38
  go_wp2
  go_ret
  exact ⟨rfl, rfl⟩
theorem valid_no (v : Option Addr) (w : World) (h : Inv w v) : Calls Tryd.prog 38 #[.pointer v] w fun e w' => e = .returned (.bool false) ∧ w = w' := by
  rcases h with rfl | ⟨b, rfl, h⟩
  · exact valid_nil w
  · exact valid_zero b w h

theorem check_inv (v : Option Addr) (i : Int) (w : World) (h : Inv w v) : Calls Tryd.prog 36 #[.pointer v, .int .i64 i] w fun e w' => e = .returned (.int .i64 1) ∧ w = w' := by
  have H := Lib.hid h
  clear h
  go_enter Tryd.func36, Tryd.ntmps36
  go_wp2_with (go_at_call 38; refine (valid_no _ _ H.out).mono ?_; rintro e w' ⟨rfl, rfl⟩)
  go_ret
  exact ⟨rfl, rfl⟩
theorem check_out (b g n : Nat) (f : Nat → Bool) (i : Int) (w : World) (h : SetW w b g n f) (hi : i < 0 ∨ (n : Int) ≤ i) : Calls Tryd.prog 36 #[.pointer (some ⟨b, 0, none⟩), .int .i64 i] w fun e w' => e = .returned (.int .i64 3) ∧ w = w' := by
  have H := Lib.hid h
  have hc := h.c0
  clear h
  by_cases h0 : i < 0
  all_goals
    first | have h1 : (n : Int) ≤ i := by omega | skip
    clear hi
    go_enter Tryd.func36, Tryd.ntmps36
    go_wp2_with (go_at_call 38; refine (valid_yes _ _ _ _ _ H.out).mono ?_; rintro e w' ⟨rfl, rfl⟩)
    go_ret
    exact ⟨rfl, rfl⟩
theorem check_in (b g n : Nat) (f : Nat → Bool) (k : Nat) (w : World) (h : SetW w b g n f) (hk : k < n) : Calls Tryd.prog 36 #[.pointer (some ⟨b, 0, none⟩), .int .i64 k] w fun e w' => e = .returned (.int .i64 0) ∧ w = w' := by
  have H := Lib.hid h
  have hc := h.c0
  clear h
  go_enter Tryd.func36, Tryd.ntmps36
  go_wp2_with (go_at_call 38; refine (valid_yes _ _ _ _ _ H.out).mono ?_; rintro e w' ⟨rfl, rfl⟩)
  go_ret
  exact ⟨rfl, rfl⟩

theorem shl_pow (j : Nat) (hj : j < 64) : IntKind.u64.wrap ((2 : Int) ^ j) = ((2 ^ j : Nat) : Int) := by
  have h : 2 ^ j < 2 ^ 64 := pow_lt hj
  rw [IntKind.wrap_u64]
  generalize e : 2 ^ j = x at *
  have e2 : ((2 : Int) ^ j) = (x : Int) := by rw [← e]; simp
  rw [e2]; omega

set_option maxHeartbeats 400000 in
/-- The word of a number, and its bit there. -/
theorem place_ok (k i p : Nat) (w : World) (hk : k < 4096) (hi : k / 64 = i) (hp : 2 ^ (k % 64) = p) : Calls Tryd.prog 35 #[.int .i64 k] w fun e w' => e = .returned (.tuple #[.int .i64 i, .int .u64 p]) ∧ ∃ q, w' = w.drewN q := by
  have hk2 : k % 64 < 64 := Nat.mod_lt _ (by decide)
  have e1 : Value.int .i64 ((k : Int) / 64) = .int .i64 (i : Int) := by rw [← hi]; congr 1
  have e2 : Value.int .u64 (IntKind.u64.wrap ((2 : Int) ^ (k % 64))) = .int .u64 (p : Int) := by rw [shl_pow _ hk2, hp]
  have E1 := Lib.hid e1
  have E2 := Lib.hid e2
  clear hi hp e1 e2
  go_enter Tryd.func35, Tryd.ntmps35
  go_wp2
  go_quiet (fail)
  go_wp2
  rw [E1.out, E2.out]
  go_ret2
  exact ⟨rfl, _, rfl⟩

theorem size_inv (v : Option Addr) (w : World) (h : Inv w v) : Calls Tryd.prog 30 #[.pointer v] w fun e w' => e = .returned (.int .i64 0) ∧ w = w' := by
  have H := Lib.hid h
  clear h
  go_enter Tryd.func30, Tryd.ntmps30
  go_wp2_with (go_at_call 38; refine (valid_no _ _ H.out).mono ?_; rintro e w' ⟨rfl, rfl⟩)
  go_ret
  exact ⟨rfl, rfl⟩
theorem size_ok (b g n : Nat) (f : Nat → Bool) (w : World) (h : SetW w b g n f) : Calls Tryd.prog 30 #[.pointer (some ⟨b, 0, none⟩)] w fun e w' => e = .returned (.int .i64 n) ∧ w = w' := by
  have H := Lib.hid h
  have hc := h.c0
  clear h
  go_enter Tryd.func30, Tryd.ntmps30
  go_wp2_with (go_at_call 38; refine (valid_yes _ _ _ _ _ H.out).mono ?_; rintro e w' ⟨rfl, rfl⟩)
  go_ret
  exact ⟨rfl, rfl⟩

/-! ### the closures -/
theorem union1 (x y : Nat) (w : World) (hx : x < 18446744073709551616) (hy : y < 18446744073709551616) : Calls Tryd.prog 41 #[.int .u64 x, .int .u64 y] w fun e w' => e = .returned (.int .u64 ((x ||| y : Nat) : Int)) ∧ w = w' := by
  have e1 := Lib.hid (bits_or_u64_nat x y hx hy)
  go_enter Tryd.func41, Tryd.ntmps41
  go_wp2
  rw [e1.out]
  go_ret
  exact ⟨rfl, rfl⟩
/-- x without the bits of y. -/
def without (x y : Nat) : Nat := x &&& (18446744073709551615 - y)
theorem without_lt {x y : Nat} (hx : x < 18446744073709551616) : without x y < 2 ^ 64 := Nat.lt_of_le_of_lt Nat.and_le_left hx
theorem without_bit {x y : Nat} (hy : y < 18446744073709551616) (j : Nat) (hj : j < 64) : (without x y).testBit j = (x.testBit j && !y.testBit j) := by
  unfold without
  have e : 18446744073709551615 - y = 2 ^ 64 - (y + 1) := by omega
  rw [Nat.testBit_and, e, Nat.testBit_two_pow_sub_succ hy]
  simp [hj]
theorem without_int {x y : Nat} (hx : x < 18446744073709551616) (hy : y < 18446744073709551616) : bits .andNot .u64 (x : Int) (y : Int) = ((without x y : Nat) : Int) := u64_andNot_nat x y hx hy
theorem minus1 (x y : Nat) (w : World) (hx : x < 18446744073709551616) (hy : y < 18446744073709551616) : Calls Tryd.prog 43 #[.int .u64 x, .int .u64 y] w fun e w' => e = .returned (.int .u64 ((without x y : Nat) : Int)) ∧ w = w' := by
  have e1 := Lib.hid (without_int hx hy)
  go_enter Tryd.func43, Tryd.ntmps43
  go_wp2
  rw [e1.out]
  go_ret
  exact ⟨rfl, rfl⟩

theorem F1_lt64 {x : Nat} (h : x < 18446744073709551616) : F1 x ≤ 12297829382473034410 := by
  have h1 : x / 2 &&& 6148914691236517205 ≤ 6148914691236517205 := Nat.and_le_right
  have h2 : x &&& 6148914691236517205 ≤ 6148914691236517205 := Nat.and_le_right
  unfold F1; omega
theorem F2_lt64 (x : Nat) : F2 x ≤ 7378697629483820646 := by
  have h1 : x / 4 &&& 3689348814741910323 ≤ 3689348814741910323 := Nat.and_le_right
  have h2 : x &&& 3689348814741910323 ≤ 3689348814741910323 := Nat.and_le_right
  unfold F2; omega
theorem F1_int {x : Nat} (h : x < 18446744073709551616) : IntKind.u64.wrap (bits .and .u64 ((x : Int) / 2) 6148914691236517205 + bits .and .u64 (x : Int) 6148914691236517205) = ((F1 x : Nat) : Int) := by
  have e1 := bits_and_u64_nat (x / 2) 6148914691236517205 (by omega) (by decide)
  have e2 := bits_and_u64_nat x 6148914691236517205 h (by decide)
  have hl := F1_lt64 h
  unfold F1 at hl ⊢
  have e3 : ((x / 2 : Nat) : Int) = (x : Int) / 2 := by omega
  rw [e3] at e1
  rw [IntKind.wrap_u64, show (6148914691236517205 : Int) = ((6148914691236517205 : Nat) : Int) from rfl, e1, e2]
  omega
theorem F2_int {x : Nat} (h : x < 18446744073709551616) : IntKind.u64.wrap (bits .and .u64 ((x : Int) / 4) 3689348814741910323 + bits .and .u64 (x : Int) 3689348814741910323) = ((F2 x : Nat) : Int) := by
  have e1 := bits_and_u64_nat (x / 4) 3689348814741910323 (by omega) (by decide)
  have e2 := bits_and_u64_nat x 3689348814741910323 h (by decide)
  have hl := F2_lt64 x
  unfold F2 at hl ⊢
  have e3 : ((x / 4 : Nat) : Int) = (x : Int) / 4 := by omega
  rw [e3] at e1
  rw [IntKind.wrap_u64, show (3689348814741910323 : Int) = ((3689348814741910323 : Nat) : Int) from rfl, e1, e2]
  omega
theorem F3_int {x : Nat} (h : x ≤ 7378697629483820646) : bits .and .u64 (IntKind.u64.wrap ((x : Int) / 16 + (x : Int))) 1085102592571150095 = ((F3 x : Nat) : Int) := by
  have e1 := bits_and_u64_nat (x / 16 + x) 1085102592571150095 (by omega) (by decide)
  have e3 : IntKind.u64.wrap ((x : Int) / 16 + (x : Int)) = ((x / 16 + x : Nat) : Int) := by rw [IntKind.wrap_u64]; omega
  rw [e3]
  exact e1
theorem sum_int (x y : Nat) (h : x + y < 18446744073709551616) : IntKind.u64.wrap ((x : Int) + (y : Int)) = ((x + y : Nat) : Int) := by rw [IntKind.wrap_u64]; omega
theorem and127 (x : Nat) (h : x < 9223372036854775808) : bits .and .i64 (x : Int) 127 = ((x % 128 : Nat) : Int) := by
  have hx : x &&& 127 ≤ 127 := Nat.and_le_right
  have h1 : (BitVec.ofInt 64 (x : Int)).toNat = x := by
    rw [BitVec.ofInt_natCast, BitVec.toNat_ofNat]; exact Nat.mod_eq_of_lt (by omega)
  have e : x &&& 127 = x % 128 := Nat.and_two_pow_sub_one_eq_mod x 7
  show IntKind.i64.wrap ((BitVec.ofInt 64 (x : Int) &&& BitVec.ofInt 64 127).toNat : Int) = _
  have h2 : (BitVec.ofInt 64 (127 : Int)).toNat = 127 := by decide
  rw [BitVec.toNat_and, h1, h2, e]
  rw [e] at hx
  generalize x % 128 = y at *
  rw [IntWalk.i64_in _ (by omega)]

set_option maxHeartbeats 1000000 in
/-- math/bits.OnesCount64: the number of one bits. -/
theorem ones_ok (x : Nat) (w : World) (hx : x < 18446744073709551616) : Calls Tryd.prog 51 #[.int .u64 x] w fun e w' => e = .returned (.int .i64 (pc x)) ∧ w = w' := by
  have hlim := ones x hx
  have e1 := F1_int hx
  have e2 := F2_int (x := F1 x) (by have := F1_lt64 hx; omega)
  have e3 := F3_int (x := F2 (F1 x)) (F2_lt64 _)
  have eG : F3 (F2 (F1 x)) = G x := rfl
  rw [eG] at e3
  obtain ⟨a, ha⟩ : ∃ a, F1 x = a := ⟨_, rfl⟩
  obtain ⟨b, hb⟩ : ∃ b, F2 (F1 x) = b := ⟨_, rfl⟩
  obtain ⟨y, hy⟩ : ∃ y, G x = y := ⟨_, rfl⟩
  obtain ⟨z, hz⟩ : ∃ z, y + y / 256 = z := ⟨_, rfl⟩
  obtain ⟨u, hu⟩ : ∃ u, z + z / 65536 = u := ⟨_, rfl⟩
  obtain ⟨v, hv⟩ : ∃ v, u + u / 4294967296 = v := ⟨_, rfl⟩
  rw [hb] at e2 e3
  rw [ha] at e1 e2
  rw [hy, hz, hu, hv] at hlim
  rw [hy] at e3
  have e4 : IntKind.u64.wrap ((y : Int) + (y : Int) / 256) = (z : Int) := by have := sum_int y (y / 256) (by omega); rw [hz] at this; rw [← this]; simp
  have e5 : IntKind.u64.wrap ((z : Int) + (z : Int) / 65536) = (u : Int) := by have := sum_int z (z / 65536) (by omega); rw [hu] at this; rw [← this]; simp
  have e6 : IntKind.u64.wrap ((u : Int) + (u : Int) / 4294967296) = (v : Int) := by have := sum_int u (u / 4294967296) (by omega); rw [hv] at this; rw [← this]; simp
  have e7 := and127 v hlim.1
  rw [hlim.2] at e7
  have hv1 : v < 9223372036854775808 := hlim.1
  clear hlim hb ha hy hz hu hv eG
  have hv2 : v ≤ 9223372036854775807 := by omega
  clear hv1
  go_enter Tryd.func51, Tryd.ntmps51
  go_wp2
  go_ret
  exact ⟨rfl, rfl⟩
end Go.Proofs.YtaenemdclmnnaaaDoor
