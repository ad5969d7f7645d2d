/- The contracts of bits' Add, Remove, Has, New, Clear, Count. -/
import Derived.Test.YtaenemdclmnnaaaDoorBa
namespace Go.Proofs.YtaenemdclmnnaaaDoor
open Go.RowKit

theorem Kept.put1 {g : Nat} {a w : World} (h : Kept (· = g) a w) (i : Nat) (u : Value) : Kept (· = g) a (w.setCell ⟨g, i, none⟩ u) := h.put (p := ⟨g, i, none⟩) (.inr rfl) u

theorem add_inv (v : Option Addr) (i : Int) (w : World) (h : Inv w v) : Calls Tryd.prog 13 #[.pointer v, .int .i64 i] w fun e w' => e = .returned (.int .i64 1) ∧ w = w' := by
  have H := Lib.hid h
  clear h
  go_enter Tryd.func13, Tryd.ntmps13
  go_wp2_with (go_at_call 36; refine (check_inv _ _ _ H.out).mono ?_; rintro e w' ⟨rfl, rfl⟩)
  go_ret
  exact ⟨rfl, rfl⟩
theorem add_out (b g n : Nat) (f : Nat → Bool) (i : Int) (w : World) (h : SetW w b g n f) (hi : i < 0 ∨ (n : Int) ≤ i) : Calls Tryd.prog 13 #[.pointer (some ⟨b, 0, none⟩), .int .i64 i] w fun e w' => e = .returned (.int .i64 3) ∧ w = w' := by
  have H := Lib.hid h
  have HI := Lib.hid hi
  clear h hi
  go_enter Tryd.func13, Tryd.ntmps13
  go_wp2_with (go_at_call 36; refine (check_out _ _ _ _ _ _ H.out HI.out).mono ?_; rintro e w' ⟨rfl, rfl⟩)
  go_ret
  exact ⟨rfl, rfl⟩
set_option maxHeartbeats 400000 in
theorem add_in (b g n : Nat) (f : Nat → Bool) (k : Nat) (w : World) (h : SetW w b g n f) (hk : k < n) : Calls Tryd.prog 13 #[.pointer (some ⟨b, 0, none⟩), .int .i64 k] w fun e w' => e = .returned (.int .i64 0) ∧ SetW w' b g n (upd f k true) ∧ Kept (· = g) w w' := by
  obtain ⟨cap, hc1, hcap, hcm⟩ := h.c1
  have hlt := nw_lt hk
  have hw := h.word hlt
  have hfz := h.fz (k / 64)
  have hn := h.hi
  obtain ⟨i, hi⟩ : ∃ i, k / 64 = i := ⟨_, rfl⟩
  obtain ⟨p, hp⟩ : ∃ p, 2 ^ (k % 64) = p := ⟨_, rfl⟩
  have hp64 : p < 18446744073709551616 := by rw [← hp]; exact pow_lt (Nat.mod_lt _ (by decide))
  have hor := word_add f k
  rw [hi] at hlt hw hfz hor
  rw [hp] at hor
  obtain ⟨y, hy⟩ : ∃ y, word (upd f k true) i = y := ⟨_, rfl⟩
  obtain ⟨x, hx⟩ : ∃ x, word f i = x := ⟨_, rfl⟩
  have hx64 : x < 18446744073709551616 := by rw [← hx]; exact word_lt' _ _
  rw [hx] at hw
  rw [hx, hy] at hor
  have e1 : bits .or .u64 (x : Int) (p : Int) = (y : Int) := by rw [bits_or_u64_nat x p hx64 hp64, hor]
  have PUT : Hid (∀ q, SetW ((w.drewN q).setCell ⟨g, i, none⟩ (.int .u64 y)) b g n (upd f k true)) := fun q =>
    (h.drewN q).put (f' := upd f k true) (fun j hj => by rw [upd_other (by omega)]; exact h.out j hj) (fun j hj => upd_other (by rintro rfl; exact hj hi)) (by rw [hy])
  have H := Lib.hid h
  have HI := Lib.hid hi
  have HP := Lib.hid hp
  have hnl := nw_le hn
  clear h hi hp hy hx hor hx64 hp64
  go_enter Tryd.func13, Tryd.ntmps13
  go_wp2_with (first
    | (go_at_call 36; refine (check_in _ _ _ _ _ _ H.out hk).mono ?_; rintro e w' ⟨rfl, rfl⟩)
    | (go_at_call 35; refine (place_ok k i p _ (by omega) HI.out HP.out).mono ?_; rintro e w' ⟨rfl, q, rfl⟩))
  go_ret
  exact ⟨rfl, PUT.out _, ((Kept.refl (· = g) w).drewN _).put1 _ _⟩

theorem remove_inv (v : Option Addr) (i : Int) (w : World) (h : Inv w v) : Calls Tryd.prog 15 #[.pointer v, .int .i64 i] w fun e w' => e = .returned (.int .i64 1) ∧ w = w' := by
  have H := Lib.hid h
  clear h
  go_enter Tryd.func15, Tryd.ntmps15
  go_wp2_with (go_at_call 36; refine (check_inv _ _ _ H.out).mono ?_; rintro e w' ⟨rfl, rfl⟩)
  go_ret
  exact ⟨rfl, rfl⟩
theorem remove_out (b g n : Nat) (f : Nat → Bool) (i : Int) (w : World) (h : SetW w b g n f) (hi : i < 0 ∨ (n : Int) ≤ i) : Calls Tryd.prog 15 #[.pointer (some ⟨b, 0, none⟩), .int .i64 i] w fun e w' => e = .returned (.int .i64 3) ∧ w = w' := by
  have H := Lib.hid h
  have HI := Lib.hid hi
  clear h hi
  go_enter Tryd.func15, Tryd.ntmps15
  go_wp2_with (go_at_call 36; refine (check_out _ _ _ _ _ _ H.out HI.out).mono ?_; rintro e w' ⟨rfl, rfl⟩)
  go_ret
  exact ⟨rfl, rfl⟩
theorem word_del (f : Nat → Bool) (k : Nat) : without (word f (k / 64)) (2 ^ (k % 64)) = word (upd f k false) (k / 64) := by
  have hp : 2 ^ (k % 64) < 18446744073709551616 := pow_lt (Nat.mod_lt _ (by decide))
  apply word_eq (without_lt (word_lt' _ _))
  intro j hj
  rw [without_bit hp j hj, word_bit, Nat.testBit_two_pow]
  by_cases h : 64 * (k / 64) + j = k
  · have : k % 64 = j := by omega
    rw [h, upd_same]; simp [this]
  · have : ¬ k % 64 = j := by omega
    rw [upd_other h]; simp [this, hj]
set_option maxHeartbeats 400000 in
theorem remove_in (b g n : Nat) (f : Nat → Bool) (k : Nat) (w : World) (h : SetW w b g n f) (hk : k < n) : Calls Tryd.prog 15 #[.pointer (some ⟨b, 0, none⟩), .int .i64 k] w fun e w' => e = .returned (.int .i64 0) ∧ SetW w' b g n (upd f k false) ∧ Kept (· = g) w w' := by
  obtain ⟨cap, hc1, hcap, hcm⟩ := h.c1
  have hlt := nw_lt hk
  have hw := h.word hlt
  have hfz := h.fz (k / 64)
  have hn := h.hi
  obtain ⟨i, hi⟩ : ∃ i, k / 64 = i := ⟨_, rfl⟩
  obtain ⟨p, hp⟩ : ∃ p, 2 ^ (k % 64) = p := ⟨_, rfl⟩
  have hp64 : p < 18446744073709551616 := by rw [← hp]; exact pow_lt (Nat.mod_lt _ (by decide))
  have hor := word_del f k
  rw [hi] at hlt hw hfz hor
  rw [hp] at hor
  obtain ⟨y, hy⟩ : ∃ y, word (upd f k false) i = y := ⟨_, rfl⟩
  obtain ⟨x, hx⟩ : ∃ x, word f i = x := ⟨_, rfl⟩
  have hx64 : x < 18446744073709551616 := by rw [← hx]; exact word_lt' _ _
  rw [hx] at hw
  rw [hx, hy] at hor
  have e1 : bits .andNot .u64 (x : Int) (p : Int) = (y : Int) := by rw [without_int hx64 hp64, hor]
  have PUT : Hid (∀ q, SetW ((w.drewN q).setCell ⟨g, i, none⟩ (.int .u64 y)) b g n (upd f k false)) := fun q =>
    (h.drewN q).put (f' := upd f k false) (fun j hj => by rw [upd_other (by omega)]; exact h.out j hj) (fun j hj => upd_other (by rintro rfl; exact hj hi)) (by rw [hy])
  have H := Lib.hid h
  have HI := Lib.hid hi
  have HP := Lib.hid hp
  have hnl := nw_le hn
  clear h hi hp hy hx hor hx64 hp64
  go_enter Tryd.func15, Tryd.ntmps15
  go_wp2_with (first
    | (go_at_call 36; refine (check_in _ _ _ _ _ _ H.out hk).mono ?_; rintro e w' ⟨rfl, rfl⟩)
    | (go_at_call 35; refine (place_ok k i p _ (by omega) HI.out HP.out).mono ?_; rintro e w' ⟨rfl, q, rfl⟩))
  go_ret
  exact ⟨rfl, PUT.out _, ((Kept.refl (· = g) w).drewN _).put1 _ _⟩

theorem has_inv (v : Option Addr) (i : Int) (w : World) (h : Inv w v) : Calls Tryd.prog 27 #[.pointer v, .int .i64 i] w fun e w' => e = .returned (.bool false) ∧ w = w' := by
  have H := Lib.hid h
  clear h
  go_enter Tryd.func27, Tryd.ntmps27
  go_wp2_with (go_at_call 36; refine (check_inv _ _ _ H.out).mono ?_; rintro e w' ⟨rfl, rfl⟩)
  go_ret
  exact ⟨rfl, rfl⟩
theorem has_out (b g n : Nat) (f : Nat → Bool) (i : Int) (w : World) (h : SetW w b g n f) (hi : i < 0 ∨ (n : Int) ≤ i) : Calls Tryd.prog 27 #[.pointer (some ⟨b, 0, none⟩), .int .i64 i] w fun e w' => e = .returned (.bool false) ∧ w = w' := by
  have H := Lib.hid h
  have HI := Lib.hid hi
  clear h hi
  go_enter Tryd.func27, Tryd.ntmps27
  go_wp2_with (go_at_call 36; refine (check_out _ _ _ _ _ _ H.out HI.out).mono ?_; rintro e w' ⟨rfl, rfl⟩)
  go_ret
  exact ⟨rfl, rfl⟩
set_option maxHeartbeats 400000 in
theorem has_in (b g n : Nat) (f : Nat → Bool) (k : Nat) (w : World) (h : SetW w b g n f) (hk : k < n) : Calls Tryd.prog 27 #[.pointer (some ⟨b, 0, none⟩), .int .i64 k] w fun e w' => e = .returned (.bool (f k)) ∧ ∃ q, w' = w.drewN q := by
  obtain ⟨cap, hc1, hcap, hcm⟩ := h.c1
  have hlt := nw_lt hk
  have hw := h.word hlt
  have hn := h.hi
  obtain ⟨i, hi⟩ : ∃ i, k / 64 = i := ⟨_, rfl⟩
  obtain ⟨p, hp⟩ : ∃ p, 2 ^ (k % 64) = p := ⟨_, rfl⟩
  have hp64 : p < 18446744073709551616 := by rw [← hp]; exact pow_lt (Nat.mod_lt _ (by decide))
  have hp0 : p ≠ 0 := by rw [← hp]; have := Nat.two_pow_pos (k % 64); omega
  have hor := word_has f k
  rw [hi] at hlt hw hor
  rw [hp] at hor
  obtain ⟨x, hx⟩ : ∃ x, word f i = x := ⟨_, rfl⟩
  have hx64 : x < 18446744073709551616 := by rw [← hx]; exact word_lt' _ _
  rw [hx] at hw hor
  have e1 : bits .and .u64 (x : Int) (p : Int) = ((if f k then p else 0 : Nat) : Int) := by rw [bits_and_u64_nat x p hx64 hp64, hor]
  have H := Lib.hid h
  have HI := Lib.hid hi
  have HP := Lib.hid hp
  have hnl := nw_le hn
  clear h hi hp hx hor hx64 hp64
  cases hfk : f k
  all_goals
    rw [hfk] at e1
    first | rw [if_neg (by decide)] at e1 | rw [if_pos rfl] at e1
    have hne : ((p : Int) == 0) = false := beq_eq_false_iff_ne.2 (by omega)
    have hne2 : ((p : Int) != 0) = true := by simp [bne, hne]
    clear hfk
    go_enter Tryd.func27, Tryd.ntmps27
    go_wp2_with (first
      | (go_at_call 36; refine (check_in _ _ _ _ _ _ H.out hk).mono ?_; rintro e w' ⟨rfl, rfl⟩)
      | (go_at_call 35; refine (place_ok k i p _ (by omega) HI.out HP.out).mono ?_; rintro e w' ⟨rfl, q, rfl⟩))
    go_ret
    exact ⟨rfl, _, rfl⟩
end Go.Proofs.YtaenemdclmnnaaaDoor
