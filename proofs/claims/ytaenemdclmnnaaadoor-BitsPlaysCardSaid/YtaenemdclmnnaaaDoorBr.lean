/- The contracts of bits' Minus. -/
import Derived.Test.YtaenemdclmnnaaaDoorBe
namespace Go.Proofs.YtaenemdclmnnaaaDoor
open Go.RowKit

theorem cminus_inv1 (v : Option Addr) (u : Option Addr) (w : World) (h : Inv w v) : Calls Tryd.prog 40 #[.pointer v, .pointer u, (.func (.func 43) #[] #[])] w fun e w' => e = .returned (.int .i64 1) ∧ w = w' := by
  have H := Lib.hid h
  clear h
  go_enter Tryd.func40, Tryd.ntmps40
  go_wp2_with (go_at_call 38; refine (valid_no _ _ H.out).mono ?_; rintro e w' ⟨rfl, rfl⟩)
  go_ret
  exact ⟨rfl, rfl⟩
theorem cminus_inv2 (b g n : Nat) (f : Nat → Bool) (v : Option Addr) (w : World) (hs : SetW w b g n f) (h : Inv w v) : Calls Tryd.prog 40 #[.pointer (some ⟨b, 0, none⟩), .pointer v, (.func (.func 43) #[] #[])] w fun e w' => e = .returned (.int .i64 1) ∧ w = w' := by
  have H := Lib.hid h
  have HS := Lib.hid hs
  clear h hs
  go_enter Tryd.func40, Tryd.ntmps40
  go_wp2_with (first
    | (go_at_call 38; (with_reducible refine (valid_yes _ _ _ _ _ HS.out).mono ?_); clear HS; rintro e w' ⟨rfl, rfl⟩)
    | (go_at_call 38; refine (valid_no _ _ H.out).mono ?_; rintro e w' ⟨rfl, rfl⟩))
  go_ret
  exact ⟨rfl, rfl⟩
theorem cminus_arg (b g n b2 g2 m : Nat) (f h : Nat → Bool) (w : World) (hs : SetW w b g n f) (ht : SetW w b2 g2 m h) (hne : n ≠ m) : Calls Tryd.prog 40 #[.pointer (some ⟨b, 0, none⟩), .pointer (some ⟨b2, 0, none⟩), (.func (.func 43) #[] #[])] w fun e w' => e = .returned (.int .i64 2) ∧ ∃ q, w' = w.drewN q := by
  have HS := Lib.hid hs
  have HT := Lib.hid ht
  have hc0 := hs.c0
  have hc2 := ht.c0
  have hd : ((n : Int) != (m : Int)) = true := by simp; omega
  clear hs ht
  go_enter Tryd.func40, Tryd.ntmps40
  go_wp2_with (first
    | (go_at_call 38; (with_reducible refine (valid_yes _ _ _ _ _ HS.out).mono ?_); rintro e w' ⟨rfl, rfl⟩)
    | (go_at_call 38; (with_reducible refine (valid_yes _ _ _ _ _ HT.out).mono ?_); rintro e w' ⟨rfl, rfl⟩))
  go_quiet (fail)
  go_wp2
  go_ret
  exact ⟨rfl, _, rfl⟩

set_option maxHeartbeats 2000000 in
theorem cminus_ok (b g b2 g2 n : Nat) (f h : Nat → Bool) (w : World) (hs : SetW w b g n f) (ht : SetW w b2 g2 n h) (sep : g2 ≠ g ∨ (b2 = b ∧ g2 = g ∧ h = f)) : Calls Tryd.prog 40 #[.pointer (some ⟨b, 0, none⟩), .pointer (some ⟨b2, 0, none⟩), (.func (.func 43) #[] #[])] w fun e w' => e = .returned (.int .i64 0) ∧ SetW w' b g n (mi f h) ∧ Kept (· = g) w w' := by
  have hout : ∀ k, n ≤ k → mi f h k = false := fun k hk => by simp [mi, hs.out k hk, ht.out k hk]
  have HS := Lib.hid hs
  have HT := Lib.hid ht
  have SEP := Lib.hid sep
  have HOUT := Lib.hid hout
  have hc0 := hs.c0
  have hc2 := ht.c0
  obtain ⟨cap2, hc3, hcap2, hcm2⟩ := ht.c1
  have hnl := nw_le hs.hi
  have hd : ((n : Int) != (n : Int)) = false := by simp
  have hb2 : b2 ≠ g := by
    intro e
    obtain ⟨_, _, h1, _⟩ := ht.at_
    obtain ⟨_, _, _, h2, _⟩ := hs.at_
    rw [e] at h1
    exact absurd (h1.uniq h2).1 (by decide)
  have HB2 := Lib.hid hb2
  have H1 : Hid (SetW w b g n (mix f (mi f h) 0)) := by rw [mix_zero]; exact hs
  have HM : Hid (∃ m, nw n = m) := ⟨_, rfl⟩
  clear hs ht sep hout hb2
  go_enter Tryd.func40, Tryd.ntmps40
  go_wp2_with (first
    | (go_at_call 38; (with_reducible refine (valid_yes _ _ _ _ _ HS.out).mono ?_); rintro e w' ⟨rfl, rfl⟩)
    | (go_at_call 38; (with_reducible refine (valid_yes _ _ _ _ _ HT.out).mono ?_); rintro e w' ⟨rfl, rfl⟩))
  go_quiet (fail)
  go_wp2
  clear hd hc0 hc2 hc3
  go_loopw [33] (fun i wr => ∃ k : Nat, k ≤ nw n ∧ i = .int .i64 k ∧ Hid (SetW wr b g n (mix f (mi f h) k)) ∧ Hid (Kept (· = g) w wr)) (fun i _ => nw n - (intOf i).toNat)
  case atStart => exact ⟨0, Nat.zero_le _, rfl, H1.out.drewN _, (Kept.refl _ w).drewN _⟩
  case round =>
    obtain ⟨k, hk, rfl, HW, HK⟩ := hrel
    by_cases hlt : k < nw n
    · obtain ⟨cap, hc1, hcap, hcm⟩ := HW.out.c1
      have hx := HW.out.word hlt
      rw [mix_word] at hx
      have hy := other_word HT.out SEP.out HK.out HW.out hlt
      have hfz := HW.out.fz k
      have hz := mi_word f h k
      have hx64 := word_lt' f k
      have hy64 := word_lt' h k
      have PUT : Hid (∀ q u, u = Value.int .u64 (word (mi f h) k) → SetW ((wr.drewN q).setCell ⟨g, k, none⟩ u) b g n (mix f (mi f h) (k + 1))) := fun q u hu =>
        (HW.out.drewN q).put (mix_out HS.out.out HOUT.out) (fun j hj => mix_far f (mi f h) k j hj) (by rw [mix_word']; exact hu)
      obtain ⟨x, ex⟩ : ∃ x, word f k = x := ⟨_, rfl⟩
      obtain ⟨y, ey⟩ : ∃ y, word h k = y := ⟨_, rfl⟩
      obtain ⟨z, ez⟩ : ∃ z, word (mi f h) k = z := ⟨_, rfl⟩
      rw [ex] at hx hz hx64
      rw [ey] at hy hz hy64
      rw [ez] at hz PUT
      have HZ := Lib.hid hz
      have HX := Lib.hid hx64
      have HY := Lib.hid hy64
      clear hz hx64 hy64 ex ey ez
      go_wp2
      go_region_with (go_at_call 43; refine (minus1 x y _ HX.out HY.out).mono ?_; rw [HZ.out]; rintro e w' ⟨rfl, rfl⟩)
      all_goals
        have HP : Hid (SetW (wr.setCell ⟨g, k, none⟩ (.int .u64 z)) b g n (mix f (mi f h) (k + 1))) := PUT.out 0 _ rfl
        go_wp2
        go_roundw
        case rel => exact ⟨k + 1, by omega, by go_num, HP.out.same rfl rfl, (HK.out.put1 _ _).drew⟩
        case measure => simp [intOf]; omega
    · obtain rfl : k = nw n := by omega
      have HF : Hid (SetW wr b g n (mi f h)) := by have := HW.out; rw [mix_all HS.out.out HOUT.out] at this; exact this
      go_wp2
      go_ret
      exact ⟨rfl, HF.out, HK.out⟩
theorem minus_inv1 (v : Option Addr) (u : Option Addr) (w : World) (h : Inv w v) : Calls Tryd.prog 21 #[.pointer v, .pointer u] w fun e w' => e = .returned (.int .i64 1) ∧ w = w' := by
  have H := Lib.hid h
  clear h
  go_enter Tryd.func21, Tryd.ntmps21
  go_wp2_with (go_at_call 40; refine (cminus_inv1 _ _ _ H.out).mono ?_; rintro e w' ⟨rfl, rfl⟩)
  go_ret
  exact ⟨rfl, rfl⟩
theorem minus_inv2 (b g n : Nat) (f : Nat → Bool) (v : Option Addr) (w : World) (hs : SetW w b g n f) (h : Inv w v) : Calls Tryd.prog 21 #[.pointer (some ⟨b, 0, none⟩), .pointer v] w fun e w' => e = .returned (.int .i64 1) ∧ w = w' := by
  have H := Lib.hid (cminus_inv2 b g n f v w hs h)
  clear h hs
  go_enter Tryd.func21, Tryd.ntmps21
  go_wp2_with (go_at_call 40; refine H.out.mono ?_; rintro e w' ⟨rfl, rfl⟩)
  go_ret
  exact ⟨rfl, rfl⟩
theorem minus_arg (b g n b2 g2 m : Nat) (f h : Nat → Bool) (w : World) (hs : SetW w b g n f) (ht : SetW w b2 g2 m h) (hne : n ≠ m) : Calls Tryd.prog 21 #[.pointer (some ⟨b, 0, none⟩), .pointer (some ⟨b2, 0, none⟩)] w fun e w' => e = .returned (.int .i64 2) ∧ ∃ q, w' = w.drewN q := by
  have H := Lib.hid (cminus_arg b g n b2 g2 m f h w hs ht hne)
  clear hs ht hne
  go_enter Tryd.func21, Tryd.ntmps21
  go_wp2_with (go_at_call 40; refine H.out.mono ?_; rintro e w' ⟨rfl, q, rfl⟩)
  go_ret
  exact ⟨rfl, _, rfl⟩
theorem minus_ok (b g b2 g2 n : Nat) (f h : Nat → Bool) (w : World) (hs : SetW w b g n f) (ht : SetW w b2 g2 n h) (sep : g2 ≠ g ∨ (b2 = b ∧ g2 = g ∧ h = f)) : Calls Tryd.prog 21 #[.pointer (some ⟨b, 0, none⟩), .pointer (some ⟨b2, 0, none⟩)] w fun e w' => e = .returned (.int .i64 0) ∧ SetW w' b g n (mi f h) ∧ Kept (· = g) w w' := by
  have H := Lib.hid (cminus_ok b g b2 g2 n f h w hs ht sep)
  clear hs ht sep
  go_enter Tryd.func21, Tryd.ntmps21
  go_wp2_with (go_at_call 40; refine H.out.mono ?_; rintro e w' ⟨rfl, hs1, hk1⟩)
  go_ret
  exact ⟨rfl, hs1, hk1⟩

end Go.Proofs.YtaenemdclmnnaaaDoor
