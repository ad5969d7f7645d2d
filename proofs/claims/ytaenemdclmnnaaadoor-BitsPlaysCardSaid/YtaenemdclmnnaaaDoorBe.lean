/- The contracts of bits' Union and Minus: the words of two sets are combined. -/
import Derived.Test.YtaenemdclmnnaaaDoorBd
import Derived.StillTailTactics
namespace Go.Proofs.YtaenemdclmnnaaaDoor
open Go.RowKit

/-- c where the words below the k-th are, f from there on. -/
def mix (f c : Nat → Bool) (k : Nat) : Nat → Bool := fun q => if q / 64 < k then c q else f q
theorem mix_zero (f c : Nat → Bool) : mix f c 0 = f := by funext q; simp [mix]
theorem mix_all {f c : Nat → Bool} {n : Nat} (hf : ∀ k, n ≤ k → f k = false) (hc : ∀ k, n ≤ k → c k = false) : mix f c (nw n) = c := by
  funext q
  unfold mix
  split
  · rfl
  · rename_i h
    have : n ≤ q := by unfold nw at h; omega
    rw [hf q this, hc q this]
theorem mix_out {f c : Nat → Bool} {n k : Nat} (hf : ∀ k, n ≤ k → f k = false) (hc : ∀ k, n ≤ k → c k = false) : ∀ q, n ≤ q → mix f c k q = false := fun q hq => by
  unfold mix; split; exact hc q hq; exact hf q hq
theorem mix_word (f c : Nat → Bool) (k : Nat) : word (mix f c k) k = word f k := word_congr fun j hj => by unfold mix; rw [if_neg (by omega)]
theorem mix_word' (f c : Nat → Bool) (k : Nat) : word (mix f c (k + 1)) k = word c k := word_congr fun j hj => by unfold mix; rw [if_pos (by omega)]
theorem mix_far (f c : Nat → Bool) (k q : Nat) (h : q / 64 ≠ k) : mix f c (k + 1) q = mix f c k q := by
  unfold mix
  by_cases h1 : q / 64 < k
  · rw [if_pos h1, if_pos (by omega)]
  · rw [if_neg h1, if_neg (by omega)]
/-- The other set's k-th word is still there. -/
theorem other_word {b g b2 g2 n k : Nat} {f c h : Nat → Bool} {w wr : World} (ht : SetW w b2 g2 n h) (sep : g2 ≠ g ∨ (b2 = b ∧ g2 = g ∧ h = f)) (hk : Kept (· = g) w wr) (hs : SetW wr b g n (mix f c k)) (hl : k < nw n) :
    wr.cell? ⟨g2, k, none⟩ = some (.int .u64 (word h k)) := by
  rcases sep with h1 | ⟨_, rfl, rfl⟩
  · exact (World.cell?_of_block (a := ⟨g2, k, none⟩) (hk.block g2 ht.gt h1)).trans (ht.word hl)
  · rw [hs.word hl, mix_word]

def un (f h : Nat → Bool) : Nat → Bool := fun k => f k || h k
def mi (f h : Nat → Bool) : Nat → Bool := fun k => f k && !h k
theorem un_word (f h : Nat → Bool) (i : Nat) : word f i ||| word h i = word (un f h) i := word_or f h i
theorem mi_word (f h : Nat → Bool) (i : Nat) : without (word f i) (word h i) = word (mi f h) i :=
  word_sub (f := f) (h := h) (without_lt (word_lt' _ _)) (fun j hj => without_bit (word_lt' _ _) j hj) fun _ _ => rfl

theorem cunion_inv1 (v : Option Addr) (u : Option Addr) (w : World) (h : Inv w v) : Calls Tryd.prog 40 #[.pointer v, .pointer u, (.func (.func 41) #[] #[])] w fun e w' => e = .returned (.int .i64 1) ∧ w = w' := by
  have H := Lib.hid h
  clear h
  go_enter Tryd.func40, Tryd.ntmps40
  go_wp2_with (go_at_call 38; refine (valid_no _ _ H.out).mono ?_; rintro e w' ⟨rfl, rfl⟩)
  go_ret
  exact ⟨rfl, rfl⟩
theorem cunion_inv2 (b g n : Nat) (f : Nat → Bool) (v : Option Addr) (w : World) (hs : SetW w b g n f) (h : Inv w v) : Calls Tryd.prog 40 #[.pointer (some ⟨b, 0, none⟩), .pointer v, (.func (.func 41) #[] #[])] w fun e w' => e = .returned (.int .i64 1) ∧ w = w' := by
  have H := Lib.hid h
  have HS := Lib.hid hs
  clear h hs
  go_enter Tryd.func40, Tryd.ntmps40
  go_wp2_with (first
    | (go_at_call 38; (with_reducible refine (valid_yes _ _ _ _ _ HS.out).mono ?_); clear HS; rintro e w' ⟨rfl, rfl⟩)
    | (go_at_call 38; refine (valid_no _ _ H.out).mono ?_; rintro e w' ⟨rfl, rfl⟩))
  go_ret
  exact ⟨rfl, rfl⟩
theorem cunion_arg (b g n b2 g2 m : Nat) (f h : Nat → Bool) (w : World) (hs : SetW w b g n f) (ht : SetW w b2 g2 m h) (hne : n ≠ m) : Calls Tryd.prog 40 #[.pointer (some ⟨b, 0, none⟩), .pointer (some ⟨b2, 0, none⟩), (.func (.func 41) #[] #[])] w fun e w' => e = .returned (.int .i64 2) ∧ ∃ q, w' = w.drewN q := by
  have HS := Lib.hid hs
  have HT := Lib.hid ht
  have hc0 := hs.c0
  have hc2 := ht.c0
  have hd : ((n : Int) != (m : Int)) = true := by simp; omega
  clear hs ht
  go_enter Tryd.func40, Tryd.ntmps40
  go_wp2_with (first
    | (go_at_call 38; (with_reducible refine (valid_yes _ _ _ _ _ HS.out).mono ?_); rintro e w' ⟨rfl, rfl⟩)
    | (go_at_call 38; (with_reducible refine (valid_yes _ _ _ _ _ HT.out).mono ?_); rintro e w' ⟨rfl, rfl⟩))
  go_quiet (fail)
  go_wp2
  go_ret
  exact ⟨rfl, _, rfl⟩

set_option maxHeartbeats 2000000 in
theorem cunion_ok (b g b2 g2 n : Nat) (f h : Nat → Bool) (w : World) (hs : SetW w b g n f) (ht : SetW w b2 g2 n h) (sep : g2 ≠ g ∨ (b2 = b ∧ g2 = g ∧ h = f)) : Calls Tryd.prog 40 #[.pointer (some ⟨b, 0, none⟩), .pointer (some ⟨b2, 0, none⟩), (.func (.func 41) #[] #[])] w fun e w' => e = .returned (.int .i64 0) ∧ SetW w' b g n (un f h) ∧ Kept (· = g) w w' := by
  have hout : ∀ k, n ≤ k → un f h k = false := fun k hk => by simp [un, hs.out k hk, ht.out k hk]
  have HS := Lib.hid hs
  have HT := Lib.hid ht
  have SEP := Lib.hid sep
  have HOUT := Lib.hid hout
  have hc0 := hs.c0
  have hc2 := ht.c0
  obtain ⟨cap2, hc3, hcap2, hcm2⟩ := ht.c1
  have hnl := nw_le hs.hi
  have hd : ((n : Int) != (n : Int)) = false := by simp
  have hb2 : b2 ≠ g := by
    intro e
    obtain ⟨_, _, h1, _⟩ := ht.at_
    obtain ⟨_, _, _, h2, _⟩ := hs.at_
    rw [e] at h1
    exact absurd (h1.uniq h2).1 (by decide)
  have HB2 := Lib.hid hb2
  have H1 : Hid (SetW w b g n (mix f (un f h) 0)) := by rw [mix_zero]; exact hs
  have HM : Hid (∃ m, nw n = m) := ⟨_, rfl⟩
  clear hs ht sep hout hb2
  go_enter Tryd.func40, Tryd.ntmps40
  go_wp2_with (first
    | (go_at_call 38; (with_reducible refine (valid_yes _ _ _ _ _ HS.out).mono ?_); rintro e w' ⟨rfl, rfl⟩)
    | (go_at_call 38; (with_reducible refine (valid_yes _ _ _ _ _ HT.out).mono ?_); rintro e w' ⟨rfl, rfl⟩))
  go_quiet (fail)
  go_wp2
  clear hd hc0 hc2 hc3
  go_loopw [33] (fun i wr => ∃ k : Nat, k ≤ nw n ∧ i = .int .i64 k ∧ Hid (SetW wr b g n (mix f (un f h) k)) ∧ Hid (Kept (· = g) w wr)) (fun i _ => nw n - (intOf i).toNat)
  case atStart => exact ⟨0, Nat.zero_le _, rfl, H1.out.drewN _, (Kept.refl _ w).drewN _⟩
  case round =>
    obtain ⟨k, hk, rfl, HW, HK⟩ := hrel
    by_cases hlt : k < nw n
    · obtain ⟨cap, hc1, hcap, hcm⟩ := HW.out.c1
      have hx := HW.out.word hlt
      rw [mix_word] at hx
      have hy := other_word HT.out SEP.out HK.out HW.out hlt
      have hfz := HW.out.fz k
      have hz := un_word f h k
      have hx64 := word_lt' f k
      have hy64 := word_lt' h k
      have PUT : Hid (∀ q u, u = Value.int .u64 (word (un f h) k) → SetW ((wr.drewN q).setCell ⟨g, k, none⟩ u) b g n (mix f (un f h) (k + 1))) := fun q u hu =>
        (HW.out.drewN q).put (mix_out HS.out.out HOUT.out) (fun j hj => mix_far f (un f h) k j hj) (by rw [mix_word']; exact hu)
      obtain ⟨x, ex⟩ : ∃ x, word f k = x := ⟨_, rfl⟩
      obtain ⟨y, ey⟩ : ∃ y, word h k = y := ⟨_, rfl⟩
      obtain ⟨z, ez⟩ : ∃ z, word (un f h) k = z := ⟨_, rfl⟩
      rw [ex] at hx hz hx64
      rw [ey] at hy hz hy64
      rw [ez] at hz PUT
      have HZ := Lib.hid hz
      have HX := Lib.hid hx64
      have HY := Lib.hid hy64
      clear hz hx64 hy64 ex ey ez
      go_wp2
      go_region_with (go_at_call 41; refine (union1 x y _ HX.out HY.out).mono ?_; rw [HZ.out]; rintro e w' ⟨rfl, rfl⟩)
      all_goals
        have HP : Hid (SetW (wr.setCell ⟨g, k, none⟩ (.int .u64 z)) b g n (mix f (un f h) (k + 1))) := PUT.out 0 _ rfl
        go_wp2
        go_roundw
        case rel => exact ⟨k + 1, by omega, by go_num, HP.out.same rfl rfl, (HK.out.put1 _ _).drew⟩
        case measure => simp [intOf]; omega
    · obtain rfl : k = nw n := by omega
      have HF : Hid (SetW wr b g n (un f h)) := by have := HW.out; rw [mix_all HS.out.out HOUT.out] at this; exact this
      go_wp2
      go_ret
      exact ⟨rfl, HF.out, HK.out⟩
theorem union_inv1 (v : Option Addr) (u : Option Addr) (w : World) (h : Inv w v) : Calls Tryd.prog 19 #[.pointer v, .pointer u] w fun e w' => e = .returned (.int .i64 1) ∧ w = w' := by
  have H := Lib.hid h
  clear h
  go_enter Tryd.func19, Tryd.ntmps19
  go_wp2_with (go_at_call 40; refine (cunion_inv1 _ _ _ H.out).mono ?_; rintro e w' ⟨rfl, rfl⟩)
  go_ret
  exact ⟨rfl, rfl⟩
theorem union_inv2 (b g n : Nat) (f : Nat → Bool) (v : Option Addr) (w : World) (hs : SetW w b g n f) (h : Inv w v) : Calls Tryd.prog 19 #[.pointer (some ⟨b, 0, none⟩), .pointer v] w fun e w' => e = .returned (.int .i64 1) ∧ w = w' := by
  have H := Lib.hid (cunion_inv2 b g n f v w hs h)
  clear h hs
  go_enter Tryd.func19, Tryd.ntmps19
  go_wp2_with (go_at_call 40; refine H.out.mono ?_; rintro e w' ⟨rfl, rfl⟩)
  go_ret
  exact ⟨rfl, rfl⟩
theorem union_arg (b g n b2 g2 m : Nat) (f h : Nat → Bool) (w : World) (hs : SetW w b g n f) (ht : SetW w b2 g2 m h) (hne : n ≠ m) : Calls Tryd.prog 19 #[.pointer (some ⟨b, 0, none⟩), .pointer (some ⟨b2, 0, none⟩)] w fun e w' => e = .returned (.int .i64 2) ∧ ∃ q, w' = w.drewN q := by
  have H := Lib.hid (cunion_arg b g n b2 g2 m f h w hs ht hne)
  clear hs ht hne
  go_enter Tryd.func19, Tryd.ntmps19
  go_wp2_with (go_at_call 40; refine H.out.mono ?_; rintro e w' ⟨rfl, q, rfl⟩)
  go_ret
  exact ⟨rfl, _, rfl⟩
theorem union_ok (b g b2 g2 n : Nat) (f h : Nat → Bool) (w : World) (hs : SetW w b g n f) (ht : SetW w b2 g2 n h) (sep : g2 ≠ g ∨ (b2 = b ∧ g2 = g ∧ h = f)) : Calls Tryd.prog 19 #[.pointer (some ⟨b, 0, none⟩), .pointer (some ⟨b2, 0, none⟩)] w fun e w' => e = .returned (.int .i64 0) ∧ SetW w' b g n (un f h) ∧ Kept (· = g) w w' := by
  have H := Lib.hid (cunion_ok b g b2 g2 n f h w hs ht sep)
  clear hs ht sep
  go_enter Tryd.func19, Tryd.ntmps19
  go_wp2_with (go_at_call 40; refine H.out.mono ?_; rintro e w' ⟨rfl, hs1, hk1⟩)
  go_ret
  exact ⟨rfl, hs1, hk1⟩

end Go.Proofs.YtaenemdclmnnaaaDoor
