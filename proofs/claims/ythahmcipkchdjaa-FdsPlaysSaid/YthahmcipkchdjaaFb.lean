/- The contracts of the document's check, Number and Close. -/
import Derived.Test.YthahmcipkchdjaaFa
import Derived.Deep.QuietTactic
import Derived.BigQuiet
namespace Go.Proofs.Ythahmcipkchdjaa
open Go.RowKit

set_option maxHeartbeats 2000000 in
theorem dcheck_no (c d : Nat) (F : Fb) (x y z : Int) (hr : RgO x y z) (hf : ¬ IsFile x y z) (w : World) (_h : DW w c d F) : Calls Try.prog 40 #[.pointer (some ⟨c, 0, none⟩), .agg #[.int .i64 x, .int .i64 y, .int .u32 z]] w fun e w' => e = .returned (.int .i64 2) ∧ Below w.heap.size w w' := by
  clear _h
  rcases not_file hf hr with hb | ⟨hk, k', i', g', rfl, rfl, rfl, ho⟩
  · have HR := Lib.hid hr
    have HH := Lib.hid hb
    clear hr hf hb
    go_enter Try.func40, Try.ntmps40
    go_wp2_with (go_at_call 57; refine (rochk_bad _ _ _ HR.out HH.out _).mono ?_; rintro e w2 ⟨rfl, hb2⟩; have HB := Lib.hid hb2; clear hb2)
    go_ret
    exact ⟨rfl, bel2 ((Below.refl _ _).alloc (Nat.le_refl _) _) HB.out⟩
  · have HH := Lib.hid ho
    have hk2 : ((k' : Int) != 1) = true := by simp; omega
    clear hr hf ho
    go_enter Try.func40, Try.ntmps40
    go_wp2_with (go_at_call 57; refine (rochk_ok _ _ _ HH.out _).mono ?_; rintro e w2 ⟨rfl, hb2⟩; have HB := Lib.hid hb2; obtain ⟨q0, q1, q2, q3⟩ := box_o hb2; clear hb2)
    go_ret
    exact ⟨rfl, bel2 ((Below.refl _ _).alloc (Nat.le_refl _) _) HB.out⟩
set_option maxHeartbeats 4000000 in
theorem dcheck_file (c d i : Nat) (F : Fb) (g : Nat) (ho : Okn 64 1 i g) (E : Int) (hE : F.t.chk i g = E) (w : World) (h : DW w c d F) : Calls Try.prog 40 #[.pointer (some ⟨c, 0, none⟩), .agg #[.int .i64 1, .int .i64 i, .int .u32 g]] w fun e w' => e = .returned (.int .i64 E) ∧ Below w.heap.size w w' := by
  have HH := Lib.hid ho
  have HC : Hid (∀ W, Below w.heap.size w W → DW W c d F) := fun W hW => h.below hW
  have hnb : F.t.n ≤ 256 := h.ok.t.hi
  obtain ⟨n, hn⟩ : ∃ n, F.t.n = n := ⟨_, rfl⟩
  rw [hn] at hnb
  have hi64 : (i : Int) ≤ 64 := by have := ho.2.2.1; omega
  have hg0 : (g : Int) ≤ 4294967295 := by have := ho.2.2.2.2; omega
  by_cases hin : i < n
  · have hs : (F.t.s i = 1 ∧ (F.t.g i : Int) = g ∧ E = 0) ∨ (F.t.s i = 1 ∧ (F.t.g i : Int) ≠ g ∧ E = 7) ∨ (F.t.s i ≠ 1 ∧ E = 7) := by
      rw [← hE]
      unfold Tb.chk
      rw [if_neg (by rw [hn]; omega)]
      simp only [Int.toNat_natCast]
      by_cases h1 : F.t.s i = 1
      · by_cases h2 : (F.t.g i : Int) = g
        · exact .inl ⟨h1, h2, if_pos ⟨h1, h2⟩⟩
        · exact .inr (.inl ⟨h1, h2, if_neg fun e => h2 e.2⟩)
      · exact .inr (.inr ⟨h1, if_neg fun e => h1 e.1⟩)
    clear h ho hE
    have HN := Lib.hid hn
    clear hn
    rcases hs with ⟨h1, h2, rfl⟩ | ⟨h1, h2, rfl⟩ | ⟨h1, rfl⟩
    · have hb : Hid ((F.t.s i == 1) = true) := by simp [h1, Hid]
      have H2 := Lib.hid h2
      clear h1 h2
      go_enter Try.func40, Try.ntmps40
      go_wp2_with (go_at_call 57; refine (rochk_ok _ _ _ HH.out _).mono ?_; rintro e w2 ⟨rfl, hb2⟩; have HB := Lib.hid (bel2 ((Below.refl _ _).alloc (Nat.le_refl _) _) hb2); obtain ⟨q0, q1, q2, q3⟩ := box_o hb2; clear hb2)
      obtain ⟨cap, c0, hc1, hc2⟩ := (HC.out w2 HB.out).c0
      obtain ⟨i0, i1, i2, i3⟩ := (HC.out w2 HB.out).ci (i := i) (by rw [HN.out]; exact hin)
      rw [HN.out] at c0 hc1
      rw [hb.out] at i0
      clear i1 i3
      rw [H2.out] at i2
      go_quiet (fail)
      go_wp2
      go_quiet (fail)
      go_wp2
      go_ret
      exact ⟨rfl, bel_drewN (bel_drewN HB.out _) _⟩
    · have hb : Hid ((F.t.s i == 1) = true) := by simp [h1, Hid]
      have H2 := Lib.hid h2
      clear h1 h2
      go_enter Try.func40, Try.ntmps40
      go_wp2_with (go_at_call 57; refine (rochk_ok _ _ _ HH.out _).mono ?_; rintro e w2 ⟨rfl, hb2⟩; have HB := Lib.hid (bel2 ((Below.refl _ _).alloc (Nat.le_refl _) _) hb2); obtain ⟨q0, q1, q2, q3⟩ := box_o hb2; clear hb2)
      obtain ⟨cap, c0, hc1, hc2⟩ := (HC.out w2 HB.out).c0
      obtain ⟨i0, i1, i2, i3⟩ := (HC.out w2 HB.out).ci (i := i) (by rw [HN.out]; exact hin)
      rw [HN.out] at c0 hc1
      rw [hb.out] at i0
      clear i1 i3
      have hne : (((F.t.g i : Nat) : Int) != g) = true := by have := H2.out; simp; omega
      generalize F.t.g i = fg at *
      go_quiet (fail)
      go_wp2
      go_quiet (fail)
      go_wp2
      go_ret
      exact ⟨rfl, bel_drewN (bel_drewN HB.out _) _⟩
    · have hb : Hid ((F.t.s i == 1) = false) := by simp [h1, Hid]
      clear h1
      go_enter Try.func40, Try.ntmps40
      go_wp2_with (go_at_call 57; refine (rochk_ok _ _ _ HH.out _).mono ?_; rintro e w2 ⟨rfl, hb2⟩; have HB := Lib.hid (bel2 ((Below.refl _ _).alloc (Nat.le_refl _) _) hb2); obtain ⟨q0, q1, q2, q3⟩ := box_o hb2; clear hb2)
      obtain ⟨cap, c0, hc1, hc2⟩ := (HC.out w2 HB.out).c0
      obtain ⟨i0, i1, i2, i3⟩ := (HC.out w2 HB.out).ci (i := i) (by rw [HN.out]; exact hin)
      rw [HN.out] at c0 hc1
      rw [hb.out] at i0
      clear i1 i3
      generalize F.t.g i = fg at *
      go_quiet (fail)
      go_wp2
      go_quiet (fail)
      go_wp2
      go_ret
      exact ⟨rfl, bel_drewN (bel_drewN HB.out _) _⟩
  · obtain rfl : E = 3 := by
      rw [← hE]; unfold Tb.chk; rw [if_pos (.inr (by rw [hn]; omega))]
    clear h ho hE
    have HN := Lib.hid hn
    clear hn
    go_enter Try.func40, Try.ntmps40
    go_wp2_with (go_at_call 57; refine (rochk_ok _ _ _ HH.out _).mono ?_; rintro e w2 ⟨rfl, hb2⟩; have HB := Lib.hid (bel2 ((Below.refl _ _).alloc (Nat.le_refl _) _) hb2); obtain ⟨q0, q1, q2, q3⟩ := box_o hb2; clear hb2)
    obtain ⟨cap, c0, hc1, hc2⟩ := (HC.out w2 HB.out).c0
    rw [HN.out] at c0 hc1
    go_quiet (fail)
    go_wp2
    go_ret
    exact ⟨rfl, bel_drewN HB.out _⟩
end Go.Proofs.Ythahmcipkchdjaa
