/- Cases of the program's Peek; its contract. -/
import Derived.Test.YtpgokoeedmipeaaDoorAi
namespace Go.Proofs.YtpgokoeedmipeaaDoor
open Go.RowKit

set_option maxRecDepth 100000 in
set_option maxHeartbeats 4000000 in
theorem peekc_sf (b N c : Nat) (n : Int) (a : Addr) (_ : c ≤ 9223372036854775807) (hN : N ≤ c) (h1 : (N : Int) < n) (h2 : 0 < N) (w : World) (R : Ending → World → Prop) (hc0 : w.cell? ⟨b, 0, none⟩ = some (.bool true)) (hc1 : w.cell? ⟨b, 1, none⟩ = some (.slice (some a) N c))
    (HCL : Hid (∀ W : World, W.heap = w.heap → W.os = w.os → W.tape = w.tape → W.output = w.output → Calls Tryd.prog 17 #[.slice (some a) N c] W fun e w' => ∃ v, e = .returned v ∧ R e w' ∧ w'.cell? ⟨b, 1, none⟩ = some (.slice (some a) N c))) :
    Calls Tryd.prog 9 #[.pointer (some ⟨b, 0, none⟩), .int .i64 n] w R := by
  go_enter Tryd.func9, Tryd.ntmps9
  go_wp2_with (go_at_call 15; refine (valid_yes _ _ hc0).mono ?_; rintro e w' ⟨rfl, rfl⟩)
  clear hc0
  go_region_held3 (fun W => W.cell? ⟨b, 1, none⟩ = some (.slice (some a) N c)) (first | exact hc1 | exact hz1)
    (first | (go_at_call 17; refine (HCL.out _ (by rfl) (by rfl) (by rfl) (by rfl)).mono ?_; rintro e w1 ⟨v, rfl, h3, hz1⟩; have HV := Lib.hid h3; clear h3))
  all_goals
    go_wp2
    exact HV.out
set_option maxRecDepth 100000 in
set_option maxHeartbeats 4000000 in
theorem peekc_sg (b c : Nat) (n : Int) (a : Addr) (_ : c ≤ 9223372036854775807) (h1 : 0 < n) (w : World) (R : Ending → World → Prop) (hc0 : w.cell? ⟨b, 0, none⟩ = some (.bool true)) (hc1 : w.cell? ⟨b, 1, none⟩ = some (.slice (some a) 0 c))
    (HCL : Hid (∀ W : World, W.heap = w.heap → W.os = w.os → W.tape = w.tape → W.output = w.output → Calls Tryd.prog 17 #[.slice (some a) 0 c] W fun e w' => ∃ v, e = .returned v ∧ R e w' ∧ w'.cell? ⟨b, 1, none⟩ = some (.slice (some a) 0 c))) :
    Calls Tryd.prog 9 #[.pointer (some ⟨b, 0, none⟩), .int .i64 n] w R := by
  go_enter Tryd.func9, Tryd.ntmps9
  go_wp2_with (go_at_call 15; refine (valid_yes _ _ hc0).mono ?_; rintro e w' ⟨rfl, rfl⟩)
  clear hc0
  go_region_held3 (fun W => W.cell? ⟨b, 1, none⟩ = some (.slice (some a) 0 c)) (first | exact hc1 | exact hz1)
    (first | (go_at_call 17; refine (HCL.out _ (by rfl) (by rfl) (by rfl) (by rfl)).mono ?_; rintro e w1 ⟨v, rfl, h3, hz1⟩; have HV := Lib.hid h3; clear h3))
  all_goals
    go_wp2
    exact HV.out
set_option maxRecDepth 100000 in
set_option maxHeartbeats 4000000 in
theorem peekc_na (b : Nat) (n : Int) (h2 : (0 < n) = False) (w : World) (R : Ending → World → Prop) (hc0 : w.cell? ⟨b, 0, none⟩ = some (.bool true)) (hc1 : w.cell? ⟨b, 1, none⟩ = some (.slice none 0 0))
    (HCL : Hid (∀ W : World, W.heap = w.heap → W.os = w.os → W.tape = w.tape → W.output = w.output → Calls Tryd.prog 17 #[.slice none 0 0] W fun e w' => ∃ v, e = .returned v ∧ R e w' ∧ w'.cell? ⟨b, 1, none⟩ = some (.slice none 0 0))) :
    Calls Tryd.prog 9 #[.pointer (some ⟨b, 0, none⟩), .int .i64 n] w R := by
  go_enter Tryd.func9, Tryd.ntmps9
  go_wp2_with (go_at_call 15; refine (valid_yes _ _ hc0).mono ?_; rintro e w' ⟨rfl, rfl⟩)
  clear hc0
  go_region_held3 (fun W => W.cell? ⟨b, 1, none⟩ = some (.slice none 0 0)) (first | exact hc1 | exact hz1)
    (first | (go_at_call 17; refine (HCL.out _ (by rfl) (by rfl) (by rfl) (by rfl)).mono ?_; rintro e w1 ⟨v, rfl, h3, hz1⟩; have HV := Lib.hid h3; clear h3))
  all_goals
    go_wp2
    exact HV.out
set_option maxRecDepth 100000 in
set_option maxHeartbeats 4000000 in
theorem peekc_nb (b : Nat)  (w : World) (R : Ending → World → Prop) (hc0 : w.cell? ⟨b, 0, none⟩ = some (.bool true)) (hc1 : w.cell? ⟨b, 1, none⟩ = some (.slice none 0 0))
    (HCL : Hid (∀ W : World, W.heap = w.heap → W.os = w.os → W.tape = w.tape → W.output = w.output → Calls Tryd.prog 17 #[.slice none 0 0] W fun e w' => ∃ v, e = .returned v ∧ R e w' ∧ w'.cell? ⟨b, 1, none⟩ = some (.slice none 0 0))) :
    Calls Tryd.prog 9 #[.pointer (some ⟨b, 0, none⟩), .int .i64 0] w R := by
  go_enter Tryd.func9, Tryd.ntmps9
  go_wp2_with (go_at_call 15; refine (valid_yes _ _ hc0).mono ?_; rintro e w' ⟨rfl, rfl⟩)
  clear hc0
  go_region_held3 (fun W => W.cell? ⟨b, 1, none⟩ = some (.slice none 0 0)) (first | exact hc1 | exact hz1)
    (first | (go_at_call 17; refine (HCL.out _ (by rfl) (by rfl) (by rfl) (by rfl)).mono ?_; rintro e w1 ⟨v, rfl, h3, hz1⟩; have HV := Lib.hid h3; clear h3))
  all_goals
    go_wp2
    exact HV.out
set_option maxRecDepth 100000 in
set_option maxHeartbeats 4000000 in
theorem peekc_ng (b : Nat) (n : Int) (h1 : 0 < n) (w : World) (R : Ending → World → Prop) (hc0 : w.cell? ⟨b, 0, none⟩ = some (.bool true)) (hc1 : w.cell? ⟨b, 1, none⟩ = some (.slice none 0 0))
    (HCL : Hid (∀ W : World, W.heap = w.heap → W.os = w.os → W.tape = w.tape → W.output = w.output → Calls Tryd.prog 17 #[.slice none 0 0] W fun e w' => ∃ v, e = .returned v ∧ R e w' ∧ w'.cell? ⟨b, 1, none⟩ = some (.slice none 0 0))) :
    Calls Tryd.prog 9 #[.pointer (some ⟨b, 0, none⟩), .int .i64 n] w R := by
  go_enter Tryd.func9, Tryd.ntmps9
  go_wp2_with (go_at_call 15; refine (valid_yes _ _ hc0).mono ?_; rintro e w' ⟨rfl, rfl⟩)
  clear hc0
  go_region_held3 (fun W => W.cell? ⟨b, 1, none⟩ = some (.slice none 0 0)) (first | exact hc1 | exact hz1)
    (first | (go_at_call 17; refine (HCL.out _ (by rfl) (by rfl) (by rfl) (by rfl)).mono ?_; rintro e w1 ⟨v, rfl, h3, hz1⟩; have HV := Lib.hid h3; clear h3))
  all_goals
    go_wp2
    exact HV.out

theorem peek_ok (b : Nat) (n : Int) (L : List Int) (w : World) (h : SrcW 39 w b L) : Calls Tryd.prog 9 #[.pointer (some ⟨b, 0, none⟩), .int .i64 n] w (NewV (L.take n.toNat) w) := by
  obtain ⟨a, c, hc0, hc1, _, hsl, hbk⟩ := h.cells
  have hle := h.ok.le
  obtain ⟨_, hcap, hcm, hnil⟩ := hsl.cap
  unfold maxLen at hcm
  have hbl := hbk.lt
  have key : ∀ k, k ≤ L.length → Hid (∀ W : World, W.heap = w.heap → W.os = w.os → W.tape = w.tape → W.output = w.output → Calls Tryd.prog 17 #[.slice a k c] W fun e w' => ∃ v, e = .returned v ∧ NewV (L.take k) w e w' ∧ w'.cell? ⟨b, 1, none⟩ = some (.slice a L.length c)) := fun k hk W e1 e2 e3 e4 =>
    (clone_ok a k c (L.take k) W ((hsl.take hk).same fun g _ _ => by rw [e1]) (by rw [List.length_take]; omega)).mono fun e w' ⟨v, h3, h4, h5⟩ => by
      rw [e1] at h4
      have hb : Below w.heap.size w w' := ⟨h5.os.trans e2, h5.tape.trans e3, h5.output.trans e4, by rw [← e1]; exact h5.size, fun j hj => by rw [h5.block j (by rw [e1]; exact hj), e1]⟩
      exact ⟨v, h3, ⟨v, h3, h4, hb⟩, (hb.cell (p := ⟨b, 1, none⟩) hbl).trans hc1⟩
  have e0 : n ≤ 0 → n.toNat = 0 := fun h => by omega
  have e1 : (L.length : Int) ≤ n → L.take n.toNat = L.take L.length := fun h => by rw [List.take_length, List.take_of_length_le (by omega)]
  cases a with
  | none =>
    have hc := hnil rfl
    subst hc
    have hl : L.length = 0 := by omega
    rw [hl] at hc1 key
    have k0 := key 0 (Nat.zero_le _)
    have e2 : L.take n.toNat = L.take 0 := by rw [List.eq_nil_of_length_eq_zero hl]; simp
    rw [e2]
    by_cases h1 : n < 0
    · exact peekc_na b n (by simp; omega) w _ hc0 hc1 k0
    by_cases h2 : n = 0
    · subst h2; exact peekc_nb b w _ hc0 hc1 k0
    · exact peekc_ng b n (by omega) w _ hc0 hc1 k0
  | some a =>
    have k0 := key 0 (Nat.zero_le _)
    by_cases h1 : n < 0
    · rw [e0 (by omega)]
      exact peekc_sa b L.length c n a (by omega) (by simp; omega) (by simp; omega) w _ hc0 hc1 k0
    by_cases hl : L.length = 0
    · have e2 : L.take n.toNat = L.take 0 := by rw [List.eq_nil_of_length_eq_zero hl]; simp
      rw [e2]
      rw [hl] at hc1 k0
      by_cases h2 : n = 0
      · subst h2; exact peekc_sb b c a (by omega) w _ hc0 hc1 k0
      · exact peekc_sg b c n a (by omega) (by omega) w _ hc0 hc1 k0
    by_cases h2 : n = 0
    · subst h2
      exact peekc_sd b L.length c a (by omega) (by simp) w _ hc0 hc1 k0
    by_cases h3 : (L.length : Int) < n
    · rw [e1 (by omega)]
      exact peekc_sf b L.length c n a (by omega) hcap h3 (by omega) w _ hc0 hc1 (key _ (Nat.le_refl _))
    obtain ⟨m, rfl⟩ : ∃ m : Nat, n = (m : Int) := ⟨n.toNat, by omega⟩
    rw [Int.toNat_natCast]
    by_cases h4 : m < L.length
    · exact peekc_sc b L.length m c a (by omega) (by omega) (by omega) (by omega) w _ hc0 hc1 (key _ (Nat.le_of_lt h4))
    · obtain rfl : m = L.length := by omega
      exact peekc_se b L.length c a (by omega) hcap (by omega) w _ hc0 hc1 (key _ (Nat.le_refl _))
end Go.Proofs.YtpgokoeedmipeaaDoor
