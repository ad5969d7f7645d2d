/- The helper same, that the statements about pools share: pools in the same state show the same. -/
import Derived.Test.YtjhgckaaaonbiaaUz
namespace Go.Proofs.Ytjhgckaaaonbiaa
open Go.RowKit

set_option maxHeartbeats 4000000 in
set_option maxRecDepth 100000 in
theorem same_ok (b s k b' s' k' : Nat) (P : Po) (w : World) (h : PW w b s k P) (h' : PW w b' s' k' P) :
    Calls Try.prog 25 #[.pointer (some ⟨b, 0, none⟩), .pointer (some ⟨b', 0, none⟩)] w fun e w' => e = .returned (.bool true) ∧ Below w.heap.size w w' := by
  have AL1 := Lib.hid (pall_ok b s k P w h)
  have AL2 : Hid (∀ W, Below w.heap.size w W → Calls Try.prog 22 #[.pointer (some ⟨b', 0, none⟩)] W (NewO P.all W)) := fun W hW => pall_ok b' s' k' P W (h'.below hW)
  have US1 : Hid (∀ W, Below w.heap.size w W → Calls Try.prog 21 #[.pointer (some ⟨b, 0, none⟩)] W fun e w' => e = .returned (.int .i64 P.used) ∧ Below W.heap.size W w') := fun W hW => pused_ok b s k P W (h.below hW)
  have US2 : Hid (∀ W, Below w.heap.size w W → Calls Try.prog 21 #[.pointer (some ⟨b', 0, none⟩)] W fun e w' => e = .returned (.int .i64 P.used) ∧ Below W.heap.size W w') := fun W hW => pused_ok b' s' k' P W (h'.below hW)
  have LN1 : Hid (∀ W, Below w.heap.size w W → Calls Try.prog 23 #[.pointer (some ⟨b, 0, none⟩)] W fun e w' => e = .returned (.int .i64 P.t.held.length) ∧ Below W.heap.size W w') := fun W hW => plen_ok b s k P W (h.below hW)
  have LN2 : Hid (∀ W, Below w.heap.size w W → Calls Try.prog 23 #[.pointer (some ⟨b', 0, none⟩)] W fun e w' => e = .returned (.int .i64 P.t.held.length) ∧ Below W.heap.size W w') := fun W hW => plen_ok b' s' k' P W (h'.below hW)
  have BY1 : Hid (∀ W, Below w.heap.size w W → ∀ (i : Nat) g, P.chk 2 i g = 0 → Calls Try.prog 20 #[.pointer (some ⟨b, 0, none⟩), .agg #[.int .i64 2, .int .i64 i, .int .u32 g]] W (BytesV (P.m i) 0 W)) := fun W hW i g hc => pbytes_yes b s k P 2 i g W (h.below hW) (by
    obtain ⟨_, j, e, h2, _⟩ := Po.chk_pinned hc
    have := h.ok.hi
    omega) hc
  have BY2 : Hid (∀ W, Below w.heap.size w W → ∀ (i : Nat) g, P.chk 2 i g = 0 → Calls Try.prog 20 #[.pointer (some ⟨b', 0, none⟩), .agg #[.int .i64 2, .int .i64 i, .int .u32 g]] W (BytesV (P.m i) 0 W)) := fun W hW i g hc => pbytes_yes b' s' k' P 2 i g W (h'.below hW) (by
    obtain ⟨_, j, e, h2, _⟩ := Po.chk_pinned hc
    have := h.ok.hi
    omega) hc
  have AT : Hid (∀ (j : Nat) (h : j < P.all.length), ∃ i : Nat, P.all[j] = ⟨2, i, P.t.g i⟩ ∧ P.chk 2 i (P.t.g i) = 0) := fun j hj => by
    obtain ⟨i, h1, h2, h3⟩ := Po.all_at (List.getElem?_eq_getElem hj)
    exact ⟨i, h1, Po.chk_held h2 h3⟩
  have hNb : (P.all.length : Int) ≤ 64 := by have := h.ok.held_len; rw [P.all_len]; omega
  clear h h'
  go_enter Try.func25, Try.ntmps25
  go_wp2_with fail
  refine AL1.out.mono ?_
  rintro e w1 ⟨p1, c1, rfl, o1, b1⟩
  have R1 := Lib.hid (RdO.of_own o1)
  have B1 := Lib.hid b1
  clear o1 b1 AL1
  go_wp2_with fail
  refine (AL2.out _ B1.out).mono ?_
  rintro e w2 ⟨p2, c2, rfl, o2, b2⟩
  have R2 := Lib.hid (RdO.of_own o2)
  have R1' := Lib.hid (R1.out.below b2)
  have B2 := Lib.hid (bel2 B1.out b2)
  clear o2 b2 AL2 R1 B1
  obtain ⟨N, hN⟩ : ∃ N, P.all.length = N := ⟨_, rfl⟩
  rw [hN] at R1' R2 hNb ⊢
  obtain ⟨U, hU⟩ : ∃ U, P.used = U := ⟨_, rfl⟩
  rw [hU] at US1 US2
  obtain ⟨M, hM⟩ : ∃ M, P.t.held.length = M := ⟨_, rfl⟩
  rw [hM] at LN1 LN2
  have HN := Lib.hid hN
  clear hU hM hN
  go_wp2_with (first
    | (go_at_call 21; (with_reducible refine (US1.out _ B2.out).mono ?_); rintro e w3 ⟨rfl, b3⟩; have B3 := Lib.hid (bel2 B2.out b3); have K3 := Lib.hid b3; clear b3)
    | (go_at_call 21; (with_reducible refine (US2.out _ B3.out).mono ?_); rintro e w4 ⟨rfl, b4⟩; have B4 := Lib.hid (bel2 B3.out b4); have K4 := Lib.hid (bel2 K3.out b4); clear b4)
    | (go_at_call 23; (with_reducible refine (LN1.out _ B4.out).mono ?_); rintro e w5 ⟨rfl, b5⟩; have B5 := Lib.hid (bel2 B4.out b5); have K5 := Lib.hid (bel2 K4.out b5); clear b5)
    | (go_at_call 23; (with_reducible refine (LN2.out _ B5.out).mono ?_); rintro e w6 ⟨rfl, b6⟩; have B6 := Lib.hid (bel2 B5.out b6); have K6 := Lib.hid (bel2 K5.out b6); clear b6))
  have Q1 := Lib.hid (R1'.out.below K6.out)
  have Q2 := Lib.hid (R2.out.below K6.out)
  clear K3 K4 K5 B3 B4 B5 R1' R2 US1 US2 LN1 LN2 K6 B2
  go_loopw [7] (fun v wr => ∃ j : Nat, j ≤ N ∧ v = .int .i64 j ∧ Hid (Below w6.heap.size w6 wr)) (fun v _ => N - (intOf v).toNat)
  case atStart => exact ⟨0, Nat.zero_le _, rfl, Below.refl _ _⟩
  case round =>
    obtain ⟨j, hj, rfl, HB⟩ := hrel
    by_cases hlt : j < N
    · have hjl : j < P.all.length := by rw [HN.out]; exact hlt
      obtain ⟨i, e1, hc⟩ := AT.out j hjl
      have CX : Hid (∀ (p : Option Addr) (c : Nat) (W : World), Below w6.heap.size w6 W → RdO w6 (.slice p N c) P.all → ∃ g off, p = some ⟨g, off, none⟩ ∧ g < W.heap.size ∧ Three W g (off + j * 3) ⟨2, i, P.t.g i⟩) := fun p c W hW hR => by
        obtain ⟨g, off, h1, h2, h3⟩ := (hR.below hW).cell hjl
        rw [e1] at h3
        exact ⟨g, off, h1, h2, h3⟩
      obtain ⟨g1, o1, rfl, hg1, t0, t1, t2⟩ := CX.out p1 c1 wr HB.out Q1.out
      obtain ⟨g2, o2, rfl, hg2, u0, u1, u2⟩ := CX.out p2 c2 wr HB.out Q2.out
      have BX1 : Hid (∀ W, Below w6.heap.size w6 W → Calls Try.prog 20 #[.pointer (some ⟨b, 0, none⟩), .agg #[.int .i64 2, .int .i64 i, .int .u32 (P.t.g i)]] W (BytesV (P.m i) 0 W)) := fun W hW => BY1.out W (bel2 B6.out hW) i _ hc
      have BX2 : Hid (∀ W, Below w6.heap.size w6 W → Calls Try.prog 20 #[.pointer (some ⟨b', 0, none⟩), .agg #[.int .i64 2, .int .i64 i, .int .u32 (P.t.g i)]] W (BytesV (P.m i) 0 W)) := fun W hW => BY2.out W (bel2 B6.out hW) i _ hc
      generalize P.t.g i = y at *
      generalize P.m i = z at *
      clear hc e1 hjl
      go_wp2_with (first
        | (go_at_call 20; (with_reducible refine (BX1.out _ HB.out).mono ?_); rintro e v1 ⟨rfl, b1⟩; have V1 := Lib.hid (bel2 HB.out b1); clear hg2 u0 u1 u2; obtain ⟨g2', o2', ee, hg2, u0, u1, u2⟩ := CX.out _ c2 v1 V1.out Q2.out; cases ee; clear b1)
        | (go_at_call 20; (with_reducible refine (BX2.out _ V1.out).mono ?_); rintro e v2 ⟨rfl, b2⟩; have V2 := Lib.hid (bel2 V1.out b2); clear hg2 u0 u1 u2 hg1 t0 t1 t2; obtain ⟨g2', o2', ee, hg2, u0, u1, u2⟩ := CX.out _ c2 v2 V2.out Q2.out; cases ee; obtain ⟨g1', o1', ee, hg1, t0, t1, t2⟩ := CX.out _ c1 v2 V2.out Q1.out; cases ee; clear b2))
      go_quiet (fail)
      go_wp2
      go_roundw
      case rel => exact ⟨j + 1, by omega, by go_num, bel_drewN V2.out _⟩
      case measure => simp [intOf]; omega
    · obtain rfl : j = N := by omega
      go_wp2
      go_ret
      exact ⟨rfl, bel2 B6.out HB.out⟩
end Go.Proofs.Ytjhgckaaaonbiaa
