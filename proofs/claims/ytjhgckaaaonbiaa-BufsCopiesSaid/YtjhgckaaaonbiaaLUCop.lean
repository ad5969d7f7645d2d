/- The walk of BufsCopies: it returns true for every input. -/
import Derived.Test.YtjhgckaaaonbiaaUt
namespace Go.Proofs.Ytjhgckaaaonbiaa
open Go.RowKit

set_option maxHeartbeats 1000000 in
theorem uCop_long (x0 x1 : Int) (a a' : Option Addr) (len cap len' cap' : Nat) (w : World) (hl : 80 < len ∨ 80 < len') :
    Calls Try.prog 9 #[.int .u8 x0, .int .u16 x1, .slice a len cap, .slice a' len' cap'] w fun e w' => e = .returned (.bool true) ∧ Below w.heap.size w w' := by
  by_cases h : 80 < len
  all_goals
    first | have h2 : 80 < len' := by omega | skip
    have h3 : ((80 : Int) < len) ∨ (¬ (80 : Int) < len ∧ (80 : Int) < len') := by omega
    have H3 := Lib.hid h3
    clear hl h3
    go_enter Try.func9, Try.ntmps9
    go_wp2_with (go_at_call 10; refine (works_ok _).mono ?_; rintro e w' ⟨rfl, hb⟩; have HB := Lib.hid hb; clear hb)
    go_ret
    exact ⟨rfl, HB.out⟩

set_option maxHeartbeats 8000000 in
set_option maxRecDepth 100000 in
theorem uCop_short (x0 x1 : Int) (a : Option Addr) (len cap : Nat) (cl : Nat → Bool) (num : Nat → Nat) (a' : Option Addr) (len' cap' : Nat) (cl' : Nat → Bool) (num' : Nat → Nat) (w : World) (h00 : 0 ≤ x0) (h01 : x0 ≤ 255) (h10 : 0 ≤ x1) (h11 : x1 ≤ 65535) (hl : len ≤ 80) (hl' : len' ≤ 80) (hu : Turns w a len cl num) (hu' : Turns w a' len' cl' num') :
    Calls Try.prog 9 #[.int .u8 x0, .int .u16 x1, .slice a len cap, .slice a' len' cap'] w fun e w' => e = .returned (.bool true) ∧ Below w.heap.size w w' := by
  have FI : Hid (∀ W, Below w.heap.size w W → Calls Try.prog 24 #[.int .u8 x0, .int .u16 x1, .int .u32 3, .slice a len cap] W (FilV (runP (pf0 x0 x1 3) cl num len) W)) := fun W hW =>
    filled_ok x0 x1 3 3 a len cap cl num W h00 h01 h10 h11 (.inr ⟨by decide, rfl⟩) (by decide) (by omega) (hu.below hW)
  have HU := Lib.hid hu'
  have hl2 : ¬ (80 : Int) < len := by omega
  have hl3 : ¬ (80 : Int) < len' := by omega
  obtain ⟨P, hP⟩ : ∃ P, runP (pf0 x0 x1 3) cl num len = P := ⟨_, rfl⟩
  rw [hP] at FI
  clear hu hu' hP h00 h01 h10 h11 hl
  go_enter Try.func9, Try.ntmps9
  go_wp2_with fail
  refine (FI.out _ (Below.refl _ _)).mono ?_
  rintro e w1 ⟨bp, rfl, sp, kp, SP⟩
  have SA : Hid (PSt w w1 (At.mk bp sp kp).b (At.mk bp sp kp).s (At.mk bp sp kp).k P) := SP
  obtain ⟨A, hA⟩ : ∃ A : At, At.mk bp sp kp = A := ⟨_, rfl⟩
  have hAb : bp = A.b := by rw [← hA]
  rw [hA] at SA
  clear SP hA
  subst hAb
  go_wp2_with fail
  refine (pcopy_ok _ _ _ P _ SA.out.f).mono ?_
  rintro e w2 ⟨b2, rfl, N2⟩
  have H2 := Lib.hid N2
  have SA2 : Hid (PSt w w2 A.b A.s A.k P) := SA.out.quiet (by obtain ⟨_, _, _, _, h⟩ := N2; exact h)
  clear N2
  go_wp2_with fail
  refine (pcopy_ok _ _ _ P _ SA2.out.f).mono ?_
  rintro e w3 ⟨b3, rfl, N3⟩
  obtain ⟨C, D, rfl, rfl, hT⟩ := tri_new SA.out H2.out N3
  have T0 : Hid (∃ Q, Tri w w3 A C D P Q Q) := ⟨P, hT⟩
  clear SA SA2 H2 N3 hT
  go_wp2_with fail
  go_loopw [12] (fun v wr => ∃ j : Nat, j ≤ len' ∧ v = .int .i64 j ∧ Hid (∃ Q, Tri w wr A C D P Q Q)) (fun v _ => len' - (intOf v).toNat)
  case atStart => exact ⟨0, Nat.zero_le _, rfl, T0.out⟩
  case round =>
    obtain ⟨j, hj, rfl, HQ⟩ := hrel
    clear T0
    by_cases hlt : j < len'
    · obtain ⟨Q, hT⟩ := HQ.out
      have HT := Lib.hid hT
      obtain ⟨B, off, rfl, hB, hcells⟩ := HU.out.at_ (show 0 < len' by omega)
      have hM := HU.out.bd j (by omega)
      have HCB : Hid (∀ W, Below w.heap.size w W → W.cell? ⟨B, off + j * 2, none⟩ = some (.bool (cl' j)) ∧ W.cell? ⟨B, off + j * 2 + 1, none⟩ = some (.int .u16 (num' j)) ∧ B < W.heap.size) := fun W hW => ⟨cell_keeps hW (hcells j hlt).1, cell_keeps hW (hcells j hlt).2, Nat.lt_of_lt_of_le hB hW.size⟩
      have AL := Lib.hid (tall_q hT)
      have hlen : Q.all.length = Q.t.held.length := Q.all_len
      have hl64 : Q.t.held.length ≤ 64 := hT.q.f.ok.held_len
      generalize cl' j = CC at *
      generalize num' j = M at *
      obtain ⟨m, hm⟩ : ∃ m, Q.t.held.length = m := ⟨_, rfl⟩
      rw [hlen, hm] at AL
      rw [hm] at hl64
      clear hcells hlen hB hT HQ
      cases CC with
      | true =>
        have hmod : (M : Int).tmod 300 = ((M % 300 : Nat) : Int) := tmod_nat M 300
        have hq : ((M % 300 : Nat) : Int) ≤ 299 := by omega
        generalize M % 300 = y at *
        obtain ⟨KK, e1⟩ : ∃ K : Int, (Q.pK y : Int) = K := ⟨_, rfl⟩
        obtain ⟨II, e2⟩ : ∃ K : Int, (Q.pI y : Int) = K := ⟨_, rfl⟩
        obtain ⟨GG, e3⟩ : ∃ K : Int, (Q.pG y : Int) = K := ⟨_, rfl⟩
        obtain ⟨EE, e4⟩ : ∃ K : Int, Q.can y = K := ⟨_, rfl⟩
        have PQ : Hid (∀ W, Tri w W A C D P Q Q → _) := fun W hW => tpin_q y KK II GG EE (w0 := w) (w := W) (a := A) (c := C) (d := D) (P := P) (Q := Q) (R := Q) hW e1 e2 e3 e4
        have PR : Hid (∀ W Q', Tri w W A C D P Q' Q → _) := fun W Q' hW => tpin_r y KK II GG EE (w0 := w) (w := W) (a := A) (c := C) (d := D) (P := P) (Q := Q') (R := Q) hW e1 e2 e3 e4
        clear e1 e2 e3 e4 hm
        go_wp2_with fail
        refine AL.out.mono ?_
        rintro e w4 ⟨p, c, rfl, HR, HS2, HB2⟩
        obtain ⟨hc0, hc1, hc2⟩ := HCB.out w4 HS2.out.p.bel
        clear HR HB2 AL
        go_wp2_with fail
        refine (PQ.out _ HS2.out).mono ?_
        rintro e w5 ⟨rfl, HS3, HK3⟩
        clear hc0 hc1 hc2
        have HS4 : Hid (Tri w (w5.alloc (.cells #[.int .i64 KK, .int .i64 II, .int .u32 GG] 34)) A C D P (Q.pin y) Q) := HS3.out.quiet ((Below.refl _ _).alloc (Nat.le_refl _) _)
        have OA := Lib.hid (Bk.new w5 34 #[.int .i64 KK, .int .i64 II, .int .u32 GG])
        obtain ⟨hc0, hc1, hc2⟩ := HCB.out _ HS3.out.p.bel
        clear HS3 HK3 HS2
        go_wp2_with fail
        generalize w5.heap.size = X at *
        generalize w5.alloc (.cells #[.int .i64 KK, .int .i64 II, .int .u32 GG] 34) = w6 at *
        refine (PR.out _ _ HS4.out).mono ?_
        rintro e w7 ⟨rfl, HS5, HK5⟩
        have OB := Lib.hid (HS4.out.boxr OA.out HK5.out)
        obtain ⟨a0, a1, a2, a3⟩ := ob_cells OB.out
        have HF : Hid (∃ Q, Tri w (w7.alloc (.cells #[.int .i64 KK, .int .i64 II, .int .u32 GG] 34)) A C D P Q Q) := ⟨_, HS5.out.quiet ((Below.refl _ _).alloc (Nat.le_refl _) _)⟩
        clear hc0 hc1 hc2 HS5 HK5 HS4 OA OB PQ PR
        go_wp2
        go_roundw
        case rel => exact ⟨j + 1, by omega, by go_num, HF.out⟩
        case measure => simp [intOf]; omega
      | false =>
        rcases Nat.eq_zero_or_pos m with hm0 | hm0
        · subst hm0
          clear hm
          go_wp2_with fail
          refine AL.out.mono ?_
          rintro e w4 ⟨p, c, rfl, HR, HS2, HB2⟩
          obtain ⟨hc0, hc1, hc2⟩ := HCB.out w4 HS2.out.p.bel
          clear HR HB2 AL
          go_wp2
          go_roundw
          case rel => exact ⟨j + 1, by omega, by go_num, Q, HS2.out⟩
          case measure => simp [intOf]; omega
        · obtain ⟨i, hi⟩ : ∃ i, Q.t.held[M % m]? = some i := ⟨_, List.getElem?_eq_getElem (by rw [hm]; exact Nat.mod_lt _ hm0)⟩
          have hx := Po.all_held hi
          have hmod : (M : Int).tmod (m : Int) = ((M % m : Nat) : Int) := tmod_nat M m
          have hyl : M % m < m := Nat.mod_lt _ hm0
          have HL : Hid (Q.all.length = m) := by unfold Hid; rw [Q.all_len]; exact hm
          clear hi hm
          generalize M % m = y at *
          have hyl2 : (y : Int) < m := by omega
          have hm1 : (0 : Int) < m := by omega
          obtain ⟨u, hu⟩ : ∃ u, Q.t.g i = u := ⟨_, rfl⟩
          rw [hu] at hx
          obtain ⟨EE, e4⟩ : ∃ K : Int, Q.chk 2 i u = K := ⟨_, rfl⟩
          have RC : Hid (∀ (W : World) (p : Option Addr) (c : Nat), RdO W (.slice p m c) Q.all → ∃ g off, p = some ⟨g, off, none⟩ ∧ g < W.heap.size ∧ Three W g (off + y * 3) ⟨2, i, u⟩) := fun W p c h => by
            obtain ⟨g, off, h1, h2, h3⟩ := h.cell (j := y) (by rw [HL.out]; exact hyl)
            rw [(List.getElem?_eq_some_iff.1 hx).2] at h3
            exact ⟨g, off, h1, h2, h3⟩
          have UQ : Hid (∀ W, Tri w W A C D P Q Q → _) := fun W hW => tunpin_q 2 i u EE (w0 := w) (w := W) (a := A) (c := C) (d := D) (P := P) (Q := Q) (R := Q) hW e4
          have UR : Hid (∀ W Q', Tri w W A C D P Q' Q → _) := fun W Q' hW => tunpin_r 2 i u EE (w0 := w) (w := W) (a := A) (c := C) (d := D) (P := P) (Q := Q') (R := Q) hW e4
          clear hx hu e4 HL
          go_wp2_with fail
          refine AL.out.mono ?_
          rintro e w4 ⟨p, c, rfl, HR, HS2, HB2⟩
          obtain ⟨hc0, hc1, hc2⟩ := HCB.out w4 HS2.out.p.bel
          obtain ⟨g, off', rfl, hg, t0, t1, t2⟩ := RC.out w4 p c HR.out
          clear HR HB2 AL RC
          go_wp2_with fail
          have OA := Lib.hid (Bk.new w4 34 #[.int .i64 2, .int .i64 i, .int .u32 u])
          have HS3 : Hid (Tri w (w4.alloc (.cells #[.int .i64 2, .int .i64 i, .int .u32 u] 34)) A C D P Q Q) := HS2.out.quiet ((Below.refl _ _).alloc (Nat.le_refl _) _)
          clear hc0 hc1 hc2 hg t0 t1 t2 HS2
          generalize w4.heap.size = X at *
          generalize w4.alloc (.cells #[.int .i64 2, .int .i64 i, .int .u32 u] 34) = w6 at *
          obtain ⟨a0, a1, a2, a3⟩ := ob_cells OA.out
          have C0 := Lib.hid (UQ.out w6.drew (HS3.out.quiet (bel_drew (Below.refl _ w6))))
          have D0 : Hid (Bk w6.drew X 34 #[.int .i64 2, .int .i64 i, .int .u32 u]) := OA.out.below (bel_drew (Below.refl _ w6))
          go_region_held3 (fun W => W.cell? ⟨X, 0, none⟩ = some (.int .i64 2) ∧ W.cell? ⟨X, 1, none⟩ = some (.int .i64 i) ∧ W.cell? ⟨X, 2, none⟩ = some (.int .u32 u)) (first | (exact ⟨a0, a1, a2⟩) | (with_reducible exact hz2) | (with_reducible exact hz1)) (first
            | (go_at_call 16; (with_reducible refine (UR.out _ _ S20.out).mono ?_); rintro e w21 ⟨rfl, S21, K21⟩; have A21 := S20.out.boxr A20.out K21.out; have hz2 := And.intro (ob_cells A21).1 (And.intro (ob_cells A21).2.1 (ob_cells A21).2.2.1); clear A21 K21)
            | (go_at_call 16; (with_reducible refine C0.out.mono ?_); rintro e w20 ⟨rfl, S20, K20⟩; have A20 := Lib.hid ((HS3.out.quiet (bel_drew (Below.refl _ w6))).boxq D0.out K20.out); have hz1 := And.intro (ob_cells A20.out).1 (And.intro (ob_cells A20.out).2.1 (ob_cells A20.out).2.2.1); clear K20))
          all_goals
            have HF : Hid (∃ Q, Tri w w21 A C D P Q Q) := ⟨_, S21.out⟩
            clear S21 S20 A20 C0 D0 UQ UR HS3 OA
            go_wp2
            go_roundw
            case rel => exact ⟨j + 1, by omega, by go_num, HF.out⟩
            case measure => simp [intOf]; omega
    · obtain rfl : j = len' := by omega
      obtain ⟨Q, hT⟩ := HQ.out
      have HT := Lib.hid hT
      clear hT HQ
      go_wp2_with fail
      refine (same_ok _ _ _ _ _ _ Q wr HT.out.q.f HT.out.r.f).mono ?_
      rintro e w4 ⟨rfl, b4⟩
      have HT4 := Lib.hid (HT.out.quiet b4)
      clear b4
      go_wp2_with fail
      refine (FI.out _ HT4.out.p.bel).mono ?_
      rintro e w5 ⟨b5, rfl, s5, k5, h5⟩
      have H5 := Lib.hid h5
      have HT5 := Lib.hid (HT4.out.quiet h5.bel)
      clear h5
      go_wp2_with fail
      refine (same_ok _ _ _ _ _ _ P w5 HT5.out.p.f H5.out.f).mono ?_
      rintro e w6 ⟨rfl, b6⟩
      have HT6 := Lib.hid (HT5.out.quiet b6)
      clear b6
      go_wp2_with (go_at_call 10; refine (works_ok _).mono ?_; rintro e w' ⟨rfl, hb⟩; have HB := Lib.hid (bel2 HT6.out.p.bel hb); clear hb)
      go_ret
      exact ⟨rfl, HB.out⟩
theorem uCop_walk (x0 x1 : Int) (a : Option Addr) (len cap : Nat) (cl : Nat → Bool) (num : Nat → Nat) (a' : Option Addr) (len' cap' : Nat) (cl' : Nat → Bool) (num' : Nat → Nat) (w : World) (h00 : 0 ≤ x0) (h01 : x0 ≤ 255) (h10 : 0 ≤ x1) (h11 : x1 ≤ 65535) (_lc : len ≤ cap) (_cm : cap ≤ 9223372036854775807) (hu : Turns w a len cl num) (_lc' : len' ≤ cap') (_cm' : cap' ≤ 9223372036854775807) (hu' : Turns w a' len' cl' num') :
    Calls Try.prog 9 #[.int .u8 x0, .int .u16 x1, .slice a len cap, .slice a' len' cap'] w fun e w' => e = .returned (.bool true) ∧ Below w.heap.size w w' := by
  by_cases h : 80 < len ∨ 80 < len'
  · exact uCop_long x0 x1 a a' len cap len' cap' w h
  · exact uCop_short x0 x1 a len cap cl num a' len' cap' cl' num' w h00 h01 h10 h11 (by omega) (by omega) hu hu'
end Go.Proofs.Ytjhgckaaaonbiaa
