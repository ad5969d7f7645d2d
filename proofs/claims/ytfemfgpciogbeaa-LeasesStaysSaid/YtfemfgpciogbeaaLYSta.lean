/- The walk of LeasesStays: it returns true for every input. -/
import Derived.Deep.CutRange
import Derived.Test.YtfemfgpciogbeaaYh
namespace Go.Proofs.Ytfemfgpciogbeaa
open Go.RowKit

set_option maxRecDepth 1000000 in
set_option maxHeartbeats 4000000 in
theorem ySta_walk (x0 : Int) (a0 : Option Addr) (len cap : Nat) (s : Nat → Mv) (x2 : Int) (w : World) (h00 : 0 ≤ x0) (h01 : x0 ≤ 255) (l : len ≤ cap) (m : cap ≤ 9223372036854775807) (u : Mvs w a0 len s) (h20 : 0 ≤ x2) (h21 : x2 ≤ 255) :
    Calls Try.prog 8 #[.int .u8 x0, .slice a0 len cap, .int .u8 x2] w fun e w' => e = .returned (.bool true) ∧ Below w.heap.size w w' := by
  obtain ⟨N, hN⟩ : ∃ N, (len < 100 ∧ N = len) ∨ (len = 100 ∧ N = 100) ∨ (100 < len ∧ N = 100) := by
    rcases Nat.lt_trichotomy len 100 with c | c | c
    · exact ⟨_, .inl ⟨c, rfl⟩⟩
    · exact ⟨_, .inr (.inl ⟨c, rfl⟩)⟩
    · exact ⟨_, .inr (.inr ⟨c, rfl⟩)⟩
  have PL := Lib.hid (played_of x0 1 a0 len cap N 1 s w h00 h01 (.inr (.inl ⟨rfl, rfl⟩)) (by decide) (by decide) hN l m u)
  have HN : Hid (N ≤ 100) := by unfold Hid; omega
  have h7 : (len : Int) ≤ cap := by omega
  have h8 : (cap : Int) ≤ 9223372036854775807 := by omega
  obtain ⟨M, hM⟩ : ∃ m, (1 + x0 % 64).toNat = m := ⟨_, rfl⟩
  rw [hM] at PL
  have HM := Lib.hid hM
  clear hN u l m hM
  go_enter Try.func8, Try.ntmps8
  go_wp2_with fail
  refine PL.out.mono ?_
  rintro e w1 ⟨X, rfl, HL⟩
  obtain ⟨b, k, a, pl, cl, pu, cu, n, S, hl, hgn⟩ := HL.out
  have HG := Lib.hid hgn
  clear HL PL hgn
  obtain ⟨c0, c1, c2, c3, c4, c5⟩ := hl.cells
  have L := Lib.hid hl
  have hnz : (n : Int) ≤ 100 := by have h2 := hl.ok.ll; have := hl.ln; have := HN.out; omega
  have hnow : (S.now : Int) ≤ 700 := by have h2 := hl.ok.now; have := HN.out; omega
  have AL := Lib.hid (dall_ok b k a S.D w1 hl.ds.f)
  clear hl
  go_wp2_with fail
  refine AL.out.mono ?_
  rintro e w2 ⟨pa, ca, rfl, hr, hb2⟩
  have R2 : Hid (RowO w2 (.slice pa S.D.all.length ca) S.D.all) := ⟨_, hr⟩
  have L2 := Lib.hid (L.out.quiet hb2)
  clear hb2 hr L AL c0 c1 c2 c3 c4 c5
  go_wp2_with fail
  refine (llease_ok 0 1 w2).mono ?_
  rintro e w3 ⟨rfl, hb3⟩
  have L3 := Lib.hid (L2.out.quiet (bel2 hb3 (bal _ (.cells #[.int .i64 3, .int .i64 0, .int .u32 1] 33))))
  have R3 := Lib.hid (R2.out.below (bel2 hb3 (bal _ (.cells #[.int .i64 3, .int .i64 0, .int .u32 1] 33))))
  have OA := Lib.hid (Bk.new w3 33 #[.int .i64 3, .int .i64 0, .int .u32 1])
  clear L2 R2 hb3
  obtain ⟨c0, c1, c2, c3, c4, c5⟩ := L3.out.cells
  obtain ⟨a0', a1, a2, a3⟩ := ob_cells OA.out
  go_upto_region 7 with fail
  rename_i K1 hK1 K hK
  have hK' := fun a w (h : Hid _) => hK a w h.out
  clear hK
  generalize w3.alloc (.cells #[.int .i64 3, .int .i64 0, .int .u32 1] 33) = w4 at *
  generalize w3.heap.size = A at *
  go_wp2
  unfold Hid
  go_cut [10, 11] from 33 (fun e v wx => v = e ∧ (∃ z : Int, e = .int .i64 z) ∧ Hid (LW w wx X b k a pl cl pu cu n true N S) ∧ Hid (RowO wx (.slice pa S.D.all.length ca) S.D.all))
  case first =>
    clear hK1
    obtain ⟨y, hy⟩ : ∃ y, x2 % 9 = y := ⟨_, rfl⟩
    rw [hy]
    have hy2 : y = 0 ∨ y = 1 ∨ y = 2 ∨ y = 3 ∨ y = 4 ∨ y = 5 ∨ y = 6 ∨ y = 7 ∨ y = 8 := by omega
    clear hy h20 h21
    rcases hy2 with rfl | rfl | rfl | rfl | rfl | rfl | rfl | rfl | rfl
    · have CT : Hid (∀ W, Below w4.heap.size w4 W → Calls Try.prog 13 #[.pointer (some ⟨b, 0, none⟩), .int .i64 0, .int .i64 S.now] W fun e w' => e = .returned (.tuple #[.agg #[.int .i64 0, .int .i64 0, .int .u32 0], .int .i64 2]) ∧ Hid (LW w w' X b k a pl cl pu cu n true N S) ∧ Hid (RowO w' (.slice pa S.D.all.length ca) S.D.all)) := fun W hW => grant_ref (L3.out.quiet hW) (R3.out.below hW) 0 S.now 2 (gE_span fun h => absurd h.1.1 (by decide)) (by decide)
      go_wp2
      go_region_held3 (fun W => W.cell? ⟨X, 0, none⟩ = some (.pointer (some ⟨b, 0, none⟩)) ∧ W.cell? ⟨X, 3, none⟩ = some (.int .i64 S.now)) (first | (with_reducible exact hz5) | (exact ⟨c0, c3⟩)) (first
        | (go_at_call 13; (with_reducible refine (CT.out _ (by exact ⟨rfl, rfl, rfl, Nat.le_refl _, fun _ _ => rfl⟩)).mono ?_); rintro e w5 ⟨rfl, L5, R5⟩; obtain ⟨z0, _, _, z3, _, _⟩ := L5.out.cells; have hz5 := And.intro z0 z3))
      all_goals
        go_wp2
        go_meet
        exact ⟨rfl, ⟨_, rfl⟩, L5.out, R5.out⟩
    · have CT : Hid (∀ W, Below w4.heap.size w4 W → Calls Try.prog 13 #[.pointer (some ⟨b, 0, none⟩), .int .i64 1048577, .int .i64 S.now] W fun e w' => e = .returned (.tuple #[.agg #[.int .i64 0, .int .i64 0, .int .u32 0], .int .i64 2]) ∧ Hid (LW w w' X b k a pl cl pu cu n true N S) ∧ Hid (RowO w' (.slice pa S.D.all.length ca) S.D.all)) := fun W hW => grant_ref (L3.out.quiet hW) (R3.out.below hW) 1048577 S.now 2 (gE_span fun h => absurd h.1.2 (by decide)) (by decide)
      go_wp2
      go_region_held3 (fun W => W.cell? ⟨X, 0, none⟩ = some (.pointer (some ⟨b, 0, none⟩)) ∧ W.cell? ⟨X, 3, none⟩ = some (.int .i64 S.now)) (first | (with_reducible exact hz5) | (exact ⟨c0, c3⟩)) (first
        | (go_at_call 13; (with_reducible refine (CT.out _ (by exact ⟨rfl, rfl, rfl, Nat.le_refl _, fun _ _ => rfl⟩)).mono ?_); rintro e w5 ⟨rfl, L5, R5⟩; obtain ⟨z0, _, _, z3, _, _⟩ := L5.out.cells; have hz5 := And.intro z0 z3))
      all_goals
        go_wp2
        go_meet
        exact ⟨rfl, ⟨_, rfl⟩, L5.out, R5.out⟩
    · have CT : Hid (∀ W, Below w4.heap.size w4 W → Calls Try.prog 13 #[.pointer (some ⟨b, 0, none⟩), .int .i64 1, .int .i64 1099511627777] W fun e w' => e = .returned (.tuple #[.agg #[.int .i64 0, .int .i64 0, .int .u32 0], .int .i64 2]) ∧ Hid (LW w w' X b k a pl cl pu cu n true N S) ∧ Hid (RowO w' (.slice pa S.D.all.length ca) S.D.all)) := fun W hW => grant_ref (L3.out.quiet hW) (R3.out.below hW) 1 1099511627777 2 (gE_span fun h => absurd h.2.2 (by decide)) (by decide)
      go_wp2_with (go_at_call 13; (with_reducible refine (CT.out _ (by exact ⟨rfl, rfl, rfl, Nat.le_refl _, fun _ _ => rfl⟩)).mono ?_); rintro e w5 ⟨rfl, L5, R5⟩)
      go_meet
      exact ⟨rfl, ⟨_, rfl⟩, L5.out, R5.out⟩
    · have CT : Hid (∀ W, Below w4.heap.size w4 W → Calls Try.prog 13 #[.pointer (some ⟨b, 0, none⟩), .int .i64 1, .int .i64 1099511627776] W fun e w' => e = .returned (.tuple #[.agg #[.int .i64 0, .int .i64 0, .int .u32 0], .int .i64 17]) ∧ Hid (LW w w' X b k a pl cl pu cu n true N S) ∧ Hid (RowO w' (.slice pa S.D.all.length ca) S.D.all)) := fun W hW => grant_ref (L3.out.quiet hW) (R3.out.below hW) 1 1099511627776 17 (gE_over ⟨⟨by decide, by decide⟩, by decide, by decide⟩ (by decide)) (by decide)
      go_wp2_with (go_at_call 13; (with_reducible refine (CT.out _ (by exact ⟨rfl, rfl, rfl, Nat.le_refl _, fun _ _ => rfl⟩)).mono ?_); rintro e w5 ⟨rfl, L5, R5⟩)
      go_meet
      exact ⟨rfl, ⟨_, rfl⟩, L5.out, R5.out⟩
    · have CT : Hid (∀ W, Below w4.heap.size w4 W → Calls Try.prog 15 #[.pointer (some ⟨b, 0, none⟩), .agg #[.int .i64 3, .int .i64 0, .int .u32 1], .int .i64 5, .int .i64 (-1)] W fun e w' => e = .returned (.int .i64 2) ∧ Hid (LW w w' X b k a pl cl pu cu n true N S) ∧ Hid (RowO w' (.slice pa S.D.all.length ca) S.D.all) ∧ Hid (Bk w' A 33 #[.int .i64 3, .int .i64 0, .int .u32 1])) := fun W hW => (renew_s 3 0 1 5 (-1) 2 (L3.out.quiet hW).ds ⟨by decide, by decide, by decide, by decide, by decide, by decide⟩ (rE_no fun h => absurd h.2.2.1 (by decide))).mono fun _ _ ⟨e, h1, h2⟩ => ⟨e, (L3.out.quiet hW).call h2.out (by have := h1.out; rw [Dk.renew_ne (by rw [rE_no fun h => absurd h.2.2.1 (by decide)]; decide)] at this; exact this) L3.out.ok, (R3.out.below hW).kept (L3.out.quiet hW).ds.f h2.out, (L3.out.quiet hW).ds.box (OA.out.below hW) h2.out⟩
      go_wp2
      go_region_held3 (fun W => W.cell? ⟨X, 0, none⟩ = some (.pointer (some ⟨b, 0, none⟩)) ∧ W.cell? ⟨A, 0, none⟩ = some (.int .i64 3) ∧ W.cell? ⟨A, 1, none⟩ = some (.int .i64 0) ∧ W.cell? ⟨A, 2, none⟩ = some (.int .u32 1)) (first | (with_reducible exact hz5) | (exact ⟨c0, a0', a1, a2⟩)) (first
        | (go_at_call 15; (with_reducible refine (CT.out _ (by exact ⟨rfl, rfl, rfl, Nat.le_refl _, fun _ _ => rfl⟩)).mono ?_); rintro e w5 ⟨rfl, L5, R5, O5⟩; obtain ⟨z0, _, _, _, _, _⟩ := L5.out.cells; have hz5 := And.intro z0 (cells3 O5.out)))
      all_goals
        go_wp2
        go_meet
        exact ⟨rfl, ⟨_, rfl⟩, L5.out, R5.out⟩
    · have CT : Hid (∀ W, Below w4.heap.size w4 W → Calls Try.prog 15 #[.pointer (some ⟨b, 0, none⟩), .agg #[.int .i64 1, .int .i64 0, .int .u32 1], .int .i64 5, .int .i64 S.now] W fun e w' => e = .returned (.int .i64 2) ∧ Hid (LW w w' X b k a pl cl pu cu n true N S) ∧ Hid (RowO w' (.slice pa S.D.all.length ca) S.D.all)) := fun W hW => renew_ref (L3.out.quiet hW) (R3.out.below hW) 1 0 1 5 S.now 2 ⟨by decide, by decide, by decide, by decide, by decide, by decide⟩ (rE_no fun h => absurd h.1.1 (by decide)) (by decide)
      go_wp2
      go_region_held3 (fun W => W.cell? ⟨X, 0, none⟩ = some (.pointer (some ⟨b, 0, none⟩)) ∧ W.cell? ⟨X, 3, none⟩ = some (.int .i64 S.now)) (first | (with_reducible exact hz5) | (exact ⟨c0, c3⟩)) (first
        | (go_at_call 15; (with_reducible refine (CT.out _ (by exact ⟨rfl, rfl, rfl, Nat.le_refl _, fun _ _ => rfl⟩)).mono ?_); rintro e w5 ⟨rfl, L5, R5⟩; obtain ⟨z0, _, _, z3, _, _⟩ := L5.out.cells; have hz5 := And.intro z0 z3))
      all_goals
        go_wp2
        go_meet
        exact ⟨rfl, ⟨_, rfl⟩, L5.out, R5.out⟩
    · have HF0 := Lib.hid (chk_far HG.out (by have := HM.out; omega) (by have := HN.out; omega))
      by_cases h63 : x0 % 64 = 63
      · have HF : Hid (S.D.chk 3 63 900 = 7) := by have h := HF0.out; rw [if_pos (by have := HM.out; omega)] at h; exact h
        have CT : Hid (∀ W, Below w4.heap.size w4 W → Calls Try.prog 17 #[.pointer (some ⟨b, 0, none⟩), .agg #[.int .i64 3, .int .i64 63, .int .u32 900]] W fun e w' => e = .returned (.int .i64 7) ∧ Hid (LW w w' X b k a pl cl pu cu n true N S) ∧ Hid (RowO w' (.slice pa S.D.all.length ca) S.D.all)) := fun W hW => ret_ref (L3.out.quiet hW) (R3.out.below hW) 3 63 900 7 ⟨by decide, by decide, by decide, by decide, by decide, by decide⟩ HF.out (by decide)
        go_wp2
        go_region_held3 (fun W => W.cell? ⟨X, 0, none⟩ = some (.pointer (some ⟨b, 0, none⟩))) (first | (with_reducible exact hz5) | (with_reducible exact hz4) | (exact c0)) (first
          | (go_at_call 35; refine (llease_ok 63 900 _).mono ?_; rintro e w6 ⟨rfl, hb6⟩; have B6 : Hid (Below w4.heap.size w4 w6) := bel2 (by exact ⟨rfl, rfl, rfl, Nat.le_refl _, fun _ _ => rfl⟩) hb6; obtain ⟨hz4, _, _, _, _, _⟩ := (L3.out.quiet B6.out).cells; clear hb6)
          | (go_at_call 17; (with_reducible refine (CT.out _ (bel2 B6.out (by exact ⟨rfl, rfl, rfl, Nat.le_refl _, fun _ _ => rfl⟩))).mono ?_); rintro e w5 ⟨rfl, L5, R5⟩; obtain ⟨z0, _, _, _, _, _⟩ := L5.out.cells; have hz5 := z0))
        all_goals
          go_wp2
          go_meet
          exact ⟨rfl, ⟨_, rfl⟩, L5.out, R5.out⟩
      · have HF : Hid (S.D.chk 3 63 900 = 3) := by have h := HF0.out; rw [if_neg (by have := HM.out; omega)] at h; exact h
        have CT : Hid (∀ W, Below w4.heap.size w4 W → Calls Try.prog 17 #[.pointer (some ⟨b, 0, none⟩), .agg #[.int .i64 3, .int .i64 63, .int .u32 900]] W fun e w' => e = .returned (.int .i64 3) ∧ Hid (LW w w' X b k a pl cl pu cu n true N S) ∧ Hid (RowO w' (.slice pa S.D.all.length ca) S.D.all)) := fun W hW => ret_ref (L3.out.quiet hW) (R3.out.below hW) 3 63 900 3 ⟨by decide, by decide, by decide, by decide, by decide, by decide⟩ HF.out (by decide)
        go_wp2
        go_region_held3 (fun W => W.cell? ⟨X, 0, none⟩ = some (.pointer (some ⟨b, 0, none⟩))) (first | (with_reducible exact hz5) | (with_reducible exact hz4) | (exact c0)) (first
          | (go_at_call 35; refine (llease_ok 63 900 _).mono ?_; rintro e w6 ⟨rfl, hb6⟩; have B6 : Hid (Below w4.heap.size w4 w6) := bel2 (by exact ⟨rfl, rfl, rfl, Nat.le_refl _, fun _ _ => rfl⟩) hb6; obtain ⟨hz4, _, _, _, _, _⟩ := (L3.out.quiet B6.out).cells; clear hb6)
          | (go_at_call 17; (with_reducible refine (CT.out _ (bel2 B6.out (by exact ⟨rfl, rfl, rfl, Nat.le_refl _, fun _ _ => rfl⟩))).mono ?_); rintro e w5 ⟨rfl, L5, R5⟩; obtain ⟨z0, _, _, _, _, _⟩ := L5.out.cells; have hz5 := z0))
        all_goals
          go_wp2
          go_meet
          exact ⟨rfl, ⟨_, rfl⟩, L5.out, R5.out⟩
    · have CT : Hid (∀ W, Below w4.heap.size w4 W → Calls Try.prog 17 #[.pointer (some ⟨b, 0, none⟩), .agg #[.int .i64 3, .int .i64 64, .int .u32 1]] W fun e w' => e = .returned (.int .i64 2) ∧ Hid (LW w w' X b k a pl cl pu cu n true N S) ∧ Hid (RowO w' (.slice pa S.D.all.length ca) S.D.all)) := fun W hW => ret_ref (L3.out.quiet hW) (R3.out.below hW) 3 64 1 2 ⟨by decide, by decide, by decide, by decide, by decide, by decide⟩ (chk_no fun h => absurd h.2.2.1 (by decide)) (by decide)
      go_wp2
      go_region_held3 (fun W => W.cell? ⟨X, 0, none⟩ = some (.pointer (some ⟨b, 0, none⟩))) (first | (with_reducible exact hz5) | (with_reducible exact hz4) | (exact c0)) (first
        | (go_at_call 35; refine (llease_ok 64 1 _).mono ?_; rintro e w6 ⟨rfl, hb6⟩; have B6 : Hid (Below w4.heap.size w4 w6) := bel2 (by exact ⟨rfl, rfl, rfl, Nat.le_refl _, fun _ _ => rfl⟩) hb6; obtain ⟨hz4, _, _, _, _, _⟩ := (L3.out.quiet B6.out).cells; clear hb6)
        | (go_at_call 17; (with_reducible refine (CT.out _ (bel2 B6.out (by exact ⟨rfl, rfl, rfl, Nat.le_refl _, fun _ _ => rfl⟩))).mono ?_); rintro e w5 ⟨rfl, L5, R5⟩; obtain ⟨z0, _, _, _, _, _⟩ := L5.out.cells; have hz5 := z0))
      all_goals
        go_wp2
        go_meet
        exact ⟨rfl, ⟨_, rfl⟩, L5.out, R5.out⟩
    · have CT : Hid (∀ W, Below w4.heap.size w4 W → Calls Try.prog 21 #[.pointer (some ⟨b, 0, none⟩), .agg #[.int .i64 3, .int .i64 0, .int .u32 1], .int .i64 1099511627777] W fun e w' => e = .returned (.tuple #[.bool false, .int .i64 2]) ∧ Hid (LW w w' X b k a pl cl pu cu n true N S) ∧ Hid (RowO w' (.slice pa S.D.all.length ca) S.D.all)) := fun W hW => over_ref (L3.out.quiet hW) (R3.out.below hW) 3 0 1 1099511627777 2 ⟨by decide, by decide, by decide, by decide, by decide, by decide⟩ (oE_no fun h => absurd h.2 (by decide)) (by decide)
      go_wp2
      go_region_held3 (fun W => W.cell? ⟨X, 0, none⟩ = some (.pointer (some ⟨b, 0, none⟩))) (first | (with_reducible exact hz5) | (with_reducible exact hz4) | (exact c0)) (first
        | (go_at_call 35; refine (llease_ok 0 1 _).mono ?_; rintro e w6 ⟨rfl, hb6⟩; have B6 : Hid (Below w4.heap.size w4 w6) := bel2 (by exact ⟨rfl, rfl, rfl, Nat.le_refl _, fun _ _ => rfl⟩) hb6; obtain ⟨hz4, _, _, _, _, _⟩ := (L3.out.quiet B6.out).cells; clear hb6)
        | (go_at_call 21; (with_reducible refine (CT.out _ (bel2 B6.out (by exact ⟨rfl, rfl, rfl, Nat.le_refl _, fun _ _ => rfl⟩))).mono ?_); rintro e w5 ⟨rfl, L5, R5⟩; obtain ⟨z0, _, _, _, _, _⟩ := L5.out.cells; have hz5 := z0))
      all_goals
        go_wp2
        go_meet
        exact ⟨rfl, ⟨_, rfl⟩, L5.out, R5.out⟩
  case rest =>
    obtain ⟨rfl, ⟨z, rfl⟩, L4, R4⟩ := hcut
    clear L3 R3 OA c0 c1 c2 c3 c4 c5 a0' a1 a2 a3 HG HM
    obtain ⟨c0, c1, c2, c3, c4, c5⟩ := L4.out.cells
    have HAL : Hid (S.D.all.length = S.D.t.held.length) := Dk.all_len _
    have hqz : (S.D.all.length : Int) ≤ 256 := by have := Tb.held_len S.D.t L4.out.ok.d.t; have := HAL.out; omega
    go_wp2_with fail
    refine (dall_ok b k a S.D wc L4.out.ds.f).mono ?_
    rintro e w5 ⟨p5, d5, rfl, hr5, hb5⟩
    obtain ⟨w6, hclr, hb6⟩ := run_clear_o rfl hr5 0
    have L6 := Lib.hid (L4.out.quiet (hb5.trans hb6))
    have R6 := Lib.hid (R4.out.below (hb5.trans hb6))
    clear hr5 hb5 hb6 L4 R4 c0 c1 c2 c3 c4 c5
    obtain ⟨c0, c1, c2, c3, c4, c5⟩ := L6.out.cells
    go_wp2_with fail
    refine (dcopy_ok b k a S.D w6 L6.out.ds.f).mono ?_
    rintro e w7 ⟨b', rfl, hd⟩
    obtain ⟨k', a', hs'⟩ := DSt.new hd
    have C7 := Lib.hid hs'
    clear hd hs' hclr c0 c1 c2 c3 c4 c5
    go_wp2_with fail
    refine (all_s _ C7.out rfl).mono ?_
    rintro e w8 ⟨p8, c8, rfl, R8, C8, _⟩
    have T8 := Lib.hid (Rt.start S.D)
    clear C7
    go_wp2
    go_loopw [150] (fun v wr => ∃ (j : Nat) (E : Dk), j ≤ S.D.all.length ∧ v = .int .i64 j ∧ Hid (DSt w6 wr b' k' a' E) ∧ Hid (Rt S.D E j) ∧ Hid (RowO wr (.slice p8 S.D.all.length c8) S.D.all)) (fun v _ => S.D.all.length - (intOf v).toNat)
    case atStart => exact ⟨0, _, Nat.zero_le _, rfl, C8.out, T8.out, R8.out⟩
    case round =>
      obtain ⟨j, E, hj, rfl, HC, HT, HR⟩ := hrel
      clear C8 T8 R8
      by_cases hlt : j < S.D.all.length
      · obtain ⟨o, ho⟩ : ∃ o, S.D.all[j]? = some o := ⟨_, List.getElem?_eq_getElem hlt⟩
        obtain ⟨i, hi, rfl⟩ := all_held ho
        obtain ⟨q, off, rfl, hq, t0, t1, t2⟩ := HR.out.rd.cell hlt
        rw [(List.getElem?_eq_some_iff.1 ho).2] at t0 t1 t2
        have CK := Lib.hid (HT.out.next HC.out.f.ok hi)
        have NT := Lib.hid (HT.out.give hi)
        have hin := Tb.held_at hi
        have hi64 : i < 64 := by have := L6.out.ok.d.hi; omega
        have hg : S.D.t.g i ≤ 4294967295 := L6.out.ok.d.t.gm i
        have hg0 : (S.D.t.g i : Int) ≤ 4294967295 := by omega
        generalize S.D.t.g i = g at *
        have RG : Hid (RgO 3 i g) := ⟨by omega, by omega, by omega, by omega, by omega, by omega⟩
        have hjz : (j : Int) < S.D.all.length := by omega
        clear ho hi hin
        simp only at t0 t1 t2
        go_wp2_with fail
        refine (ret_s 3 i g 0 (HC.out.quiet (bal _ (.cells #[.int .i64 3, .int .i64 i, .int .u32 g] 33))) RG.out CK.out).mono ?_
        rintro e w9 ⟨rfl, C9, K9⟩
        have C10 : Hid (DSt w6 w9 b' k' a' (E.give i)) := by
          have h := C9.out
          rw [show E.ret 3 i g = E.give i by unfold Dk.ret; rw [if_pos CK.out, Int.toNat_natCast]] at h
          exact h
        have R10 := Lib.hid ((HR.out.below (bal wr (.cells #[.int .i64 3, .int .i64 i, .int .u32 g] 33))).kept (HC.out.quiet (bal wr (.cells #[.int .i64 3, .int .i64 i, .int .u32 g] 33))).f K9.out)
        clear C9 K9
        go_wp2
        go_roundw
        case rel => exact ⟨j + 1, E.give i, by omega, by go_num, C10.out, NT.out, R10.out⟩
        case measure => simp [intOf]; omega
      · obtain rfl : j = S.D.all.length := by omega
        have HD : Hid (E.t.held.length = 0) := by
          have h := HT.out
          rw [HAL.out] at h
          exact h.done
        have L9 := Lib.hid (L6.out.quiet HC.out.bel)
        have R9 := Lib.hid (R6.out.below HC.out.bel)
        clear hlt hj HT HR L6 R6
        obtain ⟨c0, c1, c2, c3, c4, c5⟩ := L9.out.cells
        go_wp2
        go_loopw [164] (fun v wr => ∃ j : Nat, j ≤ n ∧ v = .int .i64 j ∧ Hid (LW w wr X b k a pl cl pu cu n true N S) ∧ Hid (DSt w6 wr b' k' a' E) ∧ Hid (RowO wr (.slice pa S.D.all.length ca) S.D.all)) (fun v _ => n - (intOf v).toNat)
        case atStart => exact ⟨0, Nat.zero_le _, rfl, L9.out, HC.out, R9.out⟩
        case round =>
          obtain ⟨j, hj, rfl, HL, HC2, HR⟩ := hrel
          clear L9 R9 HC c0 c1 c2 c3 c4 c5
          by_cases hlt : j < n
          · obtain ⟨rr, hr⟩ : ∃ r, S.L[j]? = some r := ⟨_, List.getElem?_eq_getElem (by rw [HL.out.ln]; exact hlt)⟩
            obtain ⟨uu, hu⟩ : ∃ u, S.U[j]? = some u := ⟨_, List.getElem?_eq_getElem (by rw [HL.out.un]; exact hlt)⟩
            obtain ⟨gl, rfl, l1, q0, q1, q2⟩ := HL.out.atl hr
            obtain ⟨gu, rfl, l2, q3, q4⟩ := HL.out.atu hu
            obtain ⟨i, g⟩ := rr
            simp only at q1 q2
            obtain ⟨c0, c1, c2, c3, c4, c5⟩ := HL.out.cells
            have hjz : (j : Int) < n := by omega
            have R0 := Lib.hid (And.intro hr hu)
            obtain ⟨e1, hE⟩ := HL.out.ok.row_one hr hu
            simp only at e1 hE
            obtain ⟨F, hFe⟩ : ∃ F, S.D.chk 3 i g = F := ⟨_, rfl⟩
            rw [hFe] at hE
            have RP := Lib.hid (And.intro e1 hFe)
            clear hr hu e1 hFe
            go_wp2
            have LN : Hid (LW w (wr.alloc (.cells #[.int .i64 3, .int .i64 i, .int .u32 g] 33)) X b k a (some ⟨gl, 0, none⟩) cl (some ⟨gu, 0, none⟩) cu n true N S) := HL.out.quiet (bal _ _)
            have CN : Hid (DSt w6 (wr.alloc (.cells #[.int .i64 3, .int .i64 i, .int .u32 g] 33)) b' k' a' E) := HC2.out.quiet (bal _ _)
            have RN : Hid (RowO (wr.alloc (.cells #[.int .i64 3, .int .i64 i, .int .u32 g] 33)) (.slice pa S.D.all.length ca) S.D.all) := HR.out.below (bal _ _)
            have OA := Lib.hid (Bk.new wr 33 #[.int .i64 3, .int .i64 i, .int .u32 g])
            clear HL HC2 HR
            generalize wr.alloc (.cells #[.int .i64 3, .int .i64 i, .int .u32 g] 33) = wa at *
            generalize wr.heap.size = A at *
            have FC : Hid (∀ W, LW w W X b k a (some ⟨gl, 0, none⟩) cl (some ⟨gu, 0, none⟩) cu n true N S → Bk W A 33 #[.int .i64 3, .int .i64 i, .int .u32 g] → (W.cell? ⟨X, 0, none⟩ = some (.pointer (some ⟨b, 0, none⟩)) ∧ W.cell? ⟨X, 2, none⟩ = some (.slice (some ⟨gu, 0, none⟩) n cu) ∧ W.cell? ⟨gu, j, none⟩ = some (.int .i64 uu) ∧ W.cell? ⟨A, 0, none⟩ = some (.int .i64 3) ∧ W.cell? ⟨A, 1, none⟩ = some (.int .i64 i) ∧ W.cell? ⟨A, 2, none⟩ = some (.int .u32 g)) ∧ gu < W.heap.size ∧ A < W.heap.size ∧ X < W.heap.size) := fun W h1 h2 => by
              obtain ⟨c0, _, c2, _, _, c5⟩ := h1.cells
              obtain ⟨a0, a1, a2, a3⟩ := ob_cells h2
              obtain ⟨gu', e, l2, q3, _⟩ := h1.atu R0.out.2
              injection e with e
              injection e with e
              subst e
              exact ⟨⟨c0, c2, q3, a0, a1, a2⟩, l2, a3, c5⟩
            have RG : Hid (RgO 3 i g) := by
              obtain ⟨rb1, rb2⟩ := LN.out.ok.rg R0.out.1
              exact ⟨by omega, by omega, by omega, by omega, by simp only at rb2; omega, by simp only at rb2; omega⟩
            have UT : Hid (∀ W, Below wa.heap.size wa W → Calls Try.prog 19 #[.pointer (some ⟨b, 0, none⟩), .agg #[.int .i64 3, .int .i64 i, .int .u32 g]] W fun e w' => e = .returned (.tuple #[.int .i64 uu, .int .i64 F]) ∧ Hid (LW w w' X b k a (some ⟨gl, 0, none⟩) cl (some ⟨gu, 0, none⟩) cu n true N S) ∧ Hid (Bk w' A 33 #[.int .i64 3, .int .i64 i, .int .u32 g]) ∧ Hid (DSt w6 w' b' k' a' E) ∧ Hid (RowO w' (.slice pa S.D.all.length ca) S.D.all)) := fun W hW =>
              (until_s 3 i g uu F (LN.out.quiet hW).ds RG.out RP.out.1 RP.out.2).mono fun _ _ ⟨e, _, h2⟩ => ⟨e, (LN.out.quiet hW).quiet h2.out, (OA.out.below hW).below h2.out, (CN.out.quiet hW).quiet h2.out, (RN.out.below hW).below h2.out⟩
            obtain ⟨⟨d0, d2, d4, d5, d6, d7⟩, d8, d9, d10⟩ := FC.out wa LN.out OA.out
            clear LN OA RN CN l1 l2 q0 q1 q2 q3 q4 c0 c1 c2 c3 c4 c5
            go_region_held3 (fun W => W.cell? ⟨X, 0, none⟩ = some (.pointer (some ⟨b, 0, none⟩)) ∧ W.cell? ⟨X, 2, none⟩ = some (.slice (some ⟨gu, 0, none⟩) n cu) ∧ W.cell? ⟨gu, j, none⟩ = some (.int .i64 uu) ∧ W.cell? ⟨A, 0, none⟩ = some (.int .i64 3) ∧ W.cell? ⟨A, 1, none⟩ = some (.int .i64 i) ∧ W.cell? ⟨A, 2, none⟩ = some (.int .u32 g)) (first | (with_reducible exact hz5.1) | (exact ⟨d0, d2, d4, d5, d6, d7⟩)) (first
              | (go_at_call 19; (with_reducible refine (UT.out _ (by exact ⟨rfl, rfl, rfl, Nat.le_refl _, fun _ _ => rfl⟩)).mono ?_); rintro e w9 ⟨rfl, L5, O5, C5, R5⟩; have hz5 := FC.out w9 L5.out O5.out))
            all_goals
              clear UT d0 d2 d4 d5 d6 d7 d8 d9 d10
              obtain ⟨⟨d0, d2, d4, d5, d6, d7⟩, d8, d9, d10⟩ := hz5
              rcases hE with rfl | rfl
              all_goals
                go_wp2
                go_roundw
                case rel => exact ⟨j + 1, by omega, by go_num, L5.out, C5.out, R5.out⟩
                case measure => simp [intOf]; omega
          · obtain rfl : j = n := by omega
            clear hlt hj
            go_wp2_with fail
            refine (len_s 0 HC2.out HD.out).mono ?_
            rintro e w9 ⟨rfl, _, hb9⟩
            have L9 := Lib.hid (HL.out.quiet hb9.out)
            have R9 := Lib.hid (HR.out.below hb9.out)
            clear HL HC2 HR hb9
            obtain ⟨c0, c1, c2, c3, c4, c5⟩ := L9.out.cells
            go_wp2_with fail
            refine (all_s _ L9.out.ds rfl).mono ?_
            rintro e w10 ⟨p10, c10, rfl, R10, _, hb10⟩
            have L10 := Lib.hid (L9.out.quiet hb10.out)
            have R11 := Lib.hid (R9.out.below hb10.out)
            clear L9 R9 hb10 c0 c1 c2 c3 c4 c5
            go_wp2_with fail
            refine (equal_yes _ _ _ _ _ _ _ _ R10.out.rd R11.out.rd).mono ?_
            rintro e w11 ⟨rfl, hb11⟩
            have HB := Lib.hid (bel2 L10.out.bel hb11)
            clear hb11 L10 R10 R11
            go_wp2_with (go_at_call 10; refine (works_ok _).mono ?_; rintro e w12 ⟨rfl, hb⟩; have H9 := Lib.hid (bel2 HB.out hb); clear hb)
            go_ret
            exact ⟨rfl, H9.out⟩
end Go.Proofs.Ytfemfgpciogbeaa
