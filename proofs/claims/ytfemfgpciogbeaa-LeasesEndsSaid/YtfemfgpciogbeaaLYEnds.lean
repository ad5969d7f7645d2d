/- The walk of LeasesEnds: it returns true. -/
import Derived.Test.YtfemfgpciogbeaaYw
import Derived.Test.YtfemfgpciogbeaaYx
namespace Go.Proofs.Ytfemfgpciogbeaa
open Go.RowKit

/-- The sizes and generations that are not possible. -/
def endc : List Value := [.int .i64 0, .int .u32 1, .int .i64 65, .int .u32 1, .int .i64 (-1), .int .u32 1, .int .i64 5, .int .u32 0]
set_option maxHeartbeats 4000000 in
set_option maxRecDepth 100000 in
theorem yEnds_walk (w : World) : Calls Try.prog 9 #[] w fun e w' => e = .returned (.bool true) ∧ Below w.heap.size w w' := by
  have hA := Bk.new w 74 #[.int .i64 0, .int .u32 1, .int .i64 65, .int .u32 1, .int .i64 (-1), .int .u32 1, .int .i64 5, .int .u32 0]
  have hB0 : Below w.heap.size w (w.alloc (.cells #[.int .i64 0, .int .u32 1, .int .i64 65, .int .u32 1, .int .i64 (-1), .int .u32 1, .int .i64 5, .int .u32 0] 74)) := bal _ _
  have RG : Hid (∀ i : Nat, i ≤ 63 → RgO 3 i 4294967295) := fun i hi => ⟨by omega, by omega, by omega, by omega, by omega, by omega⟩
  go_enter Try.func9, Try.ntmps9
  go_wp2
  generalize w.alloc (.cells #[.int .i64 0, .int .u32 1, .int .i64 65, .int .u32 1, .int .i64 (-1), .int .u32 1, .int .i64 5, .int .u32 0] 74) = w4 at *
  have FT : Hid (∀ W (j : Nat), Below w4.heap.size w4 W → j < 4 → ∃ n g : Int, W.cell? ⟨w.heap.size, j * 2, none⟩ = some (.int .i64 n) ∧ W.cell? ⟨w.heap.size, j * 2 + 1, none⟩ = some (.int .u32 g) ∧ I64 n ∧ (0 ≤ g ∧ g ≤ 4294967295) ∧ DBad n g) := fun W j hW hj => by
    have h2 := hA.below hW
    match j, hj with
    | 0, _ => exact ⟨0, 1, h2.cell 0, h2.cell 1, ⟨by decide, by decide⟩, ⟨by decide, by decide⟩, by unfold DBad; omega⟩
    | 1, _ => exact ⟨65, 1, h2.cell 2, h2.cell 3, ⟨by decide, by decide⟩, ⟨by decide, by decide⟩, by unfold DBad; omega⟩
    | 2, _ => exact ⟨-1, 1, h2.cell 4, h2.cell 5, ⟨by decide, by decide⟩, ⟨by decide, by decide⟩, by unfold DBad; omega⟩
    | 3, _ => exact ⟨5, 0, h2.cell 6, h2.cell 7, ⟨by decide, by decide⟩, ⟨by decide, by decide⟩, by unfold DBad; omega⟩
  have HB := Lib.hid hB0
  have HL : Hid (∀ W, Below w4.heap.size w4 W → w.heap.size < W.heap.size) := fun W hW => (hA.below hW).lt
  clear hA hB0
  go_loopw [20] (fun s wr => ∃ j : Nat, j ≤ 4 ∧ s = .int .i64 j ∧ Hid (Below w4.heap.size w4 wr)) (fun s _ => 4 - (intOf s).toNat)
  case atStart => exact ⟨0, by omega, rfl, Below.refl _ _⟩
  case round =>
    obtain ⟨j, hj, rfl, HW⟩ := hrel
    by_cases hlt : j < 4
    · obtain ⟨n, g, c0, c1, hn, hg, hb⟩ := FT.out wr j HW.out hlt
      have hl := HL.out wr HW.out
      have NB : Hid (∀ W, Calls Try.prog 11 #[.int .i64 n, .int .u32 g] W fun e w' => e = .returned (.tuple #[.pointer none, .int .i64 2]) ∧ W = w') := fun W => dnew_bad n g W hn hg hb
      have HW2 : Hid (Below w4.heap.size w4 (wr.alloc (.cells #[.int .i64 n, .int .u32 g] 74))) := bel_alloc HW.out _
      clear hn hg hb
      go_wp2_with (go_at_call 11; refine (NB.out _).mono ?_; rintro e w' ⟨rfl, rfl⟩)
      go_roundw
      case rel => exact ⟨j + 1, by omega, by go_num, HW2.out⟩
      case measure => simp [intOf]; omega
    · obtain rfl : j = 4 := by omega
      clear hj hlt
      obtain ⟨V, hV⟩ : ∃ V, V = wr := ⟨wr, rfl⟩
      subst hV
      go_wp2_with fail
      refine (dnew_ok 64 4294967295 _ (by decide) (by decide) (by decide) (by decide)).mono ?_
      rintro e w5 ⟨b, rfl, hf⟩
      obtain ⟨k, a, hs⟩ := DSt.new hf
      rw [EN.zero] at hs
      have S0 := Lib.hid hs
      have HB5 := Lib.hid (bel2 HB.out HW.out)
      clear hf hs HB HW FT HL
      go_wp2
      go_loopw [45] (fun s wq => ∃ j : Nat, j ≤ 64 ∧ s = .int .i64 j ∧ Hid (DSt V wq b k a (EN j))) (fun s _ => 64 - (intOf s).toNat)
      case atStart => exact ⟨0, by omega, rfl, S0.out⟩
      case round =>
        obtain ⟨j, hj, rfl, HS⟩ := hrel
        clear S0
        by_cases hlt : j < 64
        · obtain ⟨e1, e2, e3, e4, e5⟩ := EN.grant hlt
          have GR := Lib.hid (grant_s 1048576 1099510579200 3 j 4294967295 0 HS.out (by rw [e2]; rfl) (by rw [e3]) (by rw [e4]; rfl) e1)
          rw [e5] at GR
          clear e1 e2 e3 e4 e5 HS
          have RGj := RG.out j (by omega)
          go_wp2_with fail
          refine GR.out.mono ?_
          rintro e w6 ⟨rfl, S1, _⟩
          have S2 : Hid (DSt V (w6.alloc (.cells #[.int .i64 3, .int .i64 j, .int .u32 4294967295] 33)) b k a (EN (j + 1))) := S1.out.quiet (bal _ _)
          have OA := Lib.hid (Bk.new w6 33 #[.int .i64 3, .int .i64 j, .int .u32 4294967295])
          clear GR S1 RGj
          go_wp2_with fail
          generalize w6.heap.size = A at *
          generalize w6.alloc (.cells #[.int .i64 3, .int .i64 j, .int .u32 4294967295] 33) = w7 at *
          have FC : Hid (∀ W, Below w7.heap.size w7 W → W.cell? ⟨A, 0, none⟩ = some (.int .i64 3) ∧ W.cell? ⟨A, 1, none⟩ = some (.int .i64 j) ∧ W.cell? ⟨A, 2, none⟩ = some (.int .u32 4294967295)) := fun W hW => cells3 (OA.out.below hW)
          have LF : Hid (∀ (i g : Int) W, Calls Try.prog 35 #[.int .i64 i, .int .u32 g] W fun e w' => e = .returned (.agg #[.int .i64 3, .int .i64 i, .int .u32 g]) ∧ Below W.heap.size W w') := llease_ok
          have H0 : Hid (Below w7.heap.size w7 w7.drew) := bel_drew (Below.refl _ _)
          have hz0 := FC.out _ (Below.refl _ w7)
          go_region_held3 (fun W => W.cell? ⟨A, 0, none⟩ = some (.int .i64 3) ∧ W.cell? ⟨A, 1, none⟩ = some (.int .i64 j) ∧ W.cell? ⟨A, 2, none⟩ = some (.int .u32 4294967295)) (first | (with_reducible exact hz1) | (exact hz0)) (first
            | (go_at_call 35; (with_reducible refine (LF.out j 4294967295 _).mono ?_); rintro e v1 ⟨rfl, hb⟩; have H1 := Lib.hid (H0.out.trans (hb.mono H0.out.size)); have hz1 := FC.out v1 H1.out; clear hb))
          all_goals
            have S3 := Lib.hid (S2.out.quiet H1.out)
            clear hz0 hz1 FC S2 OA H0 H1
            go_wp2
            go_roundw
            case rel => exact ⟨j + 1, by omega, by go_num, S3.out⟩
            case measure => simp [intOf]; omega
        · obtain rfl : j = 64 := by omega
          clear hj hlt
          obtain ⟨n1, n2, n3, n4⟩ := Dk.grant_ne (D := EN 64) (x := 1) (now := 0) (by rw [EN.f1]; decide)
          have G1 := Lib.hid (grant_s 1 0 0 0 0 4 HS.out (by rw [n2]; rfl) (by rw [n3]; rfl) (by rw [n4]; rfl) EN.f1)
          rw [n1] at G1
          clear n1 n2 n3 n4
          have G2 : Hid (∀ W, DSt V W b k a (EN 64) → Calls Try.prog 13 #[.pointer (some ⟨b, 0, none⟩), .int .i64 1, .int .i64 1099511627776] W fun e w' => e = .returned (.tuple #[.agg #[.int .i64 0, .int .i64 0, .int .u32 0], .int .i64 17]) ∧ Hid (DSt V w' b k a (EN 64))) := fun W hW => by
            obtain ⟨n1, n2, n3, n4⟩ := Dk.grant_ne (D := EN 64) (x := 1) (now := 1099511627776) (by rw [EN.f2]; decide)
            refine (grant_s 1 1099511627776 0 0 0 17 hW (by rw [n2]; rfl) (by rw [n3]; rfl) (by rw [n4]; rfl) EN.f2).mono fun _ _ ⟨h1, h2, _⟩ => ⟨h1, ?_⟩
            rw [n1] at h2; exact h2
          have G3 : Hid (∀ W, DSt V W b k a EG → Calls Try.prog 13 #[.pointer (some ⟨b, 0, none⟩), .int .i64 1, .int .i64 0] W fun e w' => e = .returned (.tuple #[.agg #[.int .i64 0, .int .i64 0, .int .u32 0], .int .i64 4]) ∧ Hid (DSt V w' b k a EG)) := fun W hW => by
            obtain ⟨n1, n2, n3, n4⟩ := Dk.grant_ne (D := EG) (x := 1) (now := 0) (by rw [EG.f1]; decide)
            refine (grant_s 1 0 0 0 0 4 hW (by rw [n2]; rfl) (by rw [n3]; rfl) (by rw [n4]; rfl) EG.f1).mono fun _ _ ⟨h1, h2, _⟩ => ⟨h1, ?_⟩
            rw [n1] at h2; exact h2
          have U1 : Hid (∀ W, DSt V W b k a (EN 64) → Calls Try.prog 19 #[.pointer (some ⟨b, 0, none⟩), .agg #[.int .i64 3, .int .i64 63, .int .u32 4294967295]] W fun e w' => e = .returned (.tuple #[.int .i64 1099511627776, .int .i64 0]) ∧ Hid (DSt V w' b k a (EN 64))) := fun W hW =>
            (until_s 3 63 4294967295 _ 0 hW (RG.out 63 (by decide)) EN.f6 EN.f3).mono fun _ _ ⟨h1, h2, _⟩ => ⟨h1, h2⟩
          have R1 : Hid (∀ W, DSt V W b k a (EN 64) → Calls Try.prog 17 #[.pointer (some ⟨b, 0, none⟩), .agg #[.int .i64 3, .int .i64 7, .int .u32 4294967295]] W fun e w' => e = .returned (.int .i64 0) ∧ Hid (DSt V w' b k a EG)) := fun W hW =>
            (ret_s 3 7 4294967295 0 hW (RG.out 7 (by decide)) EN.f4).mono fun _ _ ⟨h1, h2, _⟩ => ⟨h1, by rw [EN.f5] at h2; exact h2⟩
          have L1 : Hid (∀ W, DSt V W b k a EG → Calls Try.prog 25 #[.pointer (some ⟨b, 0, none⟩)] W fun e w' => e = .returned (.int .i64 63) ∧ Hid (DSt V w' b k a EG)) := fun W hW =>
            (len_s 63 hW EG.f2).mono fun _ _ ⟨h1, h2, _⟩ => ⟨h1, h2⟩
          have N1 : Hid (∀ W, DSt V W b k a EG → Calls Try.prog 15 #[.pointer (some ⟨b, 0, none⟩), .agg #[.int .i64 3, .int .i64 8, .int .u32 4294967295], .int .i64 1048576, .int .i64 1099511627775] W fun e w' => e = .returned (.int .i64 17) ∧ Hid (DSt V w' b k a EG)) := fun W hW =>
            (renew_s 3 8 4294967295 1048576 1099511627775 17 hW (RG.out 8 (by decide)) EG.f3).mono fun _ _ ⟨h1, h2, _⟩ => ⟨h1, by rw [Dk.renew_ne (by rw [EG.f3]; decide)] at h2; exact h2⟩
          have N2 : Hid (∀ W, DSt V W b k a EG → Calls Try.prog 15 #[.pointer (some ⟨b, 0, none⟩), .agg #[.int .i64 3, .int .i64 8, .int .u32 4294967295], .int .i64 1, .int .i64 1099511627775] W fun e w' => e = .returned (.int .i64 0) ∧ Hid (Below V.heap.size V w')) := fun W hW =>
            (renew_s 3 8 4294967295 1 1099511627775 0 hW (RG.out 8 (by decide)) EG.f4).mono fun _ _ ⟨h1, h2, _⟩ => ⟨h1, h2.out.bel⟩
          clear HS RG
          go_wp2_with (first
            | (go_at_call 13; (with_reducible refine G1.out.mono ?_); rintro e v1 ⟨rfl, S1, _⟩)
            | (go_at_call 13; (with_reducible refine (G2.out _ S1.out).mono ?_); rintro e v2 ⟨rfl, S2⟩)
            | (go_at_call 13; (with_reducible refine (G3.out _ S6.out).mono ?_); rintro e v7 ⟨rfl, S7⟩)
            | (go_at_call 35; (with_reducible refine (llease_ok 63 4294967295 _).mono ?_); rintro e v3 ⟨rfl, hb⟩; have S3 := Lib.hid ((S2.out.quiet (bal _ _)).quiet hb); clear hb)
            | (go_at_call 19; (with_reducible refine (U1.out _ S3.out).mono ?_); rintro e v4 ⟨rfl, S4⟩)
            | (go_at_call 35; (with_reducible refine (llease_ok 7 4294967295 _).mono ?_); rintro e v5 ⟨rfl, hb⟩; have S5 := Lib.hid (S4.out.quiet hb); clear hb)
            | (go_at_call 17; (with_reducible refine (R1.out _ S5.out).mono ?_); rintro e v55 ⟨rfl, S55⟩)
            | (go_at_call 25; (with_reducible refine (L1.out _ S55.out).mono ?_); rintro e v6 ⟨rfl, S6⟩)
            | (go_at_call 35; (with_reducible refine (llease_ok 8 4294967295 v7).mono ?_); rintro e v8 ⟨rfl, hb⟩; have S8 := Lib.hid (S7.out.quiet hb); clear hb)
            | (go_at_call 15; (with_reducible refine (N1.out _ S8.out).mono ?_); rintro e v9 ⟨rfl, S9⟩)
            | (go_at_call 35; (with_reducible refine (llease_ok 8 4294967295 v9).mono ?_); rintro e v10 ⟨rfl, hb⟩; have S10 := Lib.hid (S9.out.quiet hb); clear hb)
            | (go_at_call 15; (with_reducible refine (N2.out _ S10.out).mono ?_); rintro e v11 ⟨rfl, B11⟩)
            | (go_at_call 10; refine (works_ok _).mono ?_; rintro e v12 ⟨rfl, hb⟩; have B12 := Lib.hid (bel2 B11.out hb); clear hb))
          go_ret
          exact ⟨rfl, HB5.out.trans (B12.out.mono HB5.out.size)⟩
end Go.Proofs.Ytfemfgpciogbeaa
