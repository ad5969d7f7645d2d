/- The examples of the chapter hold: works returns true. -/
import Derived.Test.YthahmcipkchdjaaFv
namespace Go.Proofs.Ythahmcipkchdjaa
open Go.RowKit

def G0 : Fb := ffresh 2 4294967294
def G1 : Fb := G0.opn 5
def G2 : Fb := G1.opn 5
def G3 : Fb := G2.opn 6
def G4 : Fb := G3.closed 1 0 4294967294
def G5 : Fb := G4.closed 1 0 4294967294
def G6 : Fb := G5.opn 7
def G7 : Fb := G6.closed 1 0 4294967295

set_option maxHeartbeats 4000000 in
set_option maxRecDepth 100000 in
theorem works_ok (w : World) : Calls Try.prog 10 #[] w fun e w' => e = .returned (.bool true) ∧ Below w.heap.size w w' := by
  have rg : ∀ k i g : Nat, k ≤ 3 → i ≤ 64 → g ≤ 4294967295 → RgO k i g := fun k i g h1 h2 h3 => ⟨by omega, by omega, by omega, by omega, by omega, by omega⟩
  have RG := Lib.hid rg
  clear rg
  go_enter Try.func10, Try.ntmps10
  go_wp2_with fail
  refine (fnew_ok 2 4294967294 _ (by decide) (by decide) (by decide) (by decide)).mono ?_
  rintro e w1 ⟨b, rfl, hf⟩
  obtain ⟨k, m, hs⟩ := FSt.new hf
  have S : Hid (FSt w w1 b k m G0) := hs
  clear hf hs
  go_wp2_with fail
  refine (open_s 5 1 0 4294967294 0 S.out (by decide) rfl rfl rfl rfl).mono ?_
  rintro e w2 ⟨rfl, S1, K1⟩
  have S2 : Hid (FSt w (w2.alloc (.cells #[.int .i64 1, .int .i64 0, .int .u32 4294967294] 25)) b k m G1) := S1.out.quiet ((Below.refl _ _).alloc (Nat.le_refl _) _)
  have OA := Lib.hid (Bk.new w2 25 #[.int .i64 1, .int .i64 0, .int .u32 4294967294])
  clear S S1 K1
  have S := S2
  clear S2
  go_wp2_with fail
  generalize w2.heap.size = A at *
  generalize w2.alloc (.cells #[.int .i64 1, .int .i64 0, .int .u32 4294967294] 25) = w3 at *
  refine (open_s 5 1 1 4294967294 0 S.out (by decide) rfl rfl rfl rfl).mono ?_
  rintro e w4 ⟨rfl, S1, K1⟩
  have PA := Lib.hid (S.out.box OA.out K1.out)
  clear OA
  have S2 : Hid (FSt w (w4.alloc (.cells #[.int .i64 1, .int .i64 1, .int .u32 4294967294] 25)) b k m G2) := S1.out.quiet ((Below.refl _ _).alloc (Nat.le_refl _) _)
  have OB := Lib.hid (Bk.new w4 25 #[.int .i64 1, .int .i64 1, .int .u32 4294967294])
  have OA := Lib.hid (PA.out.up (.cells #[.int .i64 1, .int .i64 1, .int .u32 4294967294] 25))
  clear PA
  clear S S1 K1
  have S := S2
  clear S2
  go_wp2_with fail
  generalize w4.heap.size = B at *
  generalize w4.alloc (.cells #[.int .i64 1, .int .i64 1, .int .u32 4294967294] 25) = w5 at *
  refine (open_s 6 0 0 0 4 S.out (by decide) rfl rfl rfl rfl).mono ?_
  rintro e w6 ⟨rfl, S1, K1⟩
  have PA := Lib.hid (S.out.box OA.out K1.out)
  clear OA
  have PB := Lib.hid (S.out.box OB.out K1.out)
  clear OB
  have S2 : Hid (FSt w (w6.alloc (.cells #[.int .i64 0, .int .i64 0, .int .u32 0] 25)) b k m G3) := S1.out.quiet ((Below.refl _ _).alloc (Nat.le_refl _) _)
  have OC := Lib.hid (Bk.new w6 25 #[.int .i64 0, .int .i64 0, .int .u32 0])
  have OA := Lib.hid (PA.out.up (.cells #[.int .i64 0, .int .i64 0, .int .u32 0] 25))
  clear PA
  have OB := Lib.hid (PB.out.up (.cells #[.int .i64 0, .int .i64 0, .int .u32 0] 25))
  have QB := PB
  clear PB
  clear S S1 K1
  have S := S2
  clear S2
  obtain ⟨b0, b1, b2, b3⟩ := ob_cells QB.out
  go_wp2_with fail
  clear b0 b1 b2 b3
  clear QB
  generalize w6.heap.size = C at *
  generalize w6.alloc (.cells #[.int .i64 0, .int .i64 0, .int .u32 0] 25) = w7 at *
  clear OC
  refine (number_s 1 1 4294967294 5 0 S.out (RG.out 1 1 4294967294 (by decide) (by decide) (by decide)) rfl rfl).mono ?_
  rintro e w8 ⟨rfl, S1, B1⟩
  have PA := Lib.hid (OA.out.below B1.out)
  clear OA
  have OA := PA
  clear PA
  have PB := Lib.hid (OB.out.below B1.out)
  clear OB
  have OB := PB
  clear PB
  clear S B1
  have S := S1
  clear S1
  go_wp2_with fail
  refine (lfile_ok 1 1 _).mono ?_
  rintro e w9 ⟨rfl, hb1⟩
  have S1 := Lib.hid (S.out.quiet hb1)
  have PA := Lib.hid (OA.out.below hb1)
  clear OA
  have OA := PA
  clear PA
  have PB := Lib.hid (OB.out.below hb1)
  clear OB
  have OB := PB
  clear PB
  clear S hb1
  have S := S1
  clear S1
  go_wp2_with fail
  refine (number_s 1 1 1 0 7 S.out (RG.out 1 1 1 (by decide) (by decide) (by decide)) rfl rfl).mono ?_
  rintro e w10 ⟨rfl, S1, B1⟩
  have PA := Lib.hid (OA.out.below B1.out)
  clear OA
  have OA := PA
  clear PA
  have PB := Lib.hid (OB.out.below B1.out)
  clear OB
  have OB := PB
  clear PB
  clear S B1
  have S := S1
  clear S1
  go_wp2_with fail
  obtain ⟨a0, a1, a2, a3⟩ := ob_cells OA.out
  have C0 := Lib.hid (close_s 1 0 4294967294 0 (S.out.quiet (bel_drew (Below.refl _ w10))) (RG.out 1 0 4294967294 (by decide) (by decide) (by decide)) rfl)
  have C1 : Hid (∀ W, FSt w W b k m G4 → _) := fun W hS => close_s 1 0 4294967294 7 (w0 := w) (w := W) (b := b) (k := k) (m := m) (F := G4) hS (RG.out 1 0 4294967294 (by decide) (by decide) (by decide)) rfl
  go_region_held3 (fun W => W.cell? ⟨A, 0, none⟩ = some (.int .i64 1) ∧ W.cell? ⟨A, 1, none⟩ = some (.int .i64 0) ∧ W.cell? ⟨A, 2, none⟩ = some (.int .u32 4294967294)) (first | (exact ⟨a0, a1, a2⟩) | (with_reducible exact hz2) | (with_reducible exact hz1)) (first
    | (go_at_call 16; (with_reducible refine (C1.out _ S20.out).mono ?_); rintro e w21 ⟨rfl, S21, K21⟩; have A21 := Lib.hid (S20.out.box A20.out K21.out); have B21 := Lib.hid (S20.out.box B20.out K21.out); have hz2 := cells3 A21.out; clear K21)
    | (go_at_call 16; (with_reducible refine C0.out.mono ?_); rintro e w20 ⟨rfl, S20, K20⟩; have A20 := Lib.hid ((S.out.quiet (bel_drew (Below.refl _ w10))).box (OA.out.below (bel_drew (Below.refl _ w10))) K20.out); have B20 := Lib.hid ((S.out.quiet (bel_drew (Below.refl _ w10))).box (OB.out.below (bel_drew (Below.refl _ w10))) K20.out); have hz1 := cells3 A20.out; clear K20))

  obtain ⟨t0, t1, t2⟩ := hz2
  clear hz1 S S20 A20 B20 C0 C1 a0 a1 a2 a3 OA OB t0 t1 t2
  have S : Hid (FSt w w21 b k m G5) := S21
  have OA := A21
  have OB := B21
  clear S21 A21 B21
  go_wp2_with fail
  refine (open_s 7 1 0 4294967295 0 S.out (by decide) rfl rfl rfl rfl).mono ?_
  rintro e w22 ⟨rfl, S1, K1⟩
  have PA := Lib.hid (S.out.box OA.out K1.out)
  clear OA
  have PB := Lib.hid (S.out.box OB.out K1.out)
  clear OB
  have S2 : Hid (FSt w (w22.alloc (.cells #[.int .i64 1, .int .i64 0, .int .u32 4294967295] 25)) b k m G6) := S1.out.quiet ((Below.refl _ _).alloc (Nat.le_refl _) _)
  have OD := Lib.hid (Bk.new w22 25 #[.int .i64 1, .int .i64 0, .int .u32 4294967295])
  have OA := Lib.hid (PA.out.up (.cells #[.int .i64 1, .int .i64 0, .int .u32 4294967295] 25))
  have QA := PA
  clear PA
  have OB := Lib.hid (PB.out.up (.cells #[.int .i64 1, .int .i64 0, .int .u32 4294967295] 25))
  clear PB
  clear S S1 K1
  have S := S2
  clear S2
  obtain ⟨a0, a1, a2, a3⟩ := ob_cells QA.out
  go_wp2_with fail
  clear a0 a1 a2 a3
  clear QA
  generalize w22.heap.size = D at *
  generalize w22.alloc (.cells #[.int .i64 1, .int .i64 0, .int .u32 4294967295] 25) = w23 at *
  refine (number_s 1 0 4294967294 0 7 S.out (RG.out 1 0 4294967294 (by decide) (by decide) (by decide)) rfl rfl).mono ?_
  rintro e w24 ⟨rfl, S1, B1⟩
  have PA := Lib.hid (OA.out.below B1.out)
  clear OA
  have OA := PA
  clear PA
  have PB := Lib.hid (OB.out.below B1.out)
  clear OB
  have OB := PB
  clear PB
  have PD := Lib.hid (OD.out.below B1.out)
  clear OD
  have OD := PD
  clear PD
  clear S B1
  have S := S1
  clear S1
  go_wp2_with fail
  refine (all_s [⟨1, 0, 4294967295⟩, ⟨1, 1, 4294967294⟩] S.out rfl).mono ?_
  rintro e w30 ⟨p, c, rfl, R1, S1, B1⟩
  have PA := Lib.hid (OA.out.below B1.out)
  clear OA
  have OA := PA
  clear PA
  have PB := Lib.hid (OB.out.below B1.out)
  clear OB
  have OB := PB
  clear PB
  have PD := Lib.hid (OD.out.below B1.out)
  clear OD
  have OD := PD
  clear PD
  clear S B1
  have S := S1
  clear S1
  obtain ⟨d0, d1, d2, d3⟩ := ob_cells OD.out
  go_wp2_with fail
  clear d0 d1 d2 d3
  refine (close_s 1 0 4294967295 0 S.out (RG.out 1 0 4294967295 (by decide) (by decide) (by decide)) rfl).mono ?_
  rintro e w31 ⟨rfl, S1, K1⟩
  have R2 := Lib.hid (R1.out.kept S.out.f K1.out)
  have PA := Lib.hid (S.out.box OA.out K1.out)
  have PB := Lib.hid (S.out.box OB.out K1.out)
  have PD := Lib.hid (S.out.box OD.out K1.out)
  clear OA OB OD R1 K1 S
  have S : Hid (FSt w w31 b k m G7) := S1
  clear S1
  go_wp2_with fail
  refine (open_s 8 0 0 0 4 S.out (by decide) rfl rfl rfl rfl).mono ?_
  rintro e w32 ⟨rfl, S1, K1⟩
  have R3 := Lib.hid (R2.out.kept S.out.f K1.out)
  have OA := Lib.hid (S.out.box PA.out K1.out)
  have OB := Lib.hid (S.out.box PB.out K1.out)
  have OD := Lib.hid (S.out.box PD.out K1.out)
  have HB := Lib.hid S1.out.bel
  clear PA PB PD R2 K1 S S1
  have FC : Hid (∀ W, Below w32.heap.size w32 W → ((W.cell? ⟨A, 0, none⟩ = some (.int .i64 1) ∧ W.cell? ⟨A, 1, none⟩ = some (.int .i64 0) ∧ W.cell? ⟨A, 2, none⟩ = some (.int .u32 4294967294)) ∧ (W.cell? ⟨B, 0, none⟩ = some (.int .i64 1) ∧ W.cell? ⟨B, 1, none⟩ = some (.int .i64 1) ∧ W.cell? ⟨B, 2, none⟩ = some (.int .u32 4294967294)) ∧ (W.cell? ⟨D, 0, none⟩ = some (.int .i64 1) ∧ W.cell? ⟨D, 1, none⟩ = some (.int .i64 0) ∧ W.cell? ⟨D, 2, none⟩ = some (.int .u32 4294967295)))) := fun W hW => ⟨cells3 (OA.out.below hW), cells3 (OB.out.below hW), cells3 (OD.out.below hW)⟩
  have RC : Hid (∀ W g, Below w32.heap.size w32 W → Bk W g 25 #[.int .i64 1, .int .i64 0, .int .u32 4294967295, .int .i64 1, .int .i64 1, .int .u32 4294967294] → Calls Try.prog 28 #[.slice p 2 c, .slice (some ⟨g, 0, none⟩) 2 2] W fun e w' => e = .returned (.bool true) ∧ Below W.heap.size W w') := fun W g hW hg =>
    equal_yes _ _ _ _ _ _ [⟨1, 0, 4294967295⟩, ⟨1, 1, 4294967294⟩] W (R3.out.below hW).rd (RdO.lit (l := [⟨1, 0, 4294967295⟩, ⟨1, 1, 4294967294⟩]) hg rfl (by decide))
  clear OA OB OD R3
  have B0 : Hid (Below w32.heap.size w32 (w32.alloc (.cells #[.int .i64 0, .int .i64 0, .int .u32 0] 25))) := (Below.refl _ _).alloc (Nat.le_refl _) _
  obtain ⟨⟨b0, b1, b2⟩, _⟩ := FC.out _ (Below.refl _ w32)
  have b3 := World.block_lt_of_cell? _ _ b0
  go_wp2_with fail
  clear b0 b1 b2 b3
  have LF : Hid (∀ (i g : Int) W, Calls Try.prog 32 #[.int .i64 i, .int .u32 g] W fun e w' => e = .returned (.agg #[.int .i64 1, .int .i64 i, .int .u32 g]) ∧ Below W.heap.size W w') := lfile_ok
  generalize w32.alloc (.cells #[.int .i64 0, .int .i64 0, .int .u32 0] 25) = w33 at *
  have H0 : Hid (Below w32.heap.size w32 w33.drew) := bel_drew B0.out
  have hz0 := FC.out _ B0.out
  clear B0
  simp only [List.append_eq, List.cons_append, List.nil_append]
  have hwr : IntKind.u32.wrap 4294967294 = 4294967294 := rfl
  go_region_held3 (fun W => (W.cell? ⟨A, 0, none⟩ = some (.int .i64 1) ∧ W.cell? ⟨A, 1, none⟩ = some (.int .i64 0) ∧ W.cell? ⟨A, 2, none⟩ = some (.int .u32 4294967294)) ∧ (W.cell? ⟨B, 0, none⟩ = some (.int .i64 1) ∧ W.cell? ⟨B, 1, none⟩ = some (.int .i64 1) ∧ W.cell? ⟨B, 2, none⟩ = some (.int .u32 4294967294)) ∧ (W.cell? ⟨D, 0, none⟩ = some (.int .i64 1) ∧ W.cell? ⟨D, 1, none⟩ = some (.int .i64 0) ∧ W.cell? ⟨D, 2, none⟩ = some (.int .u32 4294967295))) (first | (with_reducible exact hz5) | (with_reducible exact hz4 _) | (with_reducible exact hz3) | (with_reducible exact hz2) | (with_reducible exact hz1) | (exact hz0)) (first
    | (go_at_call 28; (refine (RC.out _ _ (bel_alloc H3.out _) (Bk.new _ _ _)).mono ?_); rintro e v4 ⟨rfl, hb⟩; have H4 := Lib.hid ((bel_alloc H3.out _).trans (hb.mono (bel_alloc H3.out _).size)); have hz5 := FC.out v4 H4.out; clear hb)
    | (go_at_call 32; (with_reducible refine (LF.out 0 4294967295 _).mono ?_); rintro e v3 ⟨rfl, hb⟩; have H3 := Lib.hid (H2.out.trans (hb.mono H2.out.size)); have hz3 := FC.out v3 H3.out; have hz4 := fun x => FC.out (v3.alloc x) (bel_alloc H3.out x); clear hb)
    | (go_at_call 32; (with_reducible refine (LF.out 1 4294967294 _).mono ?_); rintro e v2 ⟨rfl, hb⟩; have H2 := Lib.hid (H1.out.trans (hb.mono H1.out.size)); have hz2 := FC.out v2 H2.out; clear hb)
    | (go_at_call 32; (with_reducible refine (LF.out 0 4294967294 _).mono ?_); rintro e v1 ⟨rfl, hb⟩; have H1 := Lib.hid (H0.out.trans (hb.mono H0.out.size)); have hz1 := FC.out v1 H1.out; clear hb))
  all_goals
    go_wp2
    go_ret
    exact ⟨rfl, HB.out.trans (H4.out.mono HB.out.size)⟩
end Go.Proofs.Ythahmcipkchdjaa
