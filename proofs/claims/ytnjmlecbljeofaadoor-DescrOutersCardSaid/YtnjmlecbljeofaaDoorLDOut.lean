/- The walk of the statement DescrOuters: it returns true for whatever numbers and whatever text. -/
import Derived.Test.YtnjmlecbljeofaaDoorDz3
import Derived.Deep.RegionHeld3
namespace Go.Proofs.YtnjmlecbljeofaaDoor
open Go.RowKit

set_option maxHeartbeats 1000000 in
set_option maxRecDepth 100000 in
theorem dOut_walk (k p g : Int) (s : ByteArray) (w : World) (hr : Rg k p g) (hs : s.size ≤ 140737488351232) (he : Env w) :
    Calls Tryd.prog 5 #[.agg #[.int .i64 k, .int .i64 p, .int .u32 g], .string s] w fun e w' => e = .returned (.bool true) ∧ Below w.heap.size w w' := by
  have HE := Lib.hid he
  clear he
  by_cases hl : 1000 < s.size
  · have hl2 : (1000 : Int) < (s.size : Int) := by omega
    clear hr
    go_enter Tryd.func5, Tryd.ntmps5
    go_wp2_with fail
    refine (works_ok _ (HE.out.below (bup w _))).mono ?_
    rintro e w1 ⟨rfl, hb1⟩
    go_wp2
    go_ret
    exact ⟨rfl, bel2 (bup w _) hb1⟩
  · have hl2 : ¬ (1000 : Int) < (s.size : Int) := by omega
    obtain ⟨t, E1, hA, hB⟩ := otext_both k p g hr
    obtain ⟨a, b, c, E2, hP, hQ⟩ := oparse_both s (by omega)
    have HA := Lib.hid hA
    have HB := Lib.hid hB
    have HP := Lib.hid hP
    have HQ := Lib.hid hQ
    obtain ⟨E3, hC, hD⟩ := ocheck_both k p g hr
    have HC := Lib.hid hC
    have HD := Lib.hid hD
    clear hC hD
    clear hr hA hB hP hQ
    go_enter Tryd.func5, Tryd.ntmps5
    go_wp2_with fail
    refine (HA.out _ (HE.out.below (bup w _))).mono ?_
    rintro e w1 ⟨rfl, hb1⟩
    have HD1 := Lib.hid ((D3.new w k p g 39).below hb1)
    obtain ⟨d0, d1, d2⟩ := HD1.out
    have HB1 := Lib.hid (bel2 (bup w _) hb1)
    clear hb1
    go_wp2_with fail
    refine (HB.out _).mono ?_
    rintro e w2 ⟨rfl, hb2⟩
    have HB2 := Lib.hid (bel2 HB1.out hb2)
    have HD2 := Lib.hid (HD1.out.below hb2)
    clear d0 d1 d2 hb2
    go_wp2_with fail
    refine (HP.out _ (HE.out.below HB2.out)).mono ?_
    rintro e w3 ⟨rfl, hb3⟩
    have HB3 := Lib.hid (bel2 HB2.out hb3)
    have HD3 := Lib.hid (HD2.out.below hb3)
    clear hb3
    go_wp2_with fail
    refine (HQ.out _).mono ?_
    rintro e w4 ⟨rfl, hb4⟩
    have HX := Lib.hid (((D3.new w3 a b c 39).below hb4).below (bup w4 (.cells #[.int .i64 a, .int .i64 b, .int .u32 c] 39)))
    have HD4 := Lib.hid ((HD3.out.below (bel2 (bup w3 _) hb4)).below (bup w4 (.cells #[.int .i64 a, .int .i64 b, .int .u32 c] 39)))
    have HB4 := Lib.hid (bel2 (bel2 HB3.out (bel2 (bup w3 _) hb4)) (bup w4 (.cells #[.int .i64 a, .int .i64 b, .int .u32 c] 39)))
    have HY := Lib.hid (D3.new w4 a b c 39)
    clear hb4
    go_wp2
    obtain ⟨W, hW⟩ : ∃ W, w4.alloc (.cells #[.int .i64 a, .int .i64 b, .int .u32 c] 39) = W := ⟨_, rfl⟩
    obtain ⟨bx, hbx⟩ : ∃ bx, w3.heap.size = bx := ⟨_, rfl⟩
    obtain ⟨by', hby⟩ : ∃ by', w4.heap.size = by' := ⟨_, rfl⟩
    obtain ⟨bd, hbd⟩ : ∃ bd, w.heap.size = bd := ⟨_, rfl⟩
    have hz0 : W.cell? ⟨bx, 0, none⟩ = some (.int .i64 a) ∧ W.cell? ⟨bx, 1, none⟩ = some (.int .i64 b) ∧ W.cell? ⟨bx, 2, none⟩ = some (.int .u32 c) ∧ W.cell? ⟨by', 0, none⟩ = some (.int .i64 a) ∧ W.cell? ⟨by', 1, none⟩ = some (.int .i64 b) ∧ W.cell? ⟨by', 2, none⟩ = some (.int .u32 c) ∧ W.cell? ⟨bd, 0, none⟩ = some (.int .i64 k) ∧ W.cell? ⟨bd, 1, none⟩ = some (.int .i64 p) ∧ W.cell? ⟨bd, 2, none⟩ = some (.int .u32 g) := by
      subst hW hbx hby hbd
      obtain ⟨x0, x1, x2⟩ := HX.out
      obtain ⟨y0, y1, y2⟩ := HY.out
      obtain ⟨d0, d1, d2⟩ := HD4.out
      exact ⟨x0, x1, x2, y0, y1, y2, d0, d1, d2⟩
    have HBW : Hid (Below w.heap.size w W) := by subst hW; exact HB4.out
    rw [hW, hbx, hby, hbd]
    clear hW hbx hby hbd HX HY HD1 HD2 HD3 HD4
    go_region_held3 (fun W => W.cell? ⟨bx, 0, none⟩ = some (.int .i64 a) ∧ W.cell? ⟨bx, 1, none⟩ = some (.int .i64 b) ∧ W.cell? ⟨bx, 2, none⟩ = some (.int .u32 c) ∧ W.cell? ⟨by', 0, none⟩ = some (.int .i64 a) ∧ W.cell? ⟨by', 1, none⟩ = some (.int .i64 b) ∧ W.cell? ⟨by', 2, none⟩ = some (.int .u32 c) ∧ W.cell? ⟨bd, 0, none⟩ = some (.int .i64 k) ∧ W.cell? ⟨bd, 1, none⟩ = some (.int .i64 p) ∧ W.cell? ⟨bd, 2, none⟩ = some (.int .u32 g))
      (first | exact hz0 | exact hz1 | exact hz2 | exact hz3)
      (first
      | (go_at_call 28; refine (HC.out _).mono ?_; rintro e w6 ⟨rfl, hb6⟩; have hz1 := nine_b hb6 hz0; have HB6 := Lib.hid (bel2 HBW.out (bel2 (bel_dr _) hb6)))
      | (go_at_call 29; refine (HD.out _).mono ?_; rintro e w7 ⟨rfl, hb7⟩; have hz2 := nine_b hb7 hz1; have HB7 := Lib.hid (bel2 HB6.out hb7))
      | (go_at_call 19; refine (works_ok _ (HE.out.below HB7.out)).mono ?_; rintro e w8 ⟨rfl, hb8⟩; have hz3 := nine_b hb8 hz2; have HB8 := Lib.hid (bel2 HB7.out hb8)))
    all_goals
      clear hz0 hz1 hz2 hz3
      go_wp2
      go_ret
      exact ⟨rfl, HB8.out⟩
end Go.Proofs.YtnjmlecbljeofaaDoor
