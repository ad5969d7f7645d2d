/- The walk of the statement DescrTexts: it returns true for whatever numbers and whatever text. -/
import Derived.Test.YtnjmlecbljeofaaDoorDz3
import Derived.Deep.RegionHeld3
namespace Go.Proofs.YtnjmlecbljeofaaDoor
open Go.RowKit

set_option maxHeartbeats 1000000 in
set_option maxRecDepth 100000 in
theorem dTxt_walk (k p g : Int) (s : ByteArray) (w : World) (hr : Rg k p g) (hs : s.size ≤ 140737488351232) (he : Env w) :
    Calls Tryd.prog 4 #[.agg #[.int .i64 k, .int .i64 p, .int .u32 g], .string s] w fun e w' => e = .returned (.bool true) ∧ Below w.heap.size w w' := by
  have HE := Lib.hid he
  clear he
  by_cases hl : 1000 < s.size
  · have hl2 : (1000 : Int) < (s.size : Int) := by omega
    clear hr
    go_enter Tryd.func4, Tryd.ntmps4
    go_wp2_with fail
    refine (works_ok _ (HE.out.below (bup w _))).mono ?_
    rintro e w1 ⟨rfl, hb1⟩
    go_wp2
    go_ret
    exact ⟨rfl, bel2 (bup w _) hb1⟩
  · have hl2 : ¬ (1000 : Int) < (s.size : Int) := by omega
    obtain ⟨t, E1, hA, hB⟩ := text_both k p g hr
    obtain ⟨a, b, c, E2, hP, hQ⟩ := parse_both s (by omega)
    have HA := Lib.hid hA
    have HB := Lib.hid hB
    have HP := Lib.hid hP
    have HQ := Lib.hid hQ
    clear hr hA hB hP hQ
    go_enter Tryd.func4, Tryd.ntmps4
    go_wp2_with fail
    refine (HA.out _ (HE.out.below (bup w _))).mono ?_
    rintro e w1 ⟨rfl, hb1⟩
    have HD1 := Lib.hid ((D3.new w k p g 24).below hb1)
    obtain ⟨d0, d1, d2⟩ := HD1.out
    have HB1 := Lib.hid (bel2 (bup w _) hb1)
    clear hb1
    go_wp2_with fail
    refine (HB.out _).mono ?_
    rintro e w2 ⟨rfl, hb2⟩
    have HB2 := Lib.hid (bel2 HB1.out hb2)
    have HD2 := Lib.hid (HD1.out.below hb2)
    clear d0 d1 d2 hb2
    go_wp2_with fail
    refine (HP.out _ (HE.out.below HB2.out)).mono ?_
    rintro e w3 ⟨rfl, hb3⟩
    have HB3 := Lib.hid (bel2 HB2.out hb3)
    have HD3 := Lib.hid (HD2.out.below hb3)
    clear hb3
    go_wp2_with fail
    refine (HQ.out _).mono ?_
    rintro e w4 ⟨rfl, hb4⟩
    have HX := Lib.hid (((D3.new w3 a b c 24).below hb4).below (bup w4 (.cells #[.int .i64 a, .int .i64 b, .int .u32 c] 24)))
    have HD4 := Lib.hid ((HD3.out.below (bel2 (bup w3 _) hb4)).below (bup w4 (.cells #[.int .i64 a, .int .i64 b, .int .u32 c] 24)))
    have HB4 := Lib.hid (bel2 (bel2 HB3.out (bel2 (bup w3 _) hb4)) (bup w4 (.cells #[.int .i64 a, .int .i64 b, .int .u32 c] 24)))
    have HY := Lib.hid (D3.new w4 a b c 24)
    clear hb4
    obtain ⟨x0, x1, x2⟩ := HX.out
    go_wp2_with fail
    refine (works_ok _ (HE.out.below HB4.out)).mono ?_
    rintro e w5 ⟨rfl, hb5⟩
    clear x0 x1 x2
    go_wp2
    go_ret
    exact ⟨rfl, bel2 HB4.out hb5⟩
end Go.Proofs.YtnjmlecbljeofaaDoor
