/- The walk of the statement DescrNames: it returns true for any numbers. -/
import Derived.Test.YtnjmlecbljeofaaDoorLDBak
namespace Go.Proofs.YtnjmlecbljeofaaDoor
open Go.RowKit

set_option maxHeartbeats 2000000 in
set_option maxRecDepth 100000 in
theorem dNam_eq (x1 y1 z1 x2 y2 z2 : Int) (k p o g m o' : Nat) (s : ByteArray) (w : World)
    (hM1 : Gives 32 #[.int .u8 x1, .int .u8 y1, .int .u32 z1] (.tuple #[.agg #[.int .i64 k, .int .i64 p, .int .u32 g], .agg #[.int .i64 k, .int .i64 o, .int .u32 g]])) (hM2 : Gives 32 #[.int .u8 x2, .int .u8 y2, .int .u32 z2] (.tuple #[.agg #[.int .i64 k, .int .i64 p, .int .u32 g], .agg #[.int .i64 k, .int .i64 o', .int .u32 g]]))
    (hP1 : Gives 13 #[.agg #[.int .i64 k, .int .i64 p, .int .u32 g]] (.tuple #[.int .u64 m, .int .i64 0])) (hP2 : Gives 13 #[.agg #[.int .i64 k, .int .i64 p, .int .u32 g]] (.tuple #[.int .u64 m, .int .i64 0]))
    (hT1 : GivesE 20 #[.agg #[.int .i64 k, .int .i64 p, .int .u32 g]] (.tuple #[.string s, .int .i64 0])) (hT2 : GivesE 20 #[.agg #[.int .i64 k, .int .i64 p, .int .u32 g]] (.tuple #[.string s, .int .i64 0]))
    (hO : Gives 30 #[.agg #[.int .i64 k, .int .i64 p, .int .u32 g], .agg #[.int .i64 k, .int .i64 p, .int .u32 g]] (.int .i64 (0))) (he : Env w) :
    Calls Tryd.prog 8 #[.int .u8 x1, .int .u8 y1, .int .u32 z1, .int .u8 x2, .int .u8 y2, .int .u32 z2] w fun e w' => e = .returned (.bool true) ∧ Below w.heap.size w w' := by
  have HE := Lib.hid he
  have HM1 := Lib.hid hM1
  have HM2 := Lib.hid hM2
  have HP1 := Lib.hid hP1
  have HP2 := Lib.hid hP2
  have HT1 := Lib.hid hT1
  have HT2 := Lib.hid hT2
  have HO := Lib.hid hO
  clear he hM1 hM2 hP1 hP2 hT1 hT2 hO
  go_enter Tryd.func8, Tryd.ntmps8
  go_wp2_with fail
  refine (HM1.out _).mono ?_
  rintro e w1 ⟨rfl, hb1⟩
  have HA := Lib.hid (d3_two (w := w1) (k := k) (p := p) (g := g) (k' := k) (p' := o) (g' := g) (T := 24) (T' := 39)).1
  have HB1 := Lib.hid (bel2 hb1 (bel2 (bup w1 (.cells #[.int .i64 k, .int .i64 p, .int .u32 g] 24)) (bup _ (.cells #[.int .i64 k, .int .i64 o, .int .u32 g] 39))))
  clear hb1
  go_wp2_with fail
  refine (HM2.out _).mono ?_
  rintro e w2 ⟨rfl, hb2⟩
  have hb2' : Below _ _ ((w2.alloc (.cells #[.int .i64 k, .int .i64 p, .int .u32 g] 24)).alloc (.cells #[.int .i64 k, .int .i64 o', .int .u32 g] 39)) := bel2 hb2 (bel2 (bup w2 _) (bup _ _))
  have HA2 := Lib.hid (HA.out.below hb2')
  have HD2 := Lib.hid (d3_two (w := w2) (k := k) (p := p) (g := g) (k' := k) (p' := o') (g' := g) (T := 24) (T' := 39)).1
  have HB2 := Lib.hid (bel2 HB1.out hb2')
  clear hb2 hb2'
  obtain ⟨a0, a1, a2⟩ := HA2.out
  go_wp2_with fail
  refine (HP1.out _).mono ?_
  rintro e w3 ⟨rfl, hb3⟩
  have HA3 := Lib.hid (HA2.out.below hb3)
  have HD3 := Lib.hid (HD2.out.below hb3)
  have HB3 := Lib.hid (bel2 HB2.out hb3)
  clear hb3 a0 a1 a2
  obtain ⟨d0, d1, d2⟩ := HD3.out
  go_wp2_with fail
  refine (HP2.out _).mono ?_
  rintro e w4 ⟨rfl, hb4⟩
  have HA4 := Lib.hid (HA3.out.below hb4)
  have HD4 := Lib.hid (HD3.out.below hb4)
  have HB4 := Lib.hid (bel2 HB3.out hb4)
  clear hb4 d0 d1 d2
  obtain ⟨a0, a1, a2⟩ := HA4.out
  go_wp2_with fail
  refine (HT1.out _ (HE.out.below HB4.out)).mono ?_
  rintro e w5 ⟨rfl, hb5⟩
  have HA5 := Lib.hid (HA4.out.below hb5)
  have HD5 := Lib.hid (HD4.out.below hb5)
  have HB5 := Lib.hid (bel2 HB4.out hb5)
  clear hb5 a0 a1 a2
  obtain ⟨d0, d1, d2⟩ := HD5.out
  go_wp2_with fail
  refine (HT2.out _ (HE.out.below HB5.out)).mono ?_
  rintro e w6 ⟨rfl, hb6⟩
  have HB6 := Lib.hid (bel2 HB5.out hb6)
  replace d0 := cell_keeps hb6 d0
  replace d1 := cell_keeps hb6 d1
  replace d2 := cell_keeps hb6 d2
  obtain ⟨a0, a1, a2⟩ := HA5.out.below hb6
  clear hb6
  go_wp2_with fail
  all_goals
      (refine (HO.out _).mono ?_
       rintro e w7 ⟨rfl, hb7⟩
       have HB7 := Lib.hid (bel2 HB6.out hb7)
       clear hb7 a0 a1 a2 d0 d1 d2
       go_wp2_with fail
       refine (works_ok _ (HE.out.below HB7.out)).mono ?_
       rintro e w8 ⟨rfl, hb8⟩
       go_wp2
       go_ret
       exact ⟨rfl, bel2 HB7.out hb8⟩)

set_option maxHeartbeats 2000000 in
set_option maxRecDepth 100000 in
theorem dNam_lta (x1 y1 z1 x2 y2 z2 : Int) (k p o g m k' p' o' g' n : Nat) (s t : ByteArray) (w : World) (hmn : (m : Int) < (n : Int)) (hq : ((m : Int) == (n : Int)) = false) (hst2 : (s.toList == t.toList) = false) (hv1 : ((k : Int) == (k' : Int)) = false)
    (hM1 : Gives 32 #[.int .u8 x1, .int .u8 y1, .int .u32 z1] (.tuple #[.agg #[.int .i64 k, .int .i64 p, .int .u32 g], .agg #[.int .i64 k, .int .i64 o, .int .u32 g]])) (hM2 : Gives 32 #[.int .u8 x2, .int .u8 y2, .int .u32 z2] (.tuple #[.agg #[.int .i64 k', .int .i64 p', .int .u32 g'], .agg #[.int .i64 k', .int .i64 o', .int .u32 g']]))
    (hP1 : Gives 13 #[.agg #[.int .i64 k, .int .i64 p, .int .u32 g]] (.tuple #[.int .u64 m, .int .i64 0])) (hP2 : Gives 13 #[.agg #[.int .i64 k', .int .i64 p', .int .u32 g']] (.tuple #[.int .u64 n, .int .i64 0]))
    (hT1 : GivesE 20 #[.agg #[.int .i64 k, .int .i64 p, .int .u32 g]] (.tuple #[.string s, .int .i64 0])) (hT2 : GivesE 20 #[.agg #[.int .i64 k', .int .i64 p', .int .u32 g']] (.tuple #[.string t, .int .i64 0]))
    (hO : Gives 30 #[.agg #[.int .i64 k, .int .i64 p, .int .u32 g], .agg #[.int .i64 k', .int .i64 p', .int .u32 g']] (.int .i64 (-1))) (he : Env w) :
    Calls Tryd.prog 8 #[.int .u8 x1, .int .u8 y1, .int .u32 z1, .int .u8 x2, .int .u8 y2, .int .u32 z2] w fun e w' => e = .returned (.bool true) ∧ Below w.heap.size w w' := by
  have HE := Lib.hid he
  have HM1 := Lib.hid hM1
  have HM2 := Lib.hid hM2
  have HP1 := Lib.hid hP1
  have HP2 := Lib.hid hP2
  have HT1 := Lib.hid hT1
  have HT2 := Lib.hid hT2
  have HO := Lib.hid hO
  clear he hM1 hM2 hP1 hP2 hT1 hT2 hO
  go_enter Tryd.func8, Tryd.ntmps8
  go_wp2_with fail
  refine (HM1.out _).mono ?_
  rintro e w1 ⟨rfl, hb1⟩
  have HA := Lib.hid (d3_two (w := w1) (k := k) (p := p) (g := g) (k' := k) (p' := o) (g' := g) (T := 24) (T' := 39)).1
  have HB1 := Lib.hid (bel2 hb1 (bel2 (bup w1 (.cells #[.int .i64 k, .int .i64 p, .int .u32 g] 24)) (bup _ (.cells #[.int .i64 k, .int .i64 o, .int .u32 g] 39))))
  clear hb1
  go_wp2_with fail
  refine (HM2.out _).mono ?_
  rintro e w2 ⟨rfl, hb2⟩
  have hb2' : Below _ _ ((w2.alloc (.cells #[.int .i64 k', .int .i64 p', .int .u32 g'] 24)).alloc (.cells #[.int .i64 k', .int .i64 o', .int .u32 g'] 39)) := bel2 hb2 (bel2 (bup w2 _) (bup _ _))
  have HA2 := Lib.hid (HA.out.below hb2')
  have HD2 := Lib.hid (d3_two (w := w2) (k := k') (p := p') (g := g') (k' := k') (p' := o') (g' := g') (T := 24) (T' := 39)).1
  have HB2 := Lib.hid (bel2 HB1.out hb2')
  clear hb2 hb2'
  obtain ⟨a0, a1, a2⟩ := HA2.out
  go_wp2_with fail
  refine (HP1.out _).mono ?_
  rintro e w3 ⟨rfl, hb3⟩
  have HA3 := Lib.hid (HA2.out.below hb3)
  have HD3 := Lib.hid (HD2.out.below hb3)
  have HB3 := Lib.hid (bel2 HB2.out hb3)
  clear hb3 a0 a1 a2
  obtain ⟨d0, d1, d2⟩ := HD3.out
  go_wp2_with fail
  refine (HP2.out _).mono ?_
  rintro e w4 ⟨rfl, hb4⟩
  have HA4 := Lib.hid (HA3.out.below hb4)
  have HD4 := Lib.hid (HD3.out.below hb4)
  have HB4 := Lib.hid (bel2 HB3.out hb4)
  clear hb4 d0 d1 d2
  obtain ⟨a0, a1, a2⟩ := HA4.out
  go_wp2_with fail
  refine (HT1.out _ (HE.out.below HB4.out)).mono ?_
  rintro e w5 ⟨rfl, hb5⟩
  have HA5 := Lib.hid (HA4.out.below hb5)
  have HD5 := Lib.hid (HD4.out.below hb5)
  have HB5 := Lib.hid (bel2 HB4.out hb5)
  clear hb5 a0 a1 a2
  obtain ⟨d0, d1, d2⟩ := HD5.out
  go_wp2_with fail
  refine (HT2.out _ (HE.out.below HB5.out)).mono ?_
  rintro e w6 ⟨rfl, hb6⟩
  have HB6 := Lib.hid (bel2 HB5.out hb6)
  replace d0 := cell_keeps hb6 d0
  replace d1 := cell_keeps hb6 d1
  replace d2 := cell_keeps hb6 d2
  obtain ⟨a0, a1, a2⟩ := HA5.out.below hb6
  clear hb6
  go_wp2_with fail
  all_goals
      (refine (HO.out _).mono ?_
       rintro e w7 ⟨rfl, hb7⟩
       have HB7 := Lib.hid (bel2 HB6.out hb7)
       clear hb7 a0 a1 a2 d0 d1 d2
       go_wp2_with fail
       refine (works_ok _ (HE.out.below HB7.out)).mono ?_
       rintro e w8 ⟨rfl, hb8⟩
       go_wp2
       go_ret
       exact ⟨rfl, bel2 HB7.out hb8⟩)

set_option maxHeartbeats 2000000 in
set_option maxRecDepth 100000 in
theorem dNam_ltb (x1 y1 z1 x2 y2 z2 : Int) (k p o g m p' o' g' n : Nat) (s t : ByteArray) (w : World) (hmn : (m : Int) < (n : Int)) (hq : ((m : Int) == (n : Int)) = false) (hst2 : (s.toList == t.toList) = false) (hv1 : ((p : Int) == (p' : Int)) = false)
    (hM1 : Gives 32 #[.int .u8 x1, .int .u8 y1, .int .u32 z1] (.tuple #[.agg #[.int .i64 k, .int .i64 p, .int .u32 g], .agg #[.int .i64 k, .int .i64 o, .int .u32 g]])) (hM2 : Gives 32 #[.int .u8 x2, .int .u8 y2, .int .u32 z2] (.tuple #[.agg #[.int .i64 k, .int .i64 p', .int .u32 g'], .agg #[.int .i64 k, .int .i64 o', .int .u32 g']]))
    (hP1 : Gives 13 #[.agg #[.int .i64 k, .int .i64 p, .int .u32 g]] (.tuple #[.int .u64 m, .int .i64 0])) (hP2 : Gives 13 #[.agg #[.int .i64 k, .int .i64 p', .int .u32 g']] (.tuple #[.int .u64 n, .int .i64 0]))
    (hT1 : GivesE 20 #[.agg #[.int .i64 k, .int .i64 p, .int .u32 g]] (.tuple #[.string s, .int .i64 0])) (hT2 : GivesE 20 #[.agg #[.int .i64 k, .int .i64 p', .int .u32 g']] (.tuple #[.string t, .int .i64 0]))
    (hO : Gives 30 #[.agg #[.int .i64 k, .int .i64 p, .int .u32 g], .agg #[.int .i64 k, .int .i64 p', .int .u32 g']] (.int .i64 (-1))) (he : Env w) :
    Calls Tryd.prog 8 #[.int .u8 x1, .int .u8 y1, .int .u32 z1, .int .u8 x2, .int .u8 y2, .int .u32 z2] w fun e w' => e = .returned (.bool true) ∧ Below w.heap.size w w' := by
  have HE := Lib.hid he
  have HM1 := Lib.hid hM1
  have HM2 := Lib.hid hM2
  have HP1 := Lib.hid hP1
  have HP2 := Lib.hid hP2
  have HT1 := Lib.hid hT1
  have HT2 := Lib.hid hT2
  have HO := Lib.hid hO
  clear he hM1 hM2 hP1 hP2 hT1 hT2 hO
  go_enter Tryd.func8, Tryd.ntmps8
  go_wp2_with fail
  refine (HM1.out _).mono ?_
  rintro e w1 ⟨rfl, hb1⟩
  have HA := Lib.hid (d3_two (w := w1) (k := k) (p := p) (g := g) (k' := k) (p' := o) (g' := g) (T := 24) (T' := 39)).1
  have HB1 := Lib.hid (bel2 hb1 (bel2 (bup w1 (.cells #[.int .i64 k, .int .i64 p, .int .u32 g] 24)) (bup _ (.cells #[.int .i64 k, .int .i64 o, .int .u32 g] 39))))
  clear hb1
  go_wp2_with fail
  refine (HM2.out _).mono ?_
  rintro e w2 ⟨rfl, hb2⟩
  have hb2' : Below _ _ ((w2.alloc (.cells #[.int .i64 k, .int .i64 p', .int .u32 g'] 24)).alloc (.cells #[.int .i64 k, .int .i64 o', .int .u32 g'] 39)) := bel2 hb2 (bel2 (bup w2 _) (bup _ _))
  have HA2 := Lib.hid (HA.out.below hb2')
  have HD2 := Lib.hid (d3_two (w := w2) (k := k) (p := p') (g := g') (k' := k) (p' := o') (g' := g') (T := 24) (T' := 39)).1
  have HB2 := Lib.hid (bel2 HB1.out hb2')
  clear hb2 hb2'
  obtain ⟨a0, a1, a2⟩ := HA2.out
  go_wp2_with fail
  refine (HP1.out _).mono ?_
  rintro e w3 ⟨rfl, hb3⟩
  have HA3 := Lib.hid (HA2.out.below hb3)
  have HD3 := Lib.hid (HD2.out.below hb3)
  have HB3 := Lib.hid (bel2 HB2.out hb3)
  clear hb3 a0 a1 a2
  obtain ⟨d0, d1, d2⟩ := HD3.out
  go_wp2_with fail
  refine (HP2.out _).mono ?_
  rintro e w4 ⟨rfl, hb4⟩
  have HA4 := Lib.hid (HA3.out.below hb4)
  have HD4 := Lib.hid (HD3.out.below hb4)
  have HB4 := Lib.hid (bel2 HB3.out hb4)
  clear hb4 d0 d1 d2
  obtain ⟨a0, a1, a2⟩ := HA4.out
  go_wp2_with fail
  refine (HT1.out _ (HE.out.below HB4.out)).mono ?_
  rintro e w5 ⟨rfl, hb5⟩
  have HA5 := Lib.hid (HA4.out.below hb5)
  have HD5 := Lib.hid (HD4.out.below hb5)
  have HB5 := Lib.hid (bel2 HB4.out hb5)
  clear hb5 a0 a1 a2
  obtain ⟨d0, d1, d2⟩ := HD5.out
  go_wp2_with fail
  refine (HT2.out _ (HE.out.below HB5.out)).mono ?_
  rintro e w6 ⟨rfl, hb6⟩
  have HB6 := Lib.hid (bel2 HB5.out hb6)
  replace d0 := cell_keeps hb6 d0
  replace d1 := cell_keeps hb6 d1
  replace d2 := cell_keeps hb6 d2
  obtain ⟨a0, a1, a2⟩ := HA5.out.below hb6
  clear hb6
  go_wp2_with fail
  all_goals
      (refine (HO.out _).mono ?_
       rintro e w7 ⟨rfl, hb7⟩
       have HB7 := Lib.hid (bel2 HB6.out hb7)
       clear hb7 a0 a1 a2 d0 d1 d2
       go_wp2_with fail
       refine (works_ok _ (HE.out.below HB7.out)).mono ?_
       rintro e w8 ⟨rfl, hb8⟩
       go_wp2
       go_ret
       exact ⟨rfl, bel2 HB7.out hb8⟩)

set_option maxHeartbeats 2000000 in
set_option maxRecDepth 100000 in
theorem dNam_ltc (x1 y1 z1 x2 y2 z2 : Int) (k p o g m o' g' n : Nat) (s t : ByteArray) (w : World) (hmn : (m : Int) < (n : Int)) (hq : ((m : Int) == (n : Int)) = false) (hst2 : (s.toList == t.toList) = false) (hv1 : ((g : Int) == (g' : Int)) = false)
    (hM1 : Gives 32 #[.int .u8 x1, .int .u8 y1, .int .u32 z1] (.tuple #[.agg #[.int .i64 k, .int .i64 p, .int .u32 g], .agg #[.int .i64 k, .int .i64 o, .int .u32 g]])) (hM2 : Gives 32 #[.int .u8 x2, .int .u8 y2, .int .u32 z2] (.tuple #[.agg #[.int .i64 k, .int .i64 p, .int .u32 g'], .agg #[.int .i64 k, .int .i64 o', .int .u32 g']]))
    (hP1 : Gives 13 #[.agg #[.int .i64 k, .int .i64 p, .int .u32 g]] (.tuple #[.int .u64 m, .int .i64 0])) (hP2 : Gives 13 #[.agg #[.int .i64 k, .int .i64 p, .int .u32 g']] (.tuple #[.int .u64 n, .int .i64 0]))
    (hT1 : GivesE 20 #[.agg #[.int .i64 k, .int .i64 p, .int .u32 g]] (.tuple #[.string s, .int .i64 0])) (hT2 : GivesE 20 #[.agg #[.int .i64 k, .int .i64 p, .int .u32 g']] (.tuple #[.string t, .int .i64 0]))
    (hO : Gives 30 #[.agg #[.int .i64 k, .int .i64 p, .int .u32 g], .agg #[.int .i64 k, .int .i64 p, .int .u32 g']] (.int .i64 (-1))) (he : Env w) :
    Calls Tryd.prog 8 #[.int .u8 x1, .int .u8 y1, .int .u32 z1, .int .u8 x2, .int .u8 y2, .int .u32 z2] w fun e w' => e = .returned (.bool true) ∧ Below w.heap.size w w' := by
  have HE := Lib.hid he
  have HM1 := Lib.hid hM1
  have HM2 := Lib.hid hM2
  have HP1 := Lib.hid hP1
  have HP2 := Lib.hid hP2
  have HT1 := Lib.hid hT1
  have HT2 := Lib.hid hT2
  have HO := Lib.hid hO
  clear he hM1 hM2 hP1 hP2 hT1 hT2 hO
  go_enter Tryd.func8, Tryd.ntmps8
  go_wp2_with fail
  refine (HM1.out _).mono ?_
  rintro e w1 ⟨rfl, hb1⟩
  have HA := Lib.hid (d3_two (w := w1) (k := k) (p := p) (g := g) (k' := k) (p' := o) (g' := g) (T := 24) (T' := 39)).1
  have HB1 := Lib.hid (bel2 hb1 (bel2 (bup w1 (.cells #[.int .i64 k, .int .i64 p, .int .u32 g] 24)) (bup _ (.cells #[.int .i64 k, .int .i64 o, .int .u32 g] 39))))
  clear hb1
  go_wp2_with fail
  refine (HM2.out _).mono ?_
  rintro e w2 ⟨rfl, hb2⟩
  have hb2' : Below _ _ ((w2.alloc (.cells #[.int .i64 k, .int .i64 p, .int .u32 g'] 24)).alloc (.cells #[.int .i64 k, .int .i64 o', .int .u32 g'] 39)) := bel2 hb2 (bel2 (bup w2 _) (bup _ _))
  have HA2 := Lib.hid (HA.out.below hb2')
  have HD2 := Lib.hid (d3_two (w := w2) (k := k) (p := p) (g := g') (k' := k) (p' := o') (g' := g') (T := 24) (T' := 39)).1
  have HB2 := Lib.hid (bel2 HB1.out hb2')
  clear hb2 hb2'
  obtain ⟨a0, a1, a2⟩ := HA2.out
  go_wp2_with fail
  refine (HP1.out _).mono ?_
  rintro e w3 ⟨rfl, hb3⟩
  have HA3 := Lib.hid (HA2.out.below hb3)
  have HD3 := Lib.hid (HD2.out.below hb3)
  have HB3 := Lib.hid (bel2 HB2.out hb3)
  clear hb3 a0 a1 a2
  obtain ⟨d0, d1, d2⟩ := HD3.out
  go_wp2_with fail
  refine (HP2.out _).mono ?_
  rintro e w4 ⟨rfl, hb4⟩
  have HA4 := Lib.hid (HA3.out.below hb4)
  have HD4 := Lib.hid (HD3.out.below hb4)
  have HB4 := Lib.hid (bel2 HB3.out hb4)
  clear hb4 d0 d1 d2
  obtain ⟨a0, a1, a2⟩ := HA4.out
  go_wp2_with fail
  refine (HT1.out _ (HE.out.below HB4.out)).mono ?_
  rintro e w5 ⟨rfl, hb5⟩
  have HA5 := Lib.hid (HA4.out.below hb5)
  have HD5 := Lib.hid (HD4.out.below hb5)
  have HB5 := Lib.hid (bel2 HB4.out hb5)
  clear hb5 a0 a1 a2
  obtain ⟨d0, d1, d2⟩ := HD5.out
  go_wp2_with fail
  refine (HT2.out _ (HE.out.below HB5.out)).mono ?_
  rintro e w6 ⟨rfl, hb6⟩
  have HB6 := Lib.hid (bel2 HB5.out hb6)
  replace d0 := cell_keeps hb6 d0
  replace d1 := cell_keeps hb6 d1
  replace d2 := cell_keeps hb6 d2
  obtain ⟨a0, a1, a2⟩ := HA5.out.below hb6
  clear hb6
  go_wp2_with fail
  all_goals
      (refine (HO.out _).mono ?_
       rintro e w7 ⟨rfl, hb7⟩
       have HB7 := Lib.hid (bel2 HB6.out hb7)
       clear hb7 a0 a1 a2 d0 d1 d2
       go_wp2_with fail
       refine (works_ok _ (HE.out.below HB7.out)).mono ?_
       rintro e w8 ⟨rfl, hb8⟩
       go_wp2
       go_ret
       exact ⟨rfl, bel2 HB7.out hb8⟩)

set_option maxHeartbeats 2000000 in
set_option maxRecDepth 100000 in
theorem dNam_gta (x1 y1 z1 x2 y2 z2 : Int) (k p o g m k' p' o' g' n : Nat) (s t : ByteArray) (w : World) (hmn : (n : Int) < (m : Int)) (_hnm : ¬ (m : Int) < (n : Int)) (hq : ((m : Int) == (n : Int)) = false) (hst2 : (s.toList == t.toList) = false) (hv1 : ((k : Int) == (k' : Int)) = false)
    (hM1 : Gives 32 #[.int .u8 x1, .int .u8 y1, .int .u32 z1] (.tuple #[.agg #[.int .i64 k, .int .i64 p, .int .u32 g], .agg #[.int .i64 k, .int .i64 o, .int .u32 g]])) (hM2 : Gives 32 #[.int .u8 x2, .int .u8 y2, .int .u32 z2] (.tuple #[.agg #[.int .i64 k', .int .i64 p', .int .u32 g'], .agg #[.int .i64 k', .int .i64 o', .int .u32 g']]))
    (hP1 : Gives 13 #[.agg #[.int .i64 k, .int .i64 p, .int .u32 g]] (.tuple #[.int .u64 m, .int .i64 0])) (hP2 : Gives 13 #[.agg #[.int .i64 k', .int .i64 p', .int .u32 g']] (.tuple #[.int .u64 n, .int .i64 0]))
    (hT1 : GivesE 20 #[.agg #[.int .i64 k, .int .i64 p, .int .u32 g]] (.tuple #[.string s, .int .i64 0])) (hT2 : GivesE 20 #[.agg #[.int .i64 k', .int .i64 p', .int .u32 g']] (.tuple #[.string t, .int .i64 0]))
    (hO : Gives 30 #[.agg #[.int .i64 k, .int .i64 p, .int .u32 g], .agg #[.int .i64 k', .int .i64 p', .int .u32 g']] (.int .i64 (1))) (he : Env w) :
    Calls Tryd.prog 8 #[.int .u8 x1, .int .u8 y1, .int .u32 z1, .int .u8 x2, .int .u8 y2, .int .u32 z2] w fun e w' => e = .returned (.bool true) ∧ Below w.heap.size w w' := by
  have HE := Lib.hid he
  have HM1 := Lib.hid hM1
  have HM2 := Lib.hid hM2
  have HP1 := Lib.hid hP1
  have HP2 := Lib.hid hP2
  have HT1 := Lib.hid hT1
  have HT2 := Lib.hid hT2
  have HO := Lib.hid hO
  clear he hM1 hM2 hP1 hP2 hT1 hT2 hO
  go_enter Tryd.func8, Tryd.ntmps8
  go_wp2_with fail
  refine (HM1.out _).mono ?_
  rintro e w1 ⟨rfl, hb1⟩
  have HA := Lib.hid (d3_two (w := w1) (k := k) (p := p) (g := g) (k' := k) (p' := o) (g' := g) (T := 24) (T' := 39)).1
  have HB1 := Lib.hid (bel2 hb1 (bel2 (bup w1 (.cells #[.int .i64 k, .int .i64 p, .int .u32 g] 24)) (bup _ (.cells #[.int .i64 k, .int .i64 o, .int .u32 g] 39))))
  clear hb1
  go_wp2_with fail
  refine (HM2.out _).mono ?_
  rintro e w2 ⟨rfl, hb2⟩
  have hb2' : Below _ _ ((w2.alloc (.cells #[.int .i64 k', .int .i64 p', .int .u32 g'] 24)).alloc (.cells #[.int .i64 k', .int .i64 o', .int .u32 g'] 39)) := bel2 hb2 (bel2 (bup w2 _) (bup _ _))
  have HA2 := Lib.hid (HA.out.below hb2')
  have HD2 := Lib.hid (d3_two (w := w2) (k := k') (p := p') (g := g') (k' := k') (p' := o') (g' := g') (T := 24) (T' := 39)).1
  have HB2 := Lib.hid (bel2 HB1.out hb2')
  clear hb2 hb2'
  obtain ⟨a0, a1, a2⟩ := HA2.out
  go_wp2_with fail
  refine (HP1.out _).mono ?_
  rintro e w3 ⟨rfl, hb3⟩
  have HA3 := Lib.hid (HA2.out.below hb3)
  have HD3 := Lib.hid (HD2.out.below hb3)
  have HB3 := Lib.hid (bel2 HB2.out hb3)
  clear hb3 a0 a1 a2
  obtain ⟨d0, d1, d2⟩ := HD3.out
  go_wp2_with fail
  refine (HP2.out _).mono ?_
  rintro e w4 ⟨rfl, hb4⟩
  have HA4 := Lib.hid (HA3.out.below hb4)
  have HD4 := Lib.hid (HD3.out.below hb4)
  have HB4 := Lib.hid (bel2 HB3.out hb4)
  clear hb4 d0 d1 d2
  obtain ⟨a0, a1, a2⟩ := HA4.out
  go_wp2_with fail
  refine (HT1.out _ (HE.out.below HB4.out)).mono ?_
  rintro e w5 ⟨rfl, hb5⟩
  have HA5 := Lib.hid (HA4.out.below hb5)
  have HD5 := Lib.hid (HD4.out.below hb5)
  have HB5 := Lib.hid (bel2 HB4.out hb5)
  clear hb5 a0 a1 a2
  obtain ⟨d0, d1, d2⟩ := HD5.out
  go_wp2_with fail
  refine (HT2.out _ (HE.out.below HB5.out)).mono ?_
  rintro e w6 ⟨rfl, hb6⟩
  have HB6 := Lib.hid (bel2 HB5.out hb6)
  replace d0 := cell_keeps hb6 d0
  replace d1 := cell_keeps hb6 d1
  replace d2 := cell_keeps hb6 d2
  obtain ⟨a0, a1, a2⟩ := HA5.out.below hb6
  clear hb6
  go_wp2_with fail
  all_goals
      (refine (HO.out _).mono ?_
       rintro e w7 ⟨rfl, hb7⟩
       have HB7 := Lib.hid (bel2 HB6.out hb7)
       clear hb7 a0 a1 a2 d0 d1 d2
       go_wp2_with fail
       refine (works_ok _ (HE.out.below HB7.out)).mono ?_
       rintro e w8 ⟨rfl, hb8⟩
       go_wp2
       go_ret
       exact ⟨rfl, bel2 HB7.out hb8⟩)

set_option maxHeartbeats 2000000 in
set_option maxRecDepth 100000 in
theorem dNam_gtb (x1 y1 z1 x2 y2 z2 : Int) (k p o g m p' o' g' n : Nat) (s t : ByteArray) (w : World) (hmn : (n : Int) < (m : Int)) (_hnm : ¬ (m : Int) < (n : Int)) (hq : ((m : Int) == (n : Int)) = false) (hst2 : (s.toList == t.toList) = false) (hv1 : ((p : Int) == (p' : Int)) = false)
    (hM1 : Gives 32 #[.int .u8 x1, .int .u8 y1, .int .u32 z1] (.tuple #[.agg #[.int .i64 k, .int .i64 p, .int .u32 g], .agg #[.int .i64 k, .int .i64 o, .int .u32 g]])) (hM2 : Gives 32 #[.int .u8 x2, .int .u8 y2, .int .u32 z2] (.tuple #[.agg #[.int .i64 k, .int .i64 p', .int .u32 g'], .agg #[.int .i64 k, .int .i64 o', .int .u32 g']]))
    (hP1 : Gives 13 #[.agg #[.int .i64 k, .int .i64 p, .int .u32 g]] (.tuple #[.int .u64 m, .int .i64 0])) (hP2 : Gives 13 #[.agg #[.int .i64 k, .int .i64 p', .int .u32 g']] (.tuple #[.int .u64 n, .int .i64 0]))
    (hT1 : GivesE 20 #[.agg #[.int .i64 k, .int .i64 p, .int .u32 g]] (.tuple #[.string s, .int .i64 0])) (hT2 : GivesE 20 #[.agg #[.int .i64 k, .int .i64 p', .int .u32 g']] (.tuple #[.string t, .int .i64 0]))
    (hO : Gives 30 #[.agg #[.int .i64 k, .int .i64 p, .int .u32 g], .agg #[.int .i64 k, .int .i64 p', .int .u32 g']] (.int .i64 (1))) (he : Env w) :
    Calls Tryd.prog 8 #[.int .u8 x1, .int .u8 y1, .int .u32 z1, .int .u8 x2, .int .u8 y2, .int .u32 z2] w fun e w' => e = .returned (.bool true) ∧ Below w.heap.size w w' := by
  have HE := Lib.hid he
  have HM1 := Lib.hid hM1
  have HM2 := Lib.hid hM2
  have HP1 := Lib.hid hP1
  have HP2 := Lib.hid hP2
  have HT1 := Lib.hid hT1
  have HT2 := Lib.hid hT2
  have HO := Lib.hid hO
  clear he hM1 hM2 hP1 hP2 hT1 hT2 hO
  go_enter Tryd.func8, Tryd.ntmps8
  go_wp2_with fail
  refine (HM1.out _).mono ?_
  rintro e w1 ⟨rfl, hb1⟩
  have HA := Lib.hid (d3_two (w := w1) (k := k) (p := p) (g := g) (k' := k) (p' := o) (g' := g) (T := 24) (T' := 39)).1
  have HB1 := Lib.hid (bel2 hb1 (bel2 (bup w1 (.cells #[.int .i64 k, .int .i64 p, .int .u32 g] 24)) (bup _ (.cells #[.int .i64 k, .int .i64 o, .int .u32 g] 39))))
  clear hb1
  go_wp2_with fail
  refine (HM2.out _).mono ?_
  rintro e w2 ⟨rfl, hb2⟩
  have hb2' : Below _ _ ((w2.alloc (.cells #[.int .i64 k, .int .i64 p', .int .u32 g'] 24)).alloc (.cells #[.int .i64 k, .int .i64 o', .int .u32 g'] 39)) := bel2 hb2 (bel2 (bup w2 _) (bup _ _))
  have HA2 := Lib.hid (HA.out.below hb2')
  have HD2 := Lib.hid (d3_two (w := w2) (k := k) (p := p') (g := g') (k' := k) (p' := o') (g' := g') (T := 24) (T' := 39)).1
  have HB2 := Lib.hid (bel2 HB1.out hb2')
  clear hb2 hb2'
  obtain ⟨a0, a1, a2⟩ := HA2.out
  go_wp2_with fail
  refine (HP1.out _).mono ?_
  rintro e w3 ⟨rfl, hb3⟩
  have HA3 := Lib.hid (HA2.out.below hb3)
  have HD3 := Lib.hid (HD2.out.below hb3)
  have HB3 := Lib.hid (bel2 HB2.out hb3)
  clear hb3 a0 a1 a2
  obtain ⟨d0, d1, d2⟩ := HD3.out
  go_wp2_with fail
  refine (HP2.out _).mono ?_
  rintro e w4 ⟨rfl, hb4⟩
  have HA4 := Lib.hid (HA3.out.below hb4)
  have HD4 := Lib.hid (HD3.out.below hb4)
  have HB4 := Lib.hid (bel2 HB3.out hb4)
  clear hb4 d0 d1 d2
  obtain ⟨a0, a1, a2⟩ := HA4.out
  go_wp2_with fail
  refine (HT1.out _ (HE.out.below HB4.out)).mono ?_
  rintro e w5 ⟨rfl, hb5⟩
  have HA5 := Lib.hid (HA4.out.below hb5)
  have HD5 := Lib.hid (HD4.out.below hb5)
  have HB5 := Lib.hid (bel2 HB4.out hb5)
  clear hb5 a0 a1 a2
  obtain ⟨d0, d1, d2⟩ := HD5.out
  go_wp2_with fail
  refine (HT2.out _ (HE.out.below HB5.out)).mono ?_
  rintro e w6 ⟨rfl, hb6⟩
  have HB6 := Lib.hid (bel2 HB5.out hb6)
  replace d0 := cell_keeps hb6 d0
  replace d1 := cell_keeps hb6 d1
  replace d2 := cell_keeps hb6 d2
  obtain ⟨a0, a1, a2⟩ := HA5.out.below hb6
  clear hb6
  go_wp2_with fail
  all_goals
      (refine (HO.out _).mono ?_
       rintro e w7 ⟨rfl, hb7⟩
       have HB7 := Lib.hid (bel2 HB6.out hb7)
       clear hb7 a0 a1 a2 d0 d1 d2
       go_wp2_with fail
       refine (works_ok _ (HE.out.below HB7.out)).mono ?_
       rintro e w8 ⟨rfl, hb8⟩
       go_wp2
       go_ret
       exact ⟨rfl, bel2 HB7.out hb8⟩)

set_option maxHeartbeats 2000000 in
set_option maxRecDepth 100000 in
theorem dNam_gtc (x1 y1 z1 x2 y2 z2 : Int) (k p o g m o' g' n : Nat) (s t : ByteArray) (w : World) (hmn : (n : Int) < (m : Int)) (_hnm : ¬ (m : Int) < (n : Int)) (hq : ((m : Int) == (n : Int)) = false) (hst2 : (s.toList == t.toList) = false) (hv1 : ((g : Int) == (g' : Int)) = false)
    (hM1 : Gives 32 #[.int .u8 x1, .int .u8 y1, .int .u32 z1] (.tuple #[.agg #[.int .i64 k, .int .i64 p, .int .u32 g], .agg #[.int .i64 k, .int .i64 o, .int .u32 g]])) (hM2 : Gives 32 #[.int .u8 x2, .int .u8 y2, .int .u32 z2] (.tuple #[.agg #[.int .i64 k, .int .i64 p, .int .u32 g'], .agg #[.int .i64 k, .int .i64 o', .int .u32 g']]))
    (hP1 : Gives 13 #[.agg #[.int .i64 k, .int .i64 p, .int .u32 g]] (.tuple #[.int .u64 m, .int .i64 0])) (hP2 : Gives 13 #[.agg #[.int .i64 k, .int .i64 p, .int .u32 g']] (.tuple #[.int .u64 n, .int .i64 0]))
    (hT1 : GivesE 20 #[.agg #[.int .i64 k, .int .i64 p, .int .u32 g]] (.tuple #[.string s, .int .i64 0])) (hT2 : GivesE 20 #[.agg #[.int .i64 k, .int .i64 p, .int .u32 g']] (.tuple #[.string t, .int .i64 0]))
    (hO : Gives 30 #[.agg #[.int .i64 k, .int .i64 p, .int .u32 g], .agg #[.int .i64 k, .int .i64 p, .int .u32 g']] (.int .i64 (1))) (he : Env w) :
    Calls Tryd.prog 8 #[.int .u8 x1, .int .u8 y1, .int .u32 z1, .int .u8 x2, .int .u8 y2, .int .u32 z2] w fun e w' => e = .returned (.bool true) ∧ Below w.heap.size w w' := by
  have HE := Lib.hid he
  have HM1 := Lib.hid hM1
  have HM2 := Lib.hid hM2
  have HP1 := Lib.hid hP1
  have HP2 := Lib.hid hP2
  have HT1 := Lib.hid hT1
  have HT2 := Lib.hid hT2
  have HO := Lib.hid hO
  clear he hM1 hM2 hP1 hP2 hT1 hT2 hO
  go_enter Tryd.func8, Tryd.ntmps8
  go_wp2_with fail
  refine (HM1.out _).mono ?_
  rintro e w1 ⟨rfl, hb1⟩
  have HA := Lib.hid (d3_two (w := w1) (k := k) (p := p) (g := g) (k' := k) (p' := o) (g' := g) (T := 24) (T' := 39)).1
  have HB1 := Lib.hid (bel2 hb1 (bel2 (bup w1 (.cells #[.int .i64 k, .int .i64 p, .int .u32 g] 24)) (bup _ (.cells #[.int .i64 k, .int .i64 o, .int .u32 g] 39))))
  clear hb1
  go_wp2_with fail
  refine (HM2.out _).mono ?_
  rintro e w2 ⟨rfl, hb2⟩
  have hb2' : Below _ _ ((w2.alloc (.cells #[.int .i64 k, .int .i64 p, .int .u32 g'] 24)).alloc (.cells #[.int .i64 k, .int .i64 o', .int .u32 g'] 39)) := bel2 hb2 (bel2 (bup w2 _) (bup _ _))
  have HA2 := Lib.hid (HA.out.below hb2')
  have HD2 := Lib.hid (d3_two (w := w2) (k := k) (p := p) (g := g') (k' := k) (p' := o') (g' := g') (T := 24) (T' := 39)).1
  have HB2 := Lib.hid (bel2 HB1.out hb2')
  clear hb2 hb2'
  obtain ⟨a0, a1, a2⟩ := HA2.out
  go_wp2_with fail
  refine (HP1.out _).mono ?_
  rintro e w3 ⟨rfl, hb3⟩
  have HA3 := Lib.hid (HA2.out.below hb3)
  have HD3 := Lib.hid (HD2.out.below hb3)
  have HB3 := Lib.hid (bel2 HB2.out hb3)
  clear hb3 a0 a1 a2
  obtain ⟨d0, d1, d2⟩ := HD3.out
  go_wp2_with fail
  refine (HP2.out _).mono ?_
  rintro e w4 ⟨rfl, hb4⟩
  have HA4 := Lib.hid (HA3.out.below hb4)
  have HD4 := Lib.hid (HD3.out.below hb4)
  have HB4 := Lib.hid (bel2 HB3.out hb4)
  clear hb4 d0 d1 d2
  obtain ⟨a0, a1, a2⟩ := HA4.out
  go_wp2_with fail
  refine (HT1.out _ (HE.out.below HB4.out)).mono ?_
  rintro e w5 ⟨rfl, hb5⟩
  have HA5 := Lib.hid (HA4.out.below hb5)
  have HD5 := Lib.hid (HD4.out.below hb5)
  have HB5 := Lib.hid (bel2 HB4.out hb5)
  clear hb5 a0 a1 a2
  obtain ⟨d0, d1, d2⟩ := HD5.out
  go_wp2_with fail
  refine (HT2.out _ (HE.out.below HB5.out)).mono ?_
  rintro e w6 ⟨rfl, hb6⟩
  have HB6 := Lib.hid (bel2 HB5.out hb6)
  replace d0 := cell_keeps hb6 d0
  replace d1 := cell_keeps hb6 d1
  replace d2 := cell_keeps hb6 d2
  obtain ⟨a0, a1, a2⟩ := HA5.out.below hb6
  clear hb6
  go_wp2_with fail
  all_goals
      (refine (HO.out _).mono ?_
       rintro e w7 ⟨rfl, hb7⟩
       have HB7 := Lib.hid (bel2 HB6.out hb7)
       clear hb7 a0 a1 a2 d0 d1 d2
       go_wp2_with fail
       refine (works_ok _ (HE.out.below HB7.out)).mono ?_
       rintro e w8 ⟨rfl, hb8⟩
       go_wp2
       go_ret
       exact ⟨rfl, bel2 HB7.out hb8⟩)

theorem num_ord {k p g k' p' g' : Nat} (h : Okn 256 k p g) (h' : Okn 256 k' p' g') : (ord k p g k' p' g' = -1 ∧ num k p g < num k' p' g') ∨ (ord k p g k' p' g' = 0 ∧ k = k' ∧ p = p' ∧ g = g') ∨ (ord k p g k' p' g' = 1 ∧ num k' p' g' < num k p g) := by
  obtain ⟨h1, h2, h3, h4, h5⟩ := h
  obtain ⟨h1', h2', h3', h4', h5'⟩ := h'
  unfold ord num
  by_cases c1 : (k : Int) < k'
  · rw [if_pos c1]; omega
  rw [if_neg c1]
  by_cases c2 : (k' : Int) < k
  · rw [if_pos c2]; omega
  rw [if_neg c2]
  by_cases c3 : (p : Int) < p'
  · rw [if_pos c3]; omega
  rw [if_neg c3]
  by_cases c4 : (p' : Int) < p
  · rw [if_pos c4]; omega
  rw [if_neg c4]
  by_cases c5 : (g : Int) < g'
  · rw [if_pos c5]; omega
  rw [if_neg c5]
  by_cases c6 : (g' : Int) < g
  · rw [if_pos c6]; omega
  rw [if_neg c6]
  omega

theorem dNam_walk (x1 y1 z1 x2 y2 z2 : Int) (w : World) (a0 : 0 ≤ x1) (a1 : x1 ≤ 255) (b0 : 0 ≤ y1) (b1 : y1 ≤ 255) (c0 : 0 ≤ z1) (c1 : z1 ≤ 4294967295) (d0 : 0 ≤ x2) (d1 : x2 ≤ 255) (e0 : 0 ≤ y2) (e1 : y2 ≤ 255) (f0 : 0 ≤ z2) (f1 : z2 ≤ 4294967295) (he : Env w) :
    Calls Tryd.prog 8 #[.int .u8 x1, .int .u8 y1, .int .u32 z1, .int .u8 x2, .int .u8 y2, .int .u32 z2] w fun e w' => e = .returned (.bool true) ∧ Below w.heap.size w w' := by
  obtain ⟨k, p, o, g, hO, _, _, hM⟩ := made_nat x1 y1 z1 ⟨a0, a1⟩ ⟨b0, b1⟩ ⟨c0, c1⟩
  obtain ⟨k', p', o', g', hO', _, _, hM'⟩ := made_nat x2 y2 z2 ⟨d0, d1⟩ ⟨e0, e1⟩ ⟨f0, f1⟩
  have ho := fun W => order_ok k p g k' p' g' (hO.rg (by omega)) (hO'.rg (by omega)) W
  have hst : ¬ (k = k' ∧ p = p' ∧ g = g') → (⟨(txt 46 k p g).toArray⟩ : ByteArray) ≠ ⟨(txt 46 k' p' g').toArray⟩ := fun hn e => by
    have e1 := congrArg (fun b : ByteArray => b.data.toList) e
    exact hn (txt_inj (.inl rfl) hO hO' e1)
  rcases num_ord hO hO' with ⟨e, h⟩ | ⟨e, rfl, rfl, rfl⟩ | ⟨e, h⟩
  · rw [e] at ho
    have hn : ¬ (k = k' ∧ p = p' ∧ g = g') := fun q => by obtain ⟨rfl, rfl, rfl⟩ := q; omega
    have hs2 : ((⟨(txt 46 k p g).toArray⟩ : ByteArray).toList == (⟨(txt 46 k' p' g').toArray⟩ : ByteArray).toList) = false := beq_eq_false_iff_ne.2 (fun q => hst hn (by rw [ByteArray.toList_eq, ByteArray.toList_eq] at q; exact ByteArray.ext (Array.toList_inj.1 q)))
    by_cases q1 : k = k'
    · subst q1
      by_cases q2 : p = p'
      · subst q2
        exact dNam_ltc x1 y1 z1 x2 y2 z2 k p o g _ o' g' _ _ _ w (by omega) (beq_eq_false_iff_ne.2 (by omega)) hs2 (beq_eq_false_iff_ne.2 (by omega)) hM hM' (fun W => pack_ok _ _ _ hO W) (fun W => pack_ok _ _ _ hO' W) (fun W q => dtext_ok _ _ _ hO W q) (fun W q => dtext_ok _ _ _ hO' W q) ho he
      · exact dNam_ltb x1 y1 z1 x2 y2 z2 k p o g _ p' o' g' _ _ _ w (by omega) (beq_eq_false_iff_ne.2 (by omega)) hs2 (beq_eq_false_iff_ne.2 (by omega)) hM hM' (fun W => pack_ok _ _ _ hO W) (fun W => pack_ok _ _ _ hO' W) (fun W q => dtext_ok _ _ _ hO W q) (fun W q => dtext_ok _ _ _ hO' W q) ho he
    · exact dNam_lta x1 y1 z1 x2 y2 z2 k p o g _ k' p' o' g' _ _ _ w (by omega) (beq_eq_false_iff_ne.2 (by omega)) hs2 (beq_eq_false_iff_ne.2 (by omega)) hM hM' (fun W => pack_ok _ _ _ hO W) (fun W => pack_ok _ _ _ hO' W) (fun W q => dtext_ok _ _ _ hO W q) (fun W q => dtext_ok _ _ _ hO' W q) ho he
  · rw [e] at ho
    exact dNam_eq x1 y1 z1 x2 y2 z2 k p o g _ o' _ w hM hM' (fun W => pack_ok k p g hO W) (fun W => pack_ok k p g hO W) (fun W q => dtext_ok k p g hO W q) (fun W q => dtext_ok k p g hO W q) ho he
  · rw [e] at ho
    have hn : ¬ (k = k' ∧ p = p' ∧ g = g') := fun q => by obtain ⟨rfl, rfl, rfl⟩ := q; omega
    have hs2 : ((⟨(txt 46 k p g).toArray⟩ : ByteArray).toList == (⟨(txt 46 k' p' g').toArray⟩ : ByteArray).toList) = false := beq_eq_false_iff_ne.2 (fun q => hst hn (by rw [ByteArray.toList_eq, ByteArray.toList_eq] at q; exact ByteArray.ext (Array.toList_inj.1 q)))
    by_cases q1 : k = k'
    · subst q1
      by_cases q2 : p = p'
      · subst q2
        exact dNam_gtc x1 y1 z1 x2 y2 z2 k p o g _ o' g' _ _ _ w (by omega) (by omega) (beq_eq_false_iff_ne.2 (by omega)) hs2 (beq_eq_false_iff_ne.2 (by omega)) hM hM' (fun W => pack_ok _ _ _ hO W) (fun W => pack_ok _ _ _ hO' W) (fun W q => dtext_ok _ _ _ hO W q) (fun W q => dtext_ok _ _ _ hO' W q) ho he
      · exact dNam_gtb x1 y1 z1 x2 y2 z2 k p o g _ p' o' g' _ _ _ w (by omega) (by omega) (beq_eq_false_iff_ne.2 (by omega)) hs2 (beq_eq_false_iff_ne.2 (by omega)) hM hM' (fun W => pack_ok _ _ _ hO W) (fun W => pack_ok _ _ _ hO' W) (fun W q => dtext_ok _ _ _ hO W q) (fun W q => dtext_ok _ _ _ hO' W q) ho he
    · exact dNam_gta x1 y1 z1 x2 y2 z2 k p o g _ k' p' o' g' _ _ _ w (by omega) (by omega) (beq_eq_false_iff_ne.2 (by omega)) hs2 (beq_eq_false_iff_ne.2 (by omega)) hM hM' (fun W => pack_ok _ _ _ hO W) (fun W => pack_ok _ _ _ hO' W) (fun W q => dtext_ok _ _ _ hO W q) (fun W q => dtext_ok _ _ _ hO' W q) ho he
end Go.Proofs.YtnjmlecbljeofaaDoor
