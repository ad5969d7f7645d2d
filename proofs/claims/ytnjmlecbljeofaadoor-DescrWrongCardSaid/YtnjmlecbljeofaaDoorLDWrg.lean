/- The walk of the statement DescrWrong: it returns true for any numbers. -/
import Derived.Test.YtnjmlecbljeofaaDoorDz3
namespace Go.Proofs.YtnjmlecbljeofaaDoor
open Go.RowKit

theorem d3_new2 (w : World) (k p g : Int) (o : Obj) (T : TypeId) : D3 ((w.alloc o).alloc (.cells #[.int .i64 k, .int .i64 p, .int .u32 g] T)) (w.heap.size + 1) k p g := by
  constructor <;> go_simp

set_option maxHeartbeats 2000000 in
set_option maxRecDepth 100000 in
theorem dWrg_0 (kind slot gen which far : Int) (w : World) (h1 : 0 ≤ kind ∧ kind ≤ 255) (h2 : 0 ≤ slot ∧ slot ≤ 255) (h3 : 0 ≤ gen ∧ gen ≤ 4294967295) (h4 : 0 ≤ which ∧ which ≤ 255) (h5 : 0 ≤ far ∧ far ≤ 65535) (hw : which % 5 = 0) (he : Env w) :
    Calls Tryd.prog 12 #[.int .u8 kind, .int .u8 slot, .int .u32 gen, .int .u8 which, .int .u16 far] w fun e w' => e = .returned (.bool true) ∧ Below w.heap.size w w' := by
  have HE := Lib.hid he
  have hw2 : which.tmod 5 = 0 := by rw [Int.tmod_eq_emod_of_nonneg h4.1]; exact hw
  have H1 := Lib.hid h1
  have H2 := Lib.hid h2
  have H3 := Lib.hid h3
  obtain ⟨f0, f1⟩ := h5
  clear h1 h2 h3 h4 he
  go_enter Tryd.func12, Tryd.ntmps12
  go_wp2_with fail
  refine (made_ok kind slot gen H1.out H2.out H3.out _).mono ?_
  rintro e w1 ⟨k, p, o, g, hM, rfl, hb1⟩
  obtain ⟨⟨k1, k3, p1, g1, g2⟩, ⟨-, -, o1, -, -⟩, -⟩ := hM
  have HR : Hid (Rg (4 + far) (p) (g)) := ⟨by omega, by omega, by omega, by omega, by omega, by omega⟩
  have HX : Hid (Bad 256 (4 + far) (p) (g)) := by show Bad _ _ _ _; unfold Bad; omega
  have HRo : Hid (Rg (4 + far) (o) (g)) := ⟨by omega, by omega, by omega, by omega, by omega, by omega⟩
  have HXo : Hid (Bad 64 (4 + far) (o) (g)) := by show Bad _ _ _ _; unfold Bad; omega
  have HB1 := Lib.hid hb1
  clear hb1
  have HD0 : Hid (D3 ((w1.alloc (.cells #[.int .i64 (4 + far), .int .i64 (p), .int .u32 (g)] 24)).alloc (.cells #[.int .i64 (4 + far), .int .i64 (o), .int .u32 (g)] 39)) w1.heap.size (4 + far) (p) (g)) := (D3.new w1 _ _ _ _).below (bup _ _)
  have HO0 : Hid (D3 ((w1.alloc (.cells #[.int .i64 (4 + far), .int .i64 (p), .int .u32 (g)] 24)).alloc (.cells #[.int .i64 (4 + far), .int .i64 (o), .int .u32 (g)] 39)) (w1.heap.size + 1) (4 + far) (o) (g)) := d3_new2 _ _ _ _ _ _
  have HB0 := Lib.hid (bel2 HB1.out (bel2 (bup w1 (.cells #[.int .i64 (4 + far), .int .i64 (p), .int .u32 (g)] 24)) (bup _ (.cells #[.int .i64 (4 + far), .int .i64 (o), .int .u32 (g)] 39))))
  go_wp2_with fail
  refine (pack_bad _ _ _ HR.out HX.out _).mono ?_
  rintro e w2 ⟨rfl, hb2⟩
  have HD2 := Lib.hid (HD0.out.below hb2)
  have HO2 := Lib.hid (HO0.out.below hb2)
  have HB2 := Lib.hid (bel2 HB0.out hb2)
  obtain ⟨d0, d1, d2⟩ := HD2.out
  clear hb2
  go_wp2_with fail
  refine (dtext_bad _ _ _ HR.out HX.out _).mono ?_
  rintro e w3 ⟨rfl, hb3⟩
  have HD3 := Lib.hid (HD2.out.below hb3)
  have HO3 := Lib.hid (HO2.out.below hb3)
  have HB3 := Lib.hid (bel2 HB2.out hb3)
  clear hb3 d0 d1 d2
  obtain ⟨o0, o1, o2⟩ := HO3.out
  go_wp2_with fail
  refine (otext_bad _ _ _ HRo.out HXo.out _).mono ?_
  rintro e w4 ⟨rfl, hb4⟩
  have HD4 := Lib.hid (HD3.out.below hb4)
  have HO4 := Lib.hid (HO3.out.below hb4)
  have HB4 := Lib.hid (bel2 HB3.out hb4)
  clear hb4 o0 o1 o2
  obtain ⟨d0, d1, d2⟩ := HD4.out
  go_wp2_with fail
  refine (dchk_bad _ _ _ HR.out HX.out _).mono ?_
  rintro e w5 ⟨rfl, hb5⟩
  have HO5 := Lib.hid (HO4.out.below hb5)
  have HB5 := Lib.hid (bel2 HB4.out hb5)
  clear hb5 d0 d1 d2
  obtain ⟨o0, o1, o2⟩ := HO5.out
  go_wp2_with fail
  refine (ochk_bad _ _ _ HRo.out HXo.out _).mono ?_
  rintro e w6 ⟨rfl, hb6⟩
  have HB6 := Lib.hid (bel2 HB5.out hb6)
  clear hb6 o0 o1 o2
  go_wp2_with fail
  refine (works_ok _ (HE.out.below HB6.out)).mono ?_
  rintro e w7 ⟨rfl, hb7⟩
  go_wp2
  go_ret
  exact ⟨rfl, bel2 HB6.out hb7⟩
set_option maxHeartbeats 2000000 in
set_option maxRecDepth 100000 in
theorem dWrg_1 (kind slot gen which far : Int) (w : World) (h1 : 0 ≤ kind ∧ kind ≤ 255) (h2 : 0 ≤ slot ∧ slot ≤ 255) (h3 : 0 ≤ gen ∧ gen ≤ 4294967295) (h4 : 0 ≤ which ∧ which ≤ 255) (h5 : 0 ≤ far ∧ far ≤ 65535) (hw : which % 5 = 1) (he : Env w) :
    Calls Tryd.prog 12 #[.int .u8 kind, .int .u8 slot, .int .u32 gen, .int .u8 which, .int .u16 far] w fun e w' => e = .returned (.bool true) ∧ Below w.heap.size w w' := by
  have HE := Lib.hid he
  have hw2 : which.tmod 5 = 1 := by rw [Int.tmod_eq_emod_of_nonneg h4.1]; exact hw
  have H1 := Lib.hid h1
  have H2 := Lib.hid h2
  have H3 := Lib.hid h3
  obtain ⟨f0, f1⟩ := h5
  clear h1 h2 h3 h4 he
  go_enter Tryd.func12, Tryd.ntmps12
  go_wp2_with fail
  refine (made_ok kind slot gen H1.out H2.out H3.out _).mono ?_
  rintro e w1 ⟨k, p, o, g, hM, rfl, hb1⟩
  obtain ⟨⟨k1, k3, p1, g1, g2⟩, ⟨-, -, o1, -, -⟩, -⟩ := hM
  have HR : Hid (Rg (-far) (p) (g)) := ⟨by omega, by omega, by omega, by omega, by omega, by omega⟩
  have HX : Hid (Bad 256 (-far) (p) (g)) := by show Bad _ _ _ _; unfold Bad; omega
  have HRo : Hid (Rg (-far) (o) (g)) := ⟨by omega, by omega, by omega, by omega, by omega, by omega⟩
  have HXo : Hid (Bad 64 (-far) (o) (g)) := by show Bad _ _ _ _; unfold Bad; omega
  have HB1 := Lib.hid hb1
  clear hb1
  have HD0 : Hid (D3 ((w1.alloc (.cells #[.int .i64 (-far), .int .i64 (p), .int .u32 (g)] 24)).alloc (.cells #[.int .i64 (-far), .int .i64 (o), .int .u32 (g)] 39)) w1.heap.size (-far) (p) (g)) := (D3.new w1 _ _ _ _).below (bup _ _)
  have HO0 : Hid (D3 ((w1.alloc (.cells #[.int .i64 (-far), .int .i64 (p), .int .u32 (g)] 24)).alloc (.cells #[.int .i64 (-far), .int .i64 (o), .int .u32 (g)] 39)) (w1.heap.size + 1) (-far) (o) (g)) := d3_new2 _ _ _ _ _ _
  have HB0 := Lib.hid (bel2 HB1.out (bel2 (bup w1 (.cells #[.int .i64 (-far), .int .i64 (p), .int .u32 (g)] 24)) (bup _ (.cells #[.int .i64 (-far), .int .i64 (o), .int .u32 (g)] 39))))
  go_wp2_with fail
  refine (pack_bad _ _ _ HR.out HX.out _).mono ?_
  rintro e w2 ⟨rfl, hb2⟩
  have HD2 := Lib.hid (HD0.out.below hb2)
  have HO2 := Lib.hid (HO0.out.below hb2)
  have HB2 := Lib.hid (bel2 HB0.out hb2)
  obtain ⟨d0, d1, d2⟩ := HD2.out
  clear hb2
  go_wp2_with fail
  refine (dtext_bad _ _ _ HR.out HX.out _).mono ?_
  rintro e w3 ⟨rfl, hb3⟩
  have HD3 := Lib.hid (HD2.out.below hb3)
  have HO3 := Lib.hid (HO2.out.below hb3)
  have HB3 := Lib.hid (bel2 HB2.out hb3)
  clear hb3 d0 d1 d2
  obtain ⟨o0, o1, o2⟩ := HO3.out
  go_wp2_with fail
  refine (otext_bad _ _ _ HRo.out HXo.out _).mono ?_
  rintro e w4 ⟨rfl, hb4⟩
  have HD4 := Lib.hid (HD3.out.below hb4)
  have HO4 := Lib.hid (HO3.out.below hb4)
  have HB4 := Lib.hid (bel2 HB3.out hb4)
  clear hb4 o0 o1 o2
  obtain ⟨d0, d1, d2⟩ := HD4.out
  go_wp2_with fail
  refine (dchk_bad _ _ _ HR.out HX.out _).mono ?_
  rintro e w5 ⟨rfl, hb5⟩
  have HO5 := Lib.hid (HO4.out.below hb5)
  have HB5 := Lib.hid (bel2 HB4.out hb5)
  clear hb5 d0 d1 d2
  obtain ⟨o0, o1, o2⟩ := HO5.out
  go_wp2_with fail
  refine (ochk_bad _ _ _ HRo.out HXo.out _).mono ?_
  rintro e w6 ⟨rfl, hb6⟩
  have HB6 := Lib.hid (bel2 HB5.out hb6)
  clear hb6 o0 o1 o2
  go_wp2_with fail
  refine (works_ok _ (HE.out.below HB6.out)).mono ?_
  rintro e w7 ⟨rfl, hb7⟩
  go_wp2
  go_ret
  exact ⟨rfl, bel2 HB6.out hb7⟩
set_option maxHeartbeats 2000000 in
set_option maxRecDepth 100000 in
theorem dWrg_2 (kind slot gen which far : Int) (w : World) (h1 : 0 ≤ kind ∧ kind ≤ 255) (h2 : 0 ≤ slot ∧ slot ≤ 255) (h3 : 0 ≤ gen ∧ gen ≤ 4294967295) (h4 : 0 ≤ which ∧ which ≤ 255) (h5 : 0 ≤ far ∧ far ≤ 65535) (hw : which % 5 = 2) (he : Env w) :
    Calls Tryd.prog 12 #[.int .u8 kind, .int .u8 slot, .int .u32 gen, .int .u8 which, .int .u16 far] w fun e w' => e = .returned (.bool true) ∧ Below w.heap.size w w' := by
  have HE := Lib.hid he
  have hw2 : which.tmod 5 = 2 := by rw [Int.tmod_eq_emod_of_nonneg h4.1]; exact hw
  have H1 := Lib.hid h1
  have H2 := Lib.hid h2
  have H3 := Lib.hid h3
  obtain ⟨f0, f1⟩ := h5
  clear h1 h2 h3 h4 he
  go_enter Tryd.func12, Tryd.ntmps12
  go_wp2_with fail
  refine (made_ok kind slot gen H1.out H2.out H3.out _).mono ?_
  rintro e w1 ⟨k, p, o, g, hM, rfl, hb1⟩
  obtain ⟨⟨k1, k3, p1, g1, g2⟩, ⟨-, -, o1, -, -⟩, -⟩ := hM
  have HR : Hid (Rg (k) (256 + far) (g)) := ⟨by omega, by omega, by omega, by omega, by omega, by omega⟩
  have HX : Hid (Bad 256 (k) (256 + far) (g)) := by show Bad _ _ _ _; unfold Bad; omega
  have HRo : Hid (Rg (k) (64 + far) (g)) := ⟨by omega, by omega, by omega, by omega, by omega, by omega⟩
  have HXo : Hid (Bad 64 (k) (64 + far) (g)) := by show Bad _ _ _ _; unfold Bad; omega
  have HB1 := Lib.hid hb1
  clear hb1
  have HD0 : Hid (D3 ((w1.alloc (.cells #[.int .i64 (k), .int .i64 (256 + far), .int .u32 (g)] 24)).alloc (.cells #[.int .i64 (k), .int .i64 (64 + far), .int .u32 (g)] 39)) w1.heap.size (k) (256 + far) (g)) := (D3.new w1 _ _ _ _).below (bup _ _)
  have HO0 : Hid (D3 ((w1.alloc (.cells #[.int .i64 (k), .int .i64 (256 + far), .int .u32 (g)] 24)).alloc (.cells #[.int .i64 (k), .int .i64 (64 + far), .int .u32 (g)] 39)) (w1.heap.size + 1) (k) (64 + far) (g)) := d3_new2 _ _ _ _ _ _
  have HB0 := Lib.hid (bel2 HB1.out (bel2 (bup w1 (.cells #[.int .i64 (k), .int .i64 (256 + far), .int .u32 (g)] 24)) (bup _ (.cells #[.int .i64 (k), .int .i64 (64 + far), .int .u32 (g)] 39))))
  go_wp2_with fail
  refine (pack_bad _ _ _ HR.out HX.out _).mono ?_
  rintro e w2 ⟨rfl, hb2⟩
  have HD2 := Lib.hid (HD0.out.below hb2)
  have HO2 := Lib.hid (HO0.out.below hb2)
  have HB2 := Lib.hid (bel2 HB0.out hb2)
  obtain ⟨d0, d1, d2⟩ := HD2.out
  clear hb2
  go_wp2_with fail
  refine (dtext_bad _ _ _ HR.out HX.out _).mono ?_
  rintro e w3 ⟨rfl, hb3⟩
  have HD3 := Lib.hid (HD2.out.below hb3)
  have HO3 := Lib.hid (HO2.out.below hb3)
  have HB3 := Lib.hid (bel2 HB2.out hb3)
  clear hb3 d0 d1 d2
  obtain ⟨o0, o1, o2⟩ := HO3.out
  go_wp2_with fail
  refine (otext_bad _ _ _ HRo.out HXo.out _).mono ?_
  rintro e w4 ⟨rfl, hb4⟩
  have HD4 := Lib.hid (HD3.out.below hb4)
  have HO4 := Lib.hid (HO3.out.below hb4)
  have HB4 := Lib.hid (bel2 HB3.out hb4)
  clear hb4 o0 o1 o2
  obtain ⟨d0, d1, d2⟩ := HD4.out
  go_wp2_with fail
  refine (dchk_bad _ _ _ HR.out HX.out _).mono ?_
  rintro e w5 ⟨rfl, hb5⟩
  have HO5 := Lib.hid (HO4.out.below hb5)
  have HB5 := Lib.hid (bel2 HB4.out hb5)
  clear hb5 d0 d1 d2
  obtain ⟨o0, o1, o2⟩ := HO5.out
  go_wp2_with fail
  refine (ochk_bad _ _ _ HRo.out HXo.out _).mono ?_
  rintro e w6 ⟨rfl, hb6⟩
  have HB6 := Lib.hid (bel2 HB5.out hb6)
  clear hb6 o0 o1 o2
  go_wp2_with fail
  refine (works_ok _ (HE.out.below HB6.out)).mono ?_
  rintro e w7 ⟨rfl, hb7⟩
  go_wp2
  go_ret
  exact ⟨rfl, bel2 HB6.out hb7⟩
set_option maxHeartbeats 2000000 in
set_option maxRecDepth 100000 in
theorem dWrg_3 (kind slot gen which far : Int) (w : World) (h1 : 0 ≤ kind ∧ kind ≤ 255) (h2 : 0 ≤ slot ∧ slot ≤ 255) (h3 : 0 ≤ gen ∧ gen ≤ 4294967295) (h4 : 0 ≤ which ∧ which ≤ 255) (h5 : 0 ≤ far ∧ far ≤ 65535) (hw : which % 5 = 3) (he : Env w) :
    Calls Tryd.prog 12 #[.int .u8 kind, .int .u8 slot, .int .u32 gen, .int .u8 which, .int .u16 far] w fun e w' => e = .returned (.bool true) ∧ Below w.heap.size w w' := by
  have HE := Lib.hid he
  have hw2 : which.tmod 5 = 3 := by rw [Int.tmod_eq_emod_of_nonneg h4.1]; exact hw
  have H1 := Lib.hid h1
  have H2 := Lib.hid h2
  have H3 := Lib.hid h3
  obtain ⟨f0, f1⟩ := h5
  clear h1 h2 h3 h4 he
  go_enter Tryd.func12, Tryd.ntmps12
  go_wp2_with fail
  refine (made_ok kind slot gen H1.out H2.out H3.out _).mono ?_
  rintro e w1 ⟨k, p, o, g, hM, rfl, hb1⟩
  obtain ⟨⟨k1, k3, p1, g1, g2⟩, ⟨-, -, o1, -, -⟩, -⟩ := hM
  have HR : Hid (Rg (k) (-1 - far) (g)) := ⟨by omega, by omega, by omega, by omega, by omega, by omega⟩
  have HX : Hid (Bad 256 (k) (-1 - far) (g)) := by show Bad _ _ _ _; unfold Bad; omega
  have HRo : Hid (Rg (k) (-1 - far) (g)) := ⟨by omega, by omega, by omega, by omega, by omega, by omega⟩
  have HXo : Hid (Bad 64 (k) (-1 - far) (g)) := by show Bad _ _ _ _; unfold Bad; omega
  have HB1 := Lib.hid hb1
  clear hb1
  have HD0 : Hid (D3 ((w1.alloc (.cells #[.int .i64 (k), .int .i64 (-1 - far), .int .u32 (g)] 24)).alloc (.cells #[.int .i64 (k), .int .i64 (-1 - far), .int .u32 (g)] 39)) w1.heap.size (k) (-1 - far) (g)) := (D3.new w1 _ _ _ _).below (bup _ _)
  have HO0 : Hid (D3 ((w1.alloc (.cells #[.int .i64 (k), .int .i64 (-1 - far), .int .u32 (g)] 24)).alloc (.cells #[.int .i64 (k), .int .i64 (-1 - far), .int .u32 (g)] 39)) (w1.heap.size + 1) (k) (-1 - far) (g)) := d3_new2 _ _ _ _ _ _
  have HB0 := Lib.hid (bel2 HB1.out (bel2 (bup w1 (.cells #[.int .i64 (k), .int .i64 (-1 - far), .int .u32 (g)] 24)) (bup _ (.cells #[.int .i64 (k), .int .i64 (-1 - far), .int .u32 (g)] 39))))
  go_wp2_with fail
  refine (pack_bad _ _ _ HR.out HX.out _).mono ?_
  rintro e w2 ⟨rfl, hb2⟩
  have HD2 := Lib.hid (HD0.out.below hb2)
  have HO2 := Lib.hid (HO0.out.below hb2)
  have HB2 := Lib.hid (bel2 HB0.out hb2)
  obtain ⟨d0, d1, d2⟩ := HD2.out
  clear hb2
  go_wp2_with fail
  refine (dtext_bad _ _ _ HR.out HX.out _).mono ?_
  rintro e w3 ⟨rfl, hb3⟩
  have HD3 := Lib.hid (HD2.out.below hb3)
  have HO3 := Lib.hid (HO2.out.below hb3)
  have HB3 := Lib.hid (bel2 HB2.out hb3)
  clear hb3 d0 d1 d2
  obtain ⟨o0, o1, o2⟩ := HO3.out
  go_wp2_with fail
  refine (otext_bad _ _ _ HRo.out HXo.out _).mono ?_
  rintro e w4 ⟨rfl, hb4⟩
  have HD4 := Lib.hid (HD3.out.below hb4)
  have HO4 := Lib.hid (HO3.out.below hb4)
  have HB4 := Lib.hid (bel2 HB3.out hb4)
  clear hb4 o0 o1 o2
  obtain ⟨d0, d1, d2⟩ := HD4.out
  go_wp2_with fail
  refine (dchk_bad _ _ _ HR.out HX.out _).mono ?_
  rintro e w5 ⟨rfl, hb5⟩
  have HO5 := Lib.hid (HO4.out.below hb5)
  have HB5 := Lib.hid (bel2 HB4.out hb5)
  clear hb5 d0 d1 d2
  obtain ⟨o0, o1, o2⟩ := HO5.out
  go_wp2_with fail
  refine (ochk_bad _ _ _ HRo.out HXo.out _).mono ?_
  rintro e w6 ⟨rfl, hb6⟩
  have HB6 := Lib.hid (bel2 HB5.out hb6)
  clear hb6 o0 o1 o2
  go_wp2_with fail
  refine (works_ok _ (HE.out.below HB6.out)).mono ?_
  rintro e w7 ⟨rfl, hb7⟩
  go_wp2
  go_ret
  exact ⟨rfl, bel2 HB6.out hb7⟩
set_option maxHeartbeats 2000000 in
set_option maxRecDepth 100000 in
theorem dWrg_4 (kind slot gen which far : Int) (w : World) (h1 : 0 ≤ kind ∧ kind ≤ 255) (h2 : 0 ≤ slot ∧ slot ≤ 255) (h3 : 0 ≤ gen ∧ gen ≤ 4294967295) (h4 : 0 ≤ which ∧ which ≤ 255) (h5 : 0 ≤ far ∧ far ≤ 65535) (hw : which % 5 = 4) (he : Env w) :
    Calls Tryd.prog 12 #[.int .u8 kind, .int .u8 slot, .int .u32 gen, .int .u8 which, .int .u16 far] w fun e w' => e = .returned (.bool true) ∧ Below w.heap.size w w' := by
  have HE := Lib.hid he
  have hw2 : which.tmod 5 = 4 := by rw [Int.tmod_eq_emod_of_nonneg h4.1]; exact hw
  have H1 := Lib.hid h1
  have H2 := Lib.hid h2
  have H3 := Lib.hid h3
  obtain ⟨f0, f1⟩ := h5
  clear h1 h2 h3 h4 he
  go_enter Tryd.func12, Tryd.ntmps12
  go_wp2_with fail
  refine (made_ok kind slot gen H1.out H2.out H3.out _).mono ?_
  rintro e w1 ⟨k, p, o, g, hM, rfl, hb1⟩
  obtain ⟨⟨k1, k3, p1, g1, g2⟩, ⟨-, -, o1, -, -⟩, -⟩ := hM
  have HR : Hid (Rg (k) (p) (0)) := ⟨by omega, by omega, by omega, by omega, by omega, by omega⟩
  have HX : Hid (Bad 256 (k) (p) (0)) := by show Bad _ _ _ _; unfold Bad; omega
  have HRo : Hid (Rg (k) (o) (0)) := ⟨by omega, by omega, by omega, by omega, by omega, by omega⟩
  have HXo : Hid (Bad 64 (k) (o) (0)) := by show Bad _ _ _ _; unfold Bad; omega
  have HB1 := Lib.hid hb1
  clear hb1
  have HD0 : Hid (D3 ((w1.alloc (.cells #[.int .i64 (k), .int .i64 (p), .int .u32 (0)] 24)).alloc (.cells #[.int .i64 (k), .int .i64 (o), .int .u32 (0)] 39)) w1.heap.size (k) (p) (0)) := (D3.new w1 _ _ _ _).below (bup _ _)
  have HO0 : Hid (D3 ((w1.alloc (.cells #[.int .i64 (k), .int .i64 (p), .int .u32 (0)] 24)).alloc (.cells #[.int .i64 (k), .int .i64 (o), .int .u32 (0)] 39)) (w1.heap.size + 1) (k) (o) (0)) := d3_new2 _ _ _ _ _ _
  have HB0 := Lib.hid (bel2 HB1.out (bel2 (bup w1 (.cells #[.int .i64 (k), .int .i64 (p), .int .u32 (0)] 24)) (bup _ (.cells #[.int .i64 (k), .int .i64 (o), .int .u32 (0)] 39))))
  go_wp2_with fail
  refine (pack_bad _ _ _ HR.out HX.out _).mono ?_
  rintro e w2 ⟨rfl, hb2⟩
  have HD2 := Lib.hid (HD0.out.below hb2)
  have HO2 := Lib.hid (HO0.out.below hb2)
  have HB2 := Lib.hid (bel2 HB0.out hb2)
  obtain ⟨d0, d1, d2⟩ := HD2.out
  clear hb2
  go_wp2_with fail
  refine (dtext_bad _ _ _ HR.out HX.out _).mono ?_
  rintro e w3 ⟨rfl, hb3⟩
  have HD3 := Lib.hid (HD2.out.below hb3)
  have HO3 := Lib.hid (HO2.out.below hb3)
  have HB3 := Lib.hid (bel2 HB2.out hb3)
  clear hb3 d0 d1 d2
  obtain ⟨o0, o1, o2⟩ := HO3.out
  go_wp2_with fail
  refine (otext_bad _ _ _ HRo.out HXo.out _).mono ?_
  rintro e w4 ⟨rfl, hb4⟩
  have HD4 := Lib.hid (HD3.out.below hb4)
  have HO4 := Lib.hid (HO3.out.below hb4)
  have HB4 := Lib.hid (bel2 HB3.out hb4)
  clear hb4 o0 o1 o2
  obtain ⟨d0, d1, d2⟩ := HD4.out
  go_wp2_with fail
  refine (dchk_bad _ _ _ HR.out HX.out _).mono ?_
  rintro e w5 ⟨rfl, hb5⟩
  have HO5 := Lib.hid (HO4.out.below hb5)
  have HB5 := Lib.hid (bel2 HB4.out hb5)
  clear hb5 d0 d1 d2
  obtain ⟨o0, o1, o2⟩ := HO5.out
  go_wp2_with fail
  refine (ochk_bad _ _ _ HRo.out HXo.out _).mono ?_
  rintro e w6 ⟨rfl, hb6⟩
  have HB6 := Lib.hid (bel2 HB5.out hb6)
  clear hb6 o0 o1 o2
  go_wp2_with fail
  refine (works_ok _ (HE.out.below HB6.out)).mono ?_
  rintro e w7 ⟨rfl, hb7⟩
  go_wp2
  go_ret
  exact ⟨rfl, bel2 HB6.out hb7⟩

theorem dWrg_walk (kind slot gen which far : Int) (w : World) (a0 : 0 ≤ kind) (a1 : kind ≤ 255) (b0 : 0 ≤ slot) (b1 : slot ≤ 255) (c0 : 0 ≤ gen) (c1 : gen ≤ 4294967295) (d0 : 0 ≤ which) (d1 : which ≤ 255) (e0 : 0 ≤ far) (e1 : far ≤ 65535) (he : Env w) :
    Calls Tryd.prog 12 #[.int .u8 kind, .int .u8 slot, .int .u32 gen, .int .u8 which, .int .u16 far] w fun e w' => e = .returned (.bool true) ∧ Below w.heap.size w w' := by
  have h : which % 5 = 0 ∨ which % 5 = 1 ∨ which % 5 = 2 ∨ which % 5 = 3 ∨ which % 5 = 4 := by omega
  rcases h with h | h | h | h | h
  · exact dWrg_0 kind slot gen which far w ⟨a0, a1⟩ ⟨b0, b1⟩ ⟨c0, c1⟩ ⟨d0, d1⟩ ⟨e0, e1⟩ h he
  · exact dWrg_1 kind slot gen which far w ⟨a0, a1⟩ ⟨b0, b1⟩ ⟨c0, c1⟩ ⟨d0, d1⟩ ⟨e0, e1⟩ h he
  · exact dWrg_2 kind slot gen which far w ⟨a0, a1⟩ ⟨b0, b1⟩ ⟨c0, c1⟩ ⟨d0, d1⟩ ⟨e0, e1⟩ h he
  · exact dWrg_3 kind slot gen which far w ⟨a0, a1⟩ ⟨b0, b1⟩ ⟨c0, c1⟩ ⟨d0, d1⟩ ⟨e0, e1⟩ h he
  · exact dWrg_4 kind slot gen which far w ⟨a0, a1⟩ ⟨b0, b1⟩ ⟨c0, c1⟩ ⟨d0, d1⟩ ⟨e0, e1⟩ h he
end Go.Proofs.YtnjmlecbljeofaaDoor
