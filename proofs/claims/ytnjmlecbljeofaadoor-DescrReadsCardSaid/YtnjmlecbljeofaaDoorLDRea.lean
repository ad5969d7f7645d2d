/- The walk of the statement DescrReads: it returns true for any number and any text. -/
import Derived.Test.YtnjmlecbljeofaaDoorLDBak
namespace Go.Proofs.YtnjmlecbljeofaaDoor
open Go.RowKit

theorem bad0 (N : Int) : Bad N 0 0 0 := by unfold Bad; omega
theorem rg0 : Rg 0 0 0 := ⟨by decide, by decide, by decide, by decide, by decide, by decide⟩

set_option maxHeartbeats 2000000 in
set_option maxRecDepth 100000 in
theorem dRea_okD (k0 p0 g0 : Nat) (k p g : Nat) (n : Int) (s : ByteArray) (w : World) (_hn0 : 0 ≤ n) (_hn1 : n ≤ 18446744073709551615) (hs : s.size ≤ 140737488351232) (hl : s.size ≤ 300)
    (hU : Gives 15 #[.int .u64 n] (.tuple #[(.agg #[.int .i64 k0, .int .i64 p0, .int .u32 g0]), .int .i64 0])) (hK : Gives 13 #[(.agg #[.int .i64 k0, .int .i64 p0, .int .u32 g0])] (.tuple #[.int .u64 n, .int .i64 0]))
    (hP : GivesE 22 #[.string s] (.tuple #[(.agg #[.int .i64 k, .int .i64 p, .int .u32 g]), .int .i64 0])) (hT : GivesE 20 #[(.agg #[.int .i64 k, .int .i64 p, .int .u32 g])] (.tuple #[.string s, .int .i64 0]))
    (hQ : GivesE 26 #[.string s] (.tuple #[(.agg #[.int .i64 0, .int .i64 0, .int .u32 0]), .int .i64 9])) (hV : GivesE 24 #[(.agg #[.int .i64 0, .int .i64 0, .int .u32 0])] (.tuple #[.string ⟨#[]⟩, .int .i64 2]))
    (he : Env w) : Calls Tryd.prog 10 #[.int .u64 n, .string s] w fun e w' => e = .returned (.bool true) ∧ Below w.heap.size w w' := by
  have HE := Lib.hid he
  have HU := Lib.hid hU
  have HK := Lib.hid hK
  have HP := Lib.hid hP
  have HT := Lib.hid hT
  have HQ := Lib.hid hQ
  have HV := Lib.hid hV
  have hl2 : ¬ (300 : Int) < (s.size : Int) := by omega
  clear hP hT hQ hV
  clear he hU hK hl
  go_enter Tryd.func10, Tryd.ntmps10
  go_wp2_with fail
  refine (HU.out _).mono ?_
  rintro e w1 ⟨rfl, hb1⟩
  have HD1 := Lib.hid (D3.new w1 k0 p0 g0 24)
  have HB1 := Lib.hid (bel2 hb1 (bup w1 (.cells #[.int .i64 k0, .int .i64 p0, .int .u32 g0] 24)))
  clear hb1
  go_wp2_with fail
  refine (HK.out _).mono ?_
  rintro e w2 ⟨rfl, hb2⟩
  obtain ⟨d0, d1, d2⟩ := HD1.out.below hb2
  have HB2 := Lib.hid (bel2 HB1.out hb2)
  clear hb2
  go_wp2_with fail
  refine (HP.out _ (HE.out.below HB2.out)).mono ?_
  rintro e w3 ⟨rfl, hb3⟩
  clear d0 d1 d2
  have HX3 := Lib.hid (D3.new w3 k p g 24)
  have HB3 := Lib.hid (bel2 HB2.out (bel2 hb3 (bup w3 (.cells #[.int .i64 k, .int .i64 p, .int .u32 g] 24))))
  clear hb3
  go_wp2_with fail
  refine (HT.out _ (HE.out.below HB3.out)).mono ?_
  rintro e w4 ⟨rfl, hb4⟩
  obtain ⟨x0, x1, x2⟩ := HX3.out.below hb4
  have HB4 := Lib.hid (bel2 HB3.out hb4)
  clear hb4
  go_wp2_with fail
  refine (HQ.out _ (HE.out.below HB4.out)).mono ?_
  rintro e w5 ⟨rfl, hb5⟩
  clear x0 x1 x2
  have HY5 := Lib.hid (D3.new w5 0 0 0 39)
  have HB5 := Lib.hid (bel2 HB4.out (bel2 hb5 (bup w5 (.cells #[.int .i64 0, .int .i64 0, .int .u32 0] 39))))
  clear hb5
  go_wp2_with fail
  refine (HV.out _ (HE.out.below HB5.out)).mono ?_
  rintro e w6 ⟨rfl, hb6⟩
  obtain ⟨y0, y1, y2⟩ := HY5.out.below hb6
  have HB6 := Lib.hid (bel2 HB5.out hb6)
  clear hb6
  go_wp2_with fail
  refine (works_ok _ (HE.out.below HB6.out)).mono ?_
  rintro e w7 ⟨rfl, hb7⟩
  clear y0 y1 y2
  go_wp2
  go_ret
  exact ⟨rfl, bel2 HB6.out hb7⟩

set_option maxHeartbeats 2000000 in
set_option maxRecDepth 100000 in
theorem dRea_okO (k0 p0 g0 : Nat) (k p g : Nat) (n : Int) (s : ByteArray) (w : World) (_hn0 : 0 ≤ n) (_hn1 : n ≤ 18446744073709551615) (hs : s.size ≤ 140737488351232) (hl : s.size ≤ 300)
    (hU : Gives 15 #[.int .u64 n] (.tuple #[(.agg #[.int .i64 k0, .int .i64 p0, .int .u32 g0]), .int .i64 0])) (hK : Gives 13 #[(.agg #[.int .i64 k0, .int .i64 p0, .int .u32 g0])] (.tuple #[.int .u64 n, .int .i64 0]))
    (hP : GivesE 22 #[.string s] (.tuple #[(.agg #[.int .i64 0, .int .i64 0, .int .u32 0]), .int .i64 9])) (hT : GivesE 20 #[(.agg #[.int .i64 0, .int .i64 0, .int .u32 0])] (.tuple #[.string ⟨#[]⟩, .int .i64 2]))
    (hQ : GivesE 26 #[.string s] (.tuple #[(.agg #[.int .i64 k, .int .i64 p, .int .u32 g]), .int .i64 0])) (hV : GivesE 24 #[(.agg #[.int .i64 k, .int .i64 p, .int .u32 g])] (.tuple #[.string s, .int .i64 0]))
    (he : Env w) : Calls Tryd.prog 10 #[.int .u64 n, .string s] w fun e w' => e = .returned (.bool true) ∧ Below w.heap.size w w' := by
  have HE := Lib.hid he
  have HU := Lib.hid hU
  have HK := Lib.hid hK
  have HP := Lib.hid hP
  have HT := Lib.hid hT
  have HQ := Lib.hid hQ
  have HV := Lib.hid hV
  have hl2 : ¬ (300 : Int) < (s.size : Int) := by omega
  clear hP hT hQ hV
  clear he hU hK hl
  go_enter Tryd.func10, Tryd.ntmps10
  go_wp2_with fail
  refine (HU.out _).mono ?_
  rintro e w1 ⟨rfl, hb1⟩
  have HD1 := Lib.hid (D3.new w1 k0 p0 g0 24)
  have HB1 := Lib.hid (bel2 hb1 (bup w1 (.cells #[.int .i64 k0, .int .i64 p0, .int .u32 g0] 24)))
  clear hb1
  go_wp2_with fail
  refine (HK.out _).mono ?_
  rintro e w2 ⟨rfl, hb2⟩
  obtain ⟨d0, d1, d2⟩ := HD1.out.below hb2
  have HB2 := Lib.hid (bel2 HB1.out hb2)
  clear hb2
  go_wp2_with fail
  refine (HP.out _ (HE.out.below HB2.out)).mono ?_
  rintro e w3 ⟨rfl, hb3⟩
  clear d0 d1 d2
  have HX3 := Lib.hid (D3.new w3 0 0 0 24)
  have HB3 := Lib.hid (bel2 HB2.out (bel2 hb3 (bup w3 (.cells #[.int .i64 0, .int .i64 0, .int .u32 0] 24))))
  clear hb3
  go_wp2_with fail
  refine (HT.out _ (HE.out.below HB3.out)).mono ?_
  rintro e w4 ⟨rfl, hb4⟩
  obtain ⟨x0, x1, x2⟩ := HX3.out.below hb4
  have HB4 := Lib.hid (bel2 HB3.out hb4)
  clear hb4
  go_wp2_with fail
  refine (HQ.out _ (HE.out.below HB4.out)).mono ?_
  rintro e w5 ⟨rfl, hb5⟩
  clear x0 x1 x2
  have HY5 := Lib.hid (D3.new w5 k p g 39)
  have HB5 := Lib.hid (bel2 HB4.out (bel2 hb5 (bup w5 (.cells #[.int .i64 k, .int .i64 p, .int .u32 g] 39))))
  clear hb5
  go_wp2_with fail
  refine (HV.out _ (HE.out.below HB5.out)).mono ?_
  rintro e w6 ⟨rfl, hb6⟩
  obtain ⟨y0, y1, y2⟩ := HY5.out.below hb6
  have HB6 := Lib.hid (bel2 HB5.out hb6)
  clear hb6
  go_wp2_with fail
  refine (works_ok _ (HE.out.below HB6.out)).mono ?_
  rintro e w7 ⟨rfl, hb7⟩
  clear y0 y1 y2
  go_wp2
  go_ret
  exact ⟨rfl, bel2 HB6.out hb7⟩

set_option maxHeartbeats 2000000 in
set_option maxRecDepth 100000 in
theorem dRea_okN (k0 p0 g0 : Nat) (n : Int) (s : ByteArray) (w : World) (_hn0 : 0 ≤ n) (_hn1 : n ≤ 18446744073709551615) (hs : s.size ≤ 140737488351232) (hl : s.size ≤ 300)
    (hU : Gives 15 #[.int .u64 n] (.tuple #[(.agg #[.int .i64 k0, .int .i64 p0, .int .u32 g0]), .int .i64 0])) (hK : Gives 13 #[(.agg #[.int .i64 k0, .int .i64 p0, .int .u32 g0])] (.tuple #[.int .u64 n, .int .i64 0]))
    (hP : GivesE 22 #[.string s] (.tuple #[(.agg #[.int .i64 0, .int .i64 0, .int .u32 0]), .int .i64 9])) (hT : GivesE 20 #[(.agg #[.int .i64 0, .int .i64 0, .int .u32 0])] (.tuple #[.string ⟨#[]⟩, .int .i64 2]))
    (hQ : GivesE 26 #[.string s] (.tuple #[(.agg #[.int .i64 0, .int .i64 0, .int .u32 0]), .int .i64 9])) (hV : GivesE 24 #[(.agg #[.int .i64 0, .int .i64 0, .int .u32 0])] (.tuple #[.string ⟨#[]⟩, .int .i64 2]))
    (he : Env w) : Calls Tryd.prog 10 #[.int .u64 n, .string s] w fun e w' => e = .returned (.bool true) ∧ Below w.heap.size w w' := by
  have HE := Lib.hid he
  have HU := Lib.hid hU
  have HK := Lib.hid hK
  have HP := Lib.hid hP
  have HT := Lib.hid hT
  have HQ := Lib.hid hQ
  have HV := Lib.hid hV
  have hl2 : ¬ (300 : Int) < (s.size : Int) := by omega
  clear hP hT hQ hV
  clear he hU hK hl
  go_enter Tryd.func10, Tryd.ntmps10
  go_wp2_with fail
  refine (HU.out _).mono ?_
  rintro e w1 ⟨rfl, hb1⟩
  have HD1 := Lib.hid (D3.new w1 k0 p0 g0 24)
  have HB1 := Lib.hid (bel2 hb1 (bup w1 (.cells #[.int .i64 k0, .int .i64 p0, .int .u32 g0] 24)))
  clear hb1
  go_wp2_with fail
  refine (HK.out _).mono ?_
  rintro e w2 ⟨rfl, hb2⟩
  obtain ⟨d0, d1, d2⟩ := HD1.out.below hb2
  have HB2 := Lib.hid (bel2 HB1.out hb2)
  clear hb2
  go_wp2_with fail
  refine (HP.out _ (HE.out.below HB2.out)).mono ?_
  rintro e w3 ⟨rfl, hb3⟩
  clear d0 d1 d2
  have HX3 := Lib.hid (D3.new w3 0 0 0 24)
  have HB3 := Lib.hid (bel2 HB2.out (bel2 hb3 (bup w3 (.cells #[.int .i64 0, .int .i64 0, .int .u32 0] 24))))
  clear hb3
  go_wp2_with fail
  refine (HT.out _ (HE.out.below HB3.out)).mono ?_
  rintro e w4 ⟨rfl, hb4⟩
  obtain ⟨x0, x1, x2⟩ := HX3.out.below hb4
  have HB4 := Lib.hid (bel2 HB3.out hb4)
  clear hb4
  go_wp2_with fail
  refine (HQ.out _ (HE.out.below HB4.out)).mono ?_
  rintro e w5 ⟨rfl, hb5⟩
  clear x0 x1 x2
  have HY5 := Lib.hid (D3.new w5 0 0 0 39)
  have HB5 := Lib.hid (bel2 HB4.out (bel2 hb5 (bup w5 (.cells #[.int .i64 0, .int .i64 0, .int .u32 0] 39))))
  clear hb5
  go_wp2_with fail
  refine (HV.out _ (HE.out.below HB5.out)).mono ?_
  rintro e w6 ⟨rfl, hb6⟩
  obtain ⟨y0, y1, y2⟩ := HY5.out.below hb6
  have HB6 := Lib.hid (bel2 HB5.out hb6)
  clear hb6
  go_wp2_with fail
  refine (works_ok _ (HE.out.below HB6.out)).mono ?_
  rintro e w7 ⟨rfl, hb7⟩
  clear y0 y1 y2
  go_wp2
  go_ret
  exact ⟨rfl, bel2 HB6.out hb7⟩

set_option maxHeartbeats 2000000 in
set_option maxRecDepth 100000 in
theorem dRea_okL (k0 p0 g0 : Nat) (n : Int) (s : ByteArray) (w : World) (_hn0 : 0 ≤ n) (_hn1 : n ≤ 18446744073709551615) (hs : s.size ≤ 140737488351232) (hl : 300 < s.size)
    (hU : Gives 15 #[.int .u64 n] (.tuple #[(.agg #[.int .i64 k0, .int .i64 p0, .int .u32 g0]), .int .i64 0])) (hK : Gives 13 #[(.agg #[.int .i64 k0, .int .i64 p0, .int .u32 g0])] (.tuple #[.int .u64 n, .int .i64 0]))
    (he : Env w) : Calls Tryd.prog 10 #[.int .u64 n, .string s] w fun e w' => e = .returned (.bool true) ∧ Below w.heap.size w w' := by
  have HE := Lib.hid he
  have HU := Lib.hid hU
  have HK := Lib.hid hK
  have hl2 : (300 : Int) < (s.size : Int) := by omega
  clear he hU hK hl
  go_enter Tryd.func10, Tryd.ntmps10
  go_wp2_with fail
  refine (HU.out _).mono ?_
  rintro e w1 ⟨rfl, hb1⟩
  have HD1 := Lib.hid (D3.new w1 k0 p0 g0 24)
  have HB1 := Lib.hid (bel2 hb1 (bup w1 (.cells #[.int .i64 k0, .int .i64 p0, .int .u32 g0] 24)))
  clear hb1
  go_wp2_with fail
  refine (HK.out _).mono ?_
  rintro e w2 ⟨rfl, hb2⟩
  obtain ⟨d0, d1, d2⟩ := HD1.out.below hb2
  have HB2 := Lib.hid (bel2 HB1.out hb2)
  clear hb2
  go_wp2_with fail
  refine (works_ok _ (HE.out.below HB2.out)).mono ?_
  rintro e w3 ⟨rfl, hb3⟩
  clear d0 d1 d2
  go_wp2
  go_ret
  exact ⟨rfl, bel2 HB2.out hb3⟩

set_option maxHeartbeats 2000000 in
set_option maxRecDepth 100000 in
theorem dRea_badD (k p g : Nat) (n : Int) (s : ByteArray) (w : World) (_hn0 : 0 ≤ n) (_hn1 : n ≤ 18446744073709551615) (hs : s.size ≤ 140737488351232) (hl : s.size ≤ 300)
    (hU : Gives 15 #[.int .u64 n] (.tuple #[(.agg #[.int .i64 0, .int .i64 0, .int .u32 0]), .int .i64 2])) (hK : Gives 13 #[(.agg #[.int .i64 0, .int .i64 0, .int .u32 0])] (.tuple #[.int .u64 0, .int .i64 2]))
    (hP : GivesE 22 #[.string s] (.tuple #[(.agg #[.int .i64 k, .int .i64 p, .int .u32 g]), .int .i64 0])) (hT : GivesE 20 #[(.agg #[.int .i64 k, .int .i64 p, .int .u32 g])] (.tuple #[.string s, .int .i64 0]))
    (hQ : GivesE 26 #[.string s] (.tuple #[(.agg #[.int .i64 0, .int .i64 0, .int .u32 0]), .int .i64 9])) (hV : GivesE 24 #[(.agg #[.int .i64 0, .int .i64 0, .int .u32 0])] (.tuple #[.string ⟨#[]⟩, .int .i64 2]))
    (he : Env w) : Calls Tryd.prog 10 #[.int .u64 n, .string s] w fun e w' => e = .returned (.bool true) ∧ Below w.heap.size w w' := by
  have HE := Lib.hid he
  have HU := Lib.hid hU
  have HK := Lib.hid hK
  have HP := Lib.hid hP
  have HT := Lib.hid hT
  have HQ := Lib.hid hQ
  have HV := Lib.hid hV
  have hl2 : ¬ (300 : Int) < (s.size : Int) := by omega
  clear hP hT hQ hV
  clear he hU hK hl
  go_enter Tryd.func10, Tryd.ntmps10
  go_wp2_with fail
  refine (HU.out _).mono ?_
  rintro e w1 ⟨rfl, hb1⟩
  have HD1 := Lib.hid (D3.new w1 0 0 0 24)
  have HB1 := Lib.hid (bel2 hb1 (bup w1 (.cells #[.int .i64 0, .int .i64 0, .int .u32 0] 24)))
  clear hb1
  go_wp2_with fail
  refine (HK.out _).mono ?_
  rintro e w2 ⟨rfl, hb2⟩
  obtain ⟨d0, d1, d2⟩ := HD1.out.below hb2
  have HB2 := Lib.hid (bel2 HB1.out hb2)
  clear hb2
  go_wp2_with fail
  refine (HP.out _ (HE.out.below HB2.out)).mono ?_
  rintro e w3 ⟨rfl, hb3⟩
  clear d0 d1 d2
  have HX3 := Lib.hid (D3.new w3 k p g 24)
  have HB3 := Lib.hid (bel2 HB2.out (bel2 hb3 (bup w3 (.cells #[.int .i64 k, .int .i64 p, .int .u32 g] 24))))
  clear hb3
  go_wp2_with fail
  refine (HT.out _ (HE.out.below HB3.out)).mono ?_
  rintro e w4 ⟨rfl, hb4⟩
  obtain ⟨x0, x1, x2⟩ := HX3.out.below hb4
  have HB4 := Lib.hid (bel2 HB3.out hb4)
  clear hb4
  go_wp2_with fail
  refine (HQ.out _ (HE.out.below HB4.out)).mono ?_
  rintro e w5 ⟨rfl, hb5⟩
  clear x0 x1 x2
  have HY5 := Lib.hid (D3.new w5 0 0 0 39)
  have HB5 := Lib.hid (bel2 HB4.out (bel2 hb5 (bup w5 (.cells #[.int .i64 0, .int .i64 0, .int .u32 0] 39))))
  clear hb5
  go_wp2_with fail
  refine (HV.out _ (HE.out.below HB5.out)).mono ?_
  rintro e w6 ⟨rfl, hb6⟩
  obtain ⟨y0, y1, y2⟩ := HY5.out.below hb6
  have HB6 := Lib.hid (bel2 HB5.out hb6)
  clear hb6
  go_wp2_with fail
  refine (works_ok _ (HE.out.below HB6.out)).mono ?_
  rintro e w7 ⟨rfl, hb7⟩
  clear y0 y1 y2
  go_wp2
  go_ret
  exact ⟨rfl, bel2 HB6.out hb7⟩

set_option maxHeartbeats 2000000 in
set_option maxRecDepth 100000 in
theorem dRea_badO (k p g : Nat) (n : Int) (s : ByteArray) (w : World) (_hn0 : 0 ≤ n) (_hn1 : n ≤ 18446744073709551615) (hs : s.size ≤ 140737488351232) (hl : s.size ≤ 300)
    (hU : Gives 15 #[.int .u64 n] (.tuple #[(.agg #[.int .i64 0, .int .i64 0, .int .u32 0]), .int .i64 2])) (hK : Gives 13 #[(.agg #[.int .i64 0, .int .i64 0, .int .u32 0])] (.tuple #[.int .u64 0, .int .i64 2]))
    (hP : GivesE 22 #[.string s] (.tuple #[(.agg #[.int .i64 0, .int .i64 0, .int .u32 0]), .int .i64 9])) (hT : GivesE 20 #[(.agg #[.int .i64 0, .int .i64 0, .int .u32 0])] (.tuple #[.string ⟨#[]⟩, .int .i64 2]))
    (hQ : GivesE 26 #[.string s] (.tuple #[(.agg #[.int .i64 k, .int .i64 p, .int .u32 g]), .int .i64 0])) (hV : GivesE 24 #[(.agg #[.int .i64 k, .int .i64 p, .int .u32 g])] (.tuple #[.string s, .int .i64 0]))
    (he : Env w) : Calls Tryd.prog 10 #[.int .u64 n, .string s] w fun e w' => e = .returned (.bool true) ∧ Below w.heap.size w w' := by
  have HE := Lib.hid he
  have HU := Lib.hid hU
  have HK := Lib.hid hK
  have HP := Lib.hid hP
  have HT := Lib.hid hT
  have HQ := Lib.hid hQ
  have HV := Lib.hid hV
  have hl2 : ¬ (300 : Int) < (s.size : Int) := by omega
  clear hP hT hQ hV
  clear he hU hK hl
  go_enter Tryd.func10, Tryd.ntmps10
  go_wp2_with fail
  refine (HU.out _).mono ?_
  rintro e w1 ⟨rfl, hb1⟩
  have HD1 := Lib.hid (D3.new w1 0 0 0 24)
  have HB1 := Lib.hid (bel2 hb1 (bup w1 (.cells #[.int .i64 0, .int .i64 0, .int .u32 0] 24)))
  clear hb1
  go_wp2_with fail
  refine (HK.out _).mono ?_
  rintro e w2 ⟨rfl, hb2⟩
  obtain ⟨d0, d1, d2⟩ := HD1.out.below hb2
  have HB2 := Lib.hid (bel2 HB1.out hb2)
  clear hb2
  go_wp2_with fail
  refine (HP.out _ (HE.out.below HB2.out)).mono ?_
  rintro e w3 ⟨rfl, hb3⟩
  clear d0 d1 d2
  have HX3 := Lib.hid (D3.new w3 0 0 0 24)
  have HB3 := Lib.hid (bel2 HB2.out (bel2 hb3 (bup w3 (.cells #[.int .i64 0, .int .i64 0, .int .u32 0] 24))))
  clear hb3
  go_wp2_with fail
  refine (HT.out _ (HE.out.below HB3.out)).mono ?_
  rintro e w4 ⟨rfl, hb4⟩
  obtain ⟨x0, x1, x2⟩ := HX3.out.below hb4
  have HB4 := Lib.hid (bel2 HB3.out hb4)
  clear hb4
  go_wp2_with fail
  refine (HQ.out _ (HE.out.below HB4.out)).mono ?_
  rintro e w5 ⟨rfl, hb5⟩
  clear x0 x1 x2
  have HY5 := Lib.hid (D3.new w5 k p g 39)
  have HB5 := Lib.hid (bel2 HB4.out (bel2 hb5 (bup w5 (.cells #[.int .i64 k, .int .i64 p, .int .u32 g] 39))))
  clear hb5
  go_wp2_with fail
  refine (HV.out _ (HE.out.below HB5.out)).mono ?_
  rintro e w6 ⟨rfl, hb6⟩
  obtain ⟨y0, y1, y2⟩ := HY5.out.below hb6
  have HB6 := Lib.hid (bel2 HB5.out hb6)
  clear hb6
  go_wp2_with fail
  refine (works_ok _ (HE.out.below HB6.out)).mono ?_
  rintro e w7 ⟨rfl, hb7⟩
  clear y0 y1 y2
  go_wp2
  go_ret
  exact ⟨rfl, bel2 HB6.out hb7⟩

set_option maxHeartbeats 2000000 in
set_option maxRecDepth 100000 in
theorem dRea_badN (n : Int) (s : ByteArray) (w : World) (_hn0 : 0 ≤ n) (_hn1 : n ≤ 18446744073709551615) (hs : s.size ≤ 140737488351232) (hl : s.size ≤ 300)
    (hU : Gives 15 #[.int .u64 n] (.tuple #[(.agg #[.int .i64 0, .int .i64 0, .int .u32 0]), .int .i64 2])) (hK : Gives 13 #[(.agg #[.int .i64 0, .int .i64 0, .int .u32 0])] (.tuple #[.int .u64 0, .int .i64 2]))
    (hP : GivesE 22 #[.string s] (.tuple #[(.agg #[.int .i64 0, .int .i64 0, .int .u32 0]), .int .i64 9])) (hT : GivesE 20 #[(.agg #[.int .i64 0, .int .i64 0, .int .u32 0])] (.tuple #[.string ⟨#[]⟩, .int .i64 2]))
    (hQ : GivesE 26 #[.string s] (.tuple #[(.agg #[.int .i64 0, .int .i64 0, .int .u32 0]), .int .i64 9])) (hV : GivesE 24 #[(.agg #[.int .i64 0, .int .i64 0, .int .u32 0])] (.tuple #[.string ⟨#[]⟩, .int .i64 2]))
    (he : Env w) : Calls Tryd.prog 10 #[.int .u64 n, .string s] w fun e w' => e = .returned (.bool true) ∧ Below w.heap.size w w' := by
  have HE := Lib.hid he
  have HU := Lib.hid hU
  have HK := Lib.hid hK
  have HP := Lib.hid hP
  have HT := Lib.hid hT
  have HQ := Lib.hid hQ
  have HV := Lib.hid hV
  have hl2 : ¬ (300 : Int) < (s.size : Int) := by omega
  clear hP hT hQ hV
  clear he hU hK hl
  go_enter Tryd.func10, Tryd.ntmps10
  go_wp2_with fail
  refine (HU.out _).mono ?_
  rintro e w1 ⟨rfl, hb1⟩
  have HD1 := Lib.hid (D3.new w1 0 0 0 24)
  have HB1 := Lib.hid (bel2 hb1 (bup w1 (.cells #[.int .i64 0, .int .i64 0, .int .u32 0] 24)))
  clear hb1
  go_wp2_with fail
  refine (HK.out _).mono ?_
  rintro e w2 ⟨rfl, hb2⟩
  obtain ⟨d0, d1, d2⟩ := HD1.out.below hb2
  have HB2 := Lib.hid (bel2 HB1.out hb2)
  clear hb2
  go_wp2_with fail
  refine (HP.out _ (HE.out.below HB2.out)).mono ?_
  rintro e w3 ⟨rfl, hb3⟩
  clear d0 d1 d2
  have HX3 := Lib.hid (D3.new w3 0 0 0 24)
  have HB3 := Lib.hid (bel2 HB2.out (bel2 hb3 (bup w3 (.cells #[.int .i64 0, .int .i64 0, .int .u32 0] 24))))
  clear hb3
  go_wp2_with fail
  refine (HT.out _ (HE.out.below HB3.out)).mono ?_
  rintro e w4 ⟨rfl, hb4⟩
  obtain ⟨x0, x1, x2⟩ := HX3.out.below hb4
  have HB4 := Lib.hid (bel2 HB3.out hb4)
  clear hb4
  go_wp2_with fail
  refine (HQ.out _ (HE.out.below HB4.out)).mono ?_
  rintro e w5 ⟨rfl, hb5⟩
  clear x0 x1 x2
  have HY5 := Lib.hid (D3.new w5 0 0 0 39)
  have HB5 := Lib.hid (bel2 HB4.out (bel2 hb5 (bup w5 (.cells #[.int .i64 0, .int .i64 0, .int .u32 0] 39))))
  clear hb5
  go_wp2_with fail
  refine (HV.out _ (HE.out.below HB5.out)).mono ?_
  rintro e w6 ⟨rfl, hb6⟩
  obtain ⟨y0, y1, y2⟩ := HY5.out.below hb6
  have HB6 := Lib.hid (bel2 HB5.out hb6)
  clear hb6
  go_wp2_with fail
  refine (works_ok _ (HE.out.below HB6.out)).mono ?_
  rintro e w7 ⟨rfl, hb7⟩
  clear y0 y1 y2
  go_wp2
  go_ret
  exact ⟨rfl, bel2 HB6.out hb7⟩

set_option maxHeartbeats 2000000 in
set_option maxRecDepth 100000 in
theorem dRea_badL (n : Int) (s : ByteArray) (w : World) (_hn0 : 0 ≤ n) (_hn1 : n ≤ 18446744073709551615) (hs : s.size ≤ 140737488351232) (hl : 300 < s.size)
    (hU : Gives 15 #[.int .u64 n] (.tuple #[(.agg #[.int .i64 0, .int .i64 0, .int .u32 0]), .int .i64 2])) (hK : Gives 13 #[(.agg #[.int .i64 0, .int .i64 0, .int .u32 0])] (.tuple #[.int .u64 0, .int .i64 2]))
    (he : Env w) : Calls Tryd.prog 10 #[.int .u64 n, .string s] w fun e w' => e = .returned (.bool true) ∧ Below w.heap.size w w' := by
  have HE := Lib.hid he
  have HU := Lib.hid hU
  have HK := Lib.hid hK
  have hl2 : (300 : Int) < (s.size : Int) := by omega
  clear he hU hK hl
  go_enter Tryd.func10, Tryd.ntmps10
  go_wp2_with fail
  refine (HU.out _).mono ?_
  rintro e w1 ⟨rfl, hb1⟩
  have HD1 := Lib.hid (D3.new w1 0 0 0 24)
  have HB1 := Lib.hid (bel2 hb1 (bup w1 (.cells #[.int .i64 0, .int .i64 0, .int .u32 0] 24)))
  clear hb1
  go_wp2_with fail
  refine (HK.out _).mono ?_
  rintro e w2 ⟨rfl, hb2⟩
  obtain ⟨d0, d1, d2⟩ := HD1.out.below hb2
  have HB2 := Lib.hid (bel2 HB1.out hb2)
  clear hb2
  go_wp2_with fail
  refine (works_ok _ (HE.out.below HB2.out)).mono ?_
  rintro e w3 ⟨rfl, hb3⟩
  clear d0 d1 d2
  go_wp2
  go_ret
  exact ⟨rfl, bel2 HB2.out hb3⟩

theorem dRea_walk (n : Int) (s : ByteArray) (w : World) (hn0 : 0 ≤ n) (hn1 : n ≤ 18446744073709551615) (hs : s.size ≤ 140737488351232) (he : Env w) :
    Calls Tryd.prog 10 #[.int .u64 n, .string s] w fun e w' => e = .returned (.bool true) ∧ Below w.heap.size w w' := by
  have tz : GivesE 20 #[.agg #[.int .i64 0, .int .i64 0, .int .u32 0]] (.tuple #[.string ⟨#[]⟩, .int .i64 2]) := fun W _ => dtext_bad 0 0 0 rg0 (bad0 256) W
  have uz : GivesE 24 #[.agg #[.int .i64 0, .int .i64 0, .int .u32 0]] (.tuple #[.string ⟨#[]⟩, .int .i64 2]) := fun W _ => otext_bad 0 0 0 rg0 (bad0 64) W
  have pz : Gives 13 #[.agg #[.int .i64 0, .int .i64 0, .int .u32 0]] (.tuple #[.int .u64 0, .int .i64 2]) := fun W => pack_bad 0 0 0 rg0 (bad0 256) W
  rcases num_or n hn0 hn1 with ⟨k0, p0, g0, hO, e1, e2, e3, e4⟩ | hb
  · have hU : Gives 15 #[.int .u64 n] (.tuple #[.agg #[.int .i64 k0, .int .i64 p0, .int .u32 g0], .int .i64 0]) := fun W => unpack_ok n k0 p0 g0 hO hn0 hn1 e1 e2 e3 W
    have hK : Gives 13 #[.agg #[.int .i64 k0, .int .i64 p0, .int .u32 g0]] (.tuple #[.int .u64 n, .int .i64 0]) := by rw [e4]; exact fun W => pack_ok k0 p0 g0 hO W
    by_cases hl : 300 < s.size
    · exact dRea_okL k0 p0 g0 n s w hn0 hn1 hs hl hU hK he
    · have hl' : s.size ≤ 300 := by omega
      rcases name_or 46 256 s.data.toList with ⟨k, p, g, hD, hT⟩ | hD
      · exact dRea_okD k0 p0 g0 k p g n s w hn0 hn1 hs hl' hU hK (by rw [str_eq hT]; exact fun W h => dparse_yes k p g hD W h) (by rw [str_eq hT]; exact fun W h => dtext_ok k p g hD W h) (fun W h => oparse_no s (by omega) (by rw [hT]; exact no_other (.inl rfl) (.inr rfl) (by decide) 64 k p g) W h) uz he
      · rcases name_or 58 64 s.data.toList with ⟨k, p, g, hQ, hT⟩ | hQ
        · exact dRea_okO k0 p0 g0 k p g n s w hn0 hn1 hs hl' hU hK (fun W h => dparse_no s (by omega) hD W h) tz (by rw [str_eq hT]; exact fun W h => oparse_yes k p g hQ W h) (by rw [str_eq hT]; exact fun W h => otext_ok k p g hQ W h) he
        · exact dRea_okN k0 p0 g0 n s w hn0 hn1 hs hl' hU hK (fun W h => dparse_no s (by omega) hD W h) tz (fun W h => oparse_no s (by omega) hQ W h) uz he
  · have hU : Gives 15 #[.int .u64 n] (.tuple #[.agg #[.int .i64 0, .int .i64 0, .int .u32 0], .int .i64 2]) := fun W => unpack_bad n hn0 hn1 hb W
    have hK := pz
    by_cases hl : 300 < s.size
    · exact dRea_badL n s w hn0 hn1 hs hl hU hK he
    · have hl' : s.size ≤ 300 := by omega
      rcases name_or 46 256 s.data.toList with ⟨k, p, g, hD, hT⟩ | hD
      · exact dRea_badD k p g n s w hn0 hn1 hs hl' hU hK (by rw [str_eq hT]; exact fun W h => dparse_yes k p g hD W h) (by rw [str_eq hT]; exact fun W h => dtext_ok k p g hD W h) (fun W h => oparse_no s (by omega) (by rw [hT]; exact no_other (.inl rfl) (.inr rfl) (by decide) 64 k p g) W h) uz he
      · rcases name_or 58 64 s.data.toList with ⟨k, p, g, hQ, hT⟩ | hQ
        · exact dRea_badO k p g n s w hn0 hn1 hs hl' hU hK (fun W h => dparse_no s (by omega) hD W h) tz (by rw [str_eq hT]; exact fun W h => oparse_yes k p g hQ W h) (by rw [str_eq hT]; exact fun W h => otext_ok k p g hQ W h) he
        · exact dRea_badN n s w hn0 hn1 hs hl' hU hK (fun W h => dparse_no s (by omega) hD W h) tz (fun W h => oparse_no s (by omega) hQ W h) uz he
end Go.Proofs.YtnjmlecbljeofaaDoor
