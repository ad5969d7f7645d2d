/- The examples of the chapter hold. -/
import Derived.Test.YtfnhkapbfgofkaaWv
import Derived.Deep.Cut
namespace Go.Proofs.Ytfnhkapbfgofkaa
open Go.RowKit

def wH0 : Hp := hfresh 2 1
def wH1 : Hp := ⟨wH0.t.took 0, putO wH0.o 0 (mk 2 false)⟩
def wH2 : Hp := ⟨wH1.t.took 1, putO wH1.o 1 (mk 0 true)⟩
def wH3 : Hp := ⟨wH2.t, putO wH2.o 0 ((wH2.o 0).upd (1, 1) 0)⟩
def wH4 : Hp := wH3.freed (1, 1)
def wH5 : Hp := ⟨wH4.t.took 1, putO wH4.o 1 (mk 1 false)⟩
theorem wk1 : wH0.mE 2 false = 0 ∧ wH0.mR 2 false = (0, 1) ∧ wH0.made 2 false = wH1 := Hp.make_yes (i := 0) (r := [1]) (mk_poss (by decide) (by decide) (fun h => by cases h)) rfl
theorem wk2 : wH1.mE 0 true = 0 ∧ wH1.mR 0 true = (1, 1) ∧ wH1.made 0 true = wH2 := Hp.make_yes (i := 1) (r := []) (mk_poss (by decide) (by decide) (fun _ => rfl)) rfl
theorem wk3 : wH2.mE 1 false = 4 ∧ wH2.mR 1 false = (0, 0) ∧ wH2.made 1 false = wH2 := Hp.make_full (mk_poss (by decide) (by decide) (fun h => by cases h)) rfl
theorem wo2 : Poss (wH2.o 0) := mk_poss (n := 2) (h := false) (by decide) (by decide) (fun h => by cases h)
theorem wk4 : wH2.sE (0, 1) 0 (1, 1) = 0 ∧ wH2.sR (0, 1) 0 (1, 1) = (0, 0) ∧ wH2.stored (0, 1) 0 (1, 1) = wH3 := Hp.store_yes (H := wH2) (i := 0) (g := 1) (k := 0) (v := (1, 1)) rfl wo2 ⟨by decide, by decide⟩ rfl
theorem wo3 : Poss (wH3.o 0) := wo2.upd (r := (1, 1)) (j := 0) (.inr ⟨by decide, by decide, by decide, by decide⟩) (by decide)
theorem wk5 : wH3.lE (0, 1) 0 = 0 ∧ wH3.lR (0, 1) 0 = (1, 1) := Hp.load_yes (H := wH3) (i := 0) (g := 1) (k := 0) rfl wo3 ⟨by decide, by decide⟩
theorem wk6 : wH3.chk (1, 1) = 0 := rfl
theorem wk7 : wH4.sE (0, 1) 1 (1, 1) = 7 ∧ wH4.sR (0, 1) 1 (1, 1) = (0, 0) ∧ wH4.stored (0, 1) 1 (1, 1) = wH4 := by
  have h : wH4.sE (0, 1) 1 (1, 1) = 7 := Hp.store_bad (H := wH4) (i := 0) (g := 1) (k := 1) (v := (1, 1)) rfl wo3 ⟨by decide, by decide⟩
  exact ⟨h, Hp.store_no h (by decide)⟩
theorem wk8 : wH4.mE 1 false = 0 ∧ wH4.mR 1 false = (1, 2) ∧ wH4.made 1 false = wH5 := Hp.make_yes (i := 1) (r := []) (mk_poss (by decide) (by decide) (fun h => by cases h)) rfl
theorem wk9 : (wH5.chk (1, 1) == 0) = false := rfl
set_option maxHeartbeats 8000000 in
set_option maxRecDepth 100000 in
theorem works_ok (w : World) : Calls Try.prog 11 #[] w fun e w' => e = .returned (.bool true) ∧ Below w.heap.size w w' := by
  have NW := Lib.hid (hnew_ok 2 1 w (by decide) (by decide) (by decide) (by decide))
  go_enter Try.func11, Try.ntmps11
  go_upto_region 4 with (go_at_call 12; refine NW.out.mono ?_; rintro e W0 ⟨b, rfl, hN⟩; have HN := Lib.hid hN; clear hN)
  obtain ⟨p, t, hS⟩ := HSt.new HN.out
  have HS0 : Hid (HSt w W0 b p t wH0) := hS
  clear NW HN hS
  go_wp2_with fail
  refine (make_s 2 false (0, 1) 0 ⟨by decide, by decide⟩ HS0.out wk1.2.1 wk1.1).mono ?_
  rintro e v1 ⟨rfl, hs, hk⟩
  rw [wk1.2.2] at hs
  obtain ⟨W1, hW⟩ : ∃ W1, v1.alloc (.cells #[.int .i64 0, .int .u32 1] 34) = W1 := ⟨_, rfl⟩
  have hn := Bk.new v1 34 #[.int .i64 0, .int .u32 1]
  have hs2 := hs.quiet (bel_new v1 (.cells #[.int .i64 0, .int .u32 1] 34))
  have hk2 := hk.alloc (.cells #[.int .i64 0, .int .u32 1] 34)
  rw [hW] at hn hs2 hk2
  have HA_1 := Lib.hid hn
  have HS1 := Lib.hid hs2
  have HW1 := Lib.hid hW
  clear hs hk hs2 hk2 hW hn
  go_upto_region 5 with fail
  rw [HW1.out]
  go_wp2_with fail
  refine (make_s 0 true (1, 1) 0 ⟨by decide, by decide⟩ HS1.out wk2.2.1 wk2.1).mono ?_
  rintro e v2 ⟨rfl, hs, hk⟩
  rw [wk2.2.2] at hs
  obtain ⟨W2, hW⟩ : ∃ W2, v2.alloc (.cells #[.int .i64 1, .int .u32 1] 34) = W2 := ⟨_, rfl⟩
  have hn := Bk.new v2 34 #[.int .i64 1, .int .u32 1]
  have hs2 := hs.quiet (bel_new v2 (.cells #[.int .i64 1, .int .u32 1] 34))
  have hk2 := hk.alloc (.cells #[.int .i64 1, .int .u32 1] 34)
  rw [hW] at hn hs2 hk2
  have HA_2 := Lib.hid (HA_1.out.kept hk2 (HS1.out.f.box HA_1.out (by decide) (by decide) (by decide)))
  have HB_2 := Lib.hid hn
  have HS2 := Lib.hid hs2
  have HW2 := Lib.hid hW
  clear hs hk hs2 hk2 hW hn
  go_upto_region 6 with fail
  rw [HW2.out]
  go_wp2_with fail
  refine (make_s 1 false (0, 0) 4 ⟨by decide, by decide⟩ HS2.out wk3.2.1 wk3.1).mono ?_
  rintro e v3 ⟨rfl, hs, hk⟩
  rw [wk3.2.2] at hs
  obtain ⟨W3, hW⟩ : ∃ W3, v3.alloc (.cells #[.int .i64 0, .int .u32 0] 34) = W3 := ⟨_, rfl⟩
  have hn := Bk.new v3 34 #[.int .i64 0, .int .u32 0]
  have hs2 := hs.quiet (bel_new v3 (.cells #[.int .i64 0, .int .u32 0] 34))
  have hk2 := hk.alloc (.cells #[.int .i64 0, .int .u32 0] 34)
  rw [hW] at hn hs2 hk2
  have HA_3 := Lib.hid (HA_2.out.kept hk2 (HS2.out.f.box HA_2.out (by decide) (by decide) (by decide)))
  have HB_3 := Lib.hid (HB_2.out.kept hk2 (HS2.out.f.box HB_2.out (by decide) (by decide) (by decide)))
  have HC_3 := Lib.hid hn
  have HS3 := Lib.hid hs2
  have HW3 := Lib.hid hW
  clear hs hk hs2 hk2 hW hn
  go_upto_region 7 with fail
  rw [HW3.out]
  obtain ⟨a_0, a_1⟩ : W3.cell? ⟨v1.heap.size, 0, none⟩ = some (.int .i64 0) ∧ W3.cell? ⟨v1.heap.size, 1, none⟩ = some (.int .u32 1) := ⟨HA_3.out.cell 0, HA_3.out.cell 1⟩
  obtain ⟨b_0, b_1⟩ : W3.cell? ⟨v2.heap.size, 0, none⟩ = some (.int .i64 1) ∧ W3.cell? ⟨v2.heap.size, 1, none⟩ = some (.int .u32 1) := ⟨HB_3.out.cell 0, HB_3.out.cell 1⟩
  go_wp2_with fail
  refine (store_s 0 1 0 1 1 (0, 0) 0 ⟨by decide, by decide⟩ ⟨by decide, by decide, by decide, by decide⟩ HS3.out wk4.2.1 wk4.1).mono ?_
  rintro e v4 ⟨rfl, hs, hk⟩
  rw [wk4.2.2] at hs
  obtain ⟨W4, hW⟩ : ∃ W4, v4.alloc (.cells #[.int .i64 0, .int .u32 0] 34) = W4 := ⟨_, rfl⟩
  have hn := Bk.new v4 34 #[.int .i64 0, .int .u32 0]
  have hs2 := hs.quiet (bel_new v4 (.cells #[.int .i64 0, .int .u32 0] 34))
  have hk2 := hk.alloc (.cells #[.int .i64 0, .int .u32 0] 34)
  rw [hW] at hn hs2 hk2
  have HA_4 := Lib.hid (HA_3.out.kept hk2 (HS3.out.f.box HA_3.out (by decide) (by decide) (by decide)))
  have HB_4 := Lib.hid (HB_3.out.kept hk2 (HS3.out.f.box HB_3.out (by decide) (by decide) (by decide)))
  have HC_4 := Lib.hid (HC_3.out.kept hk2 (HS3.out.f.box HC_3.out (by decide) (by decide) (by decide)))
  have HX_4 := Lib.hid hn
  have HS4 := Lib.hid hs2
  have HW4 := Lib.hid hW
  clear a_0 a_1 b_0 b_1
  clear hs hk hs2 hk2 hW hn
  go_upto_region 8 with fail
  rw [HW4.out]
  obtain ⟨a_0, a_1⟩ : W4.cell? ⟨v1.heap.size, 0, none⟩ = some (.int .i64 0) ∧ W4.cell? ⟨v1.heap.size, 1, none⟩ = some (.int .u32 1) := ⟨HA_4.out.cell 0, HA_4.out.cell 1⟩
  go_wp2_with fail
  refine (load_s 0 1 0 (1, 1) 0 HS4.out ⟨by decide, by decide⟩ wk5.2 wk5.1).mono ?_
  rintro e v5 ⟨rfl, hb⟩
  have hs := HS4.out.quiet hb
  have hk := Kept.of_below (S := HFoot b p t) hb
  obtain ⟨W5, hW⟩ : ∃ W5, v5.alloc (.cells #[.int .i64 1, .int .u32 1] 34) = W5 := ⟨_, rfl⟩
  have hn := Bk.new v5 34 #[.int .i64 1, .int .u32 1]
  have hs2 := hs.quiet (bel_new v5 (.cells #[.int .i64 1, .int .u32 1] 34))
  have hk2 := hk.alloc (.cells #[.int .i64 1, .int .u32 1] 34)
  rw [hW] at hn hs2 hk2
  have HA_5 := Lib.hid (HA_4.out.kept hk2 (HS4.out.f.box HA_4.out (by decide) (by decide) (by decide)))
  have HB_5 := Lib.hid (HB_4.out.kept hk2 (HS4.out.f.box HB_4.out (by decide) (by decide) (by decide)))
  have HC_5 := Lib.hid (HC_4.out.kept hk2 (HS4.out.f.box HC_4.out (by decide) (by decide) (by decide)))
  have HX_5 := Lib.hid (HX_4.out.kept hk2 (HS4.out.f.box HX_4.out (by decide) (by decide) (by decide)))
  have HY_5 := Lib.hid hn
  have HS5 := Lib.hid hs2
  have HW5 := Lib.hid hW
  clear a_0 a_1
  clear hs hk hs2 hk2 hW hb hn
  go_upto_region 9 with fail
  rw [HW5.out]
  obtain ⟨b_0, b_1⟩ : W5.cell? ⟨v2.heap.size, 0, none⟩ = some (.int .i64 1) ∧ W5.cell? ⟨v2.heap.size, 1, none⟩ = some (.int .u32 1) := ⟨HB_5.out.cell 0, HB_5.out.cell 1⟩
  go_wp2_with fail
  refine (free_s 1 1 0 HS5.out wk6).mono ?_
  rintro e v6 ⟨rfl, hs, hk⟩
  rw [show wH3.freed (1, 1) = wH4 from rfl] at hs
  obtain ⟨W6, hW⟩ : ∃ W6, v6 = W6 := ⟨_, rfl⟩
  have hs2 := hs
  have hk2 := hk
  rw [hW] at hs2 hk2
  have HA_6 := Lib.hid (HA_5.out.kept hk2 (HS5.out.f.box HA_5.out (by decide) (by decide) (by decide)))
  have HB_6 := Lib.hid (HB_5.out.kept hk2 (HS5.out.f.box HB_5.out (by decide) (by decide) (by decide)))
  have HC_6 := Lib.hid (HC_5.out.kept hk2 (HS5.out.f.box HC_5.out (by decide) (by decide) (by decide)))
  have HX_6 := Lib.hid (HX_5.out.kept hk2 (HS5.out.f.box HX_5.out (by decide) (by decide) (by decide)))
  have HY_6 := Lib.hid (HY_5.out.kept hk2 (HS5.out.f.box HY_5.out (by decide) (by decide) (by decide)))
  have HS6 := Lib.hid hs2
  have HW6 := Lib.hid hW
  clear b_0 b_1
  clear hs hk hs2 hk2 hW
  go_upto_region 10 with fail
  rw [HW6.out]
  obtain ⟨a_0, a_1⟩ : W6.cell? ⟨v1.heap.size, 0, none⟩ = some (.int .i64 0) ∧ W6.cell? ⟨v1.heap.size, 1, none⟩ = some (.int .u32 1) := ⟨HA_6.out.cell 0, HA_6.out.cell 1⟩
  obtain ⟨b_0, b_1⟩ : W6.cell? ⟨v2.heap.size, 0, none⟩ = some (.int .i64 1) ∧ W6.cell? ⟨v2.heap.size, 1, none⟩ = some (.int .u32 1) := ⟨HB_6.out.cell 0, HB_6.out.cell 1⟩
  go_wp2_with fail
  refine (store_s 0 1 1 1 1 (0, 0) 7 ⟨by decide, by decide⟩ ⟨by decide, by decide, by decide, by decide⟩ HS6.out wk7.2.1 wk7.1).mono ?_
  rintro e v7 ⟨rfl, hs, hk⟩
  rw [wk7.2.2] at hs
  obtain ⟨W7, hW⟩ : ∃ W7, v7.alloc (.cells #[.int .i64 0, .int .u32 0] 34) = W7 := ⟨_, rfl⟩
  have hn := Bk.new v7 34 #[.int .i64 0, .int .u32 0]
  have hs2 := hs.quiet (bel_new v7 (.cells #[.int .i64 0, .int .u32 0] 34))
  have hk2 := hk.alloc (.cells #[.int .i64 0, .int .u32 0] 34)
  rw [hW] at hn hs2 hk2
  have HA_7 := Lib.hid (HA_6.out.kept hk2 (HS6.out.f.box HA_6.out (by decide) (by decide) (by decide)))
  have HB_7 := Lib.hid (HB_6.out.kept hk2 (HS6.out.f.box HB_6.out (by decide) (by decide) (by decide)))
  have HC_7 := Lib.hid (HC_6.out.kept hk2 (HS6.out.f.box HC_6.out (by decide) (by decide) (by decide)))
  have HX_7 := Lib.hid (HX_6.out.kept hk2 (HS6.out.f.box HX_6.out (by decide) (by decide) (by decide)))
  have HY_7 := Lib.hid (HY_6.out.kept hk2 (HS6.out.f.box HY_6.out (by decide) (by decide) (by decide)))
  have HZ_7 := Lib.hid hn
  have HS7 := Lib.hid hs2
  have HW7 := Lib.hid hW
  clear a_0 a_1 b_0 b_1
  clear hs hk hs2 hk2 hW hn
  go_upto_region 11 with fail
  rw [HW7.out]
  go_wp2_with fail
  refine (make_s 1 false (1, 2) 0 ⟨by decide, by decide⟩ HS7.out wk8.2.1 wk8.1).mono ?_
  rintro e v8 ⟨rfl, hs, hk⟩
  rw [wk8.2.2] at hs
  obtain ⟨W8, hW⟩ : ∃ W8, v8.alloc (.cells #[.int .i64 1, .int .u32 2] 34) = W8 := ⟨_, rfl⟩
  have hn := Bk.new v8 34 #[.int .i64 1, .int .u32 2]
  have hs2 := hs.quiet (bel_new v8 (.cells #[.int .i64 1, .int .u32 2] 34))
  have hk2 := hk.alloc (.cells #[.int .i64 1, .int .u32 2] 34)
  rw [hW] at hn hs2 hk2
  have HA_8 := Lib.hid (HA_7.out.kept hk2 (HS7.out.f.box HA_7.out (by decide) (by decide) (by decide)))
  have HB_8 := Lib.hid (HB_7.out.kept hk2 (HS7.out.f.box HB_7.out (by decide) (by decide) (by decide)))
  have HC_8 := Lib.hid (HC_7.out.kept hk2 (HS7.out.f.box HC_7.out (by decide) (by decide) (by decide)))
  have HX_8 := Lib.hid (HX_7.out.kept hk2 (HS7.out.f.box HX_7.out (by decide) (by decide) (by decide)))
  have HY_8 := Lib.hid (HY_7.out.kept hk2 (HS7.out.f.box HY_7.out (by decide) (by decide) (by decide)))
  have HZ_8 := Lib.hid (HZ_7.out.kept hk2 (HS7.out.f.box HZ_7.out (by decide) (by decide) (by decide)))
  have HU_8 := Lib.hid hn
  have HS8 := Lib.hid hs2
  have HW8 := Lib.hid hW
  clear hs hk hs2 hk2 hW hn
  go_upto_region 12 with fail
  rw [HW8.out]
  obtain ⟨a_0, a_1⟩ : W8.cell? ⟨v1.heap.size, 0, none⟩ = some (.int .i64 0) ∧ W8.cell? ⟨v1.heap.size, 1, none⟩ = some (.int .u32 1) := ⟨HA_8.out.cell 0, HA_8.out.cell 1⟩
  obtain ⟨b_0, b_1⟩ : W8.cell? ⟨v2.heap.size, 0, none⟩ = some (.int .i64 1) ∧ W8.cell? ⟨v2.heap.size, 1, none⟩ = some (.int .u32 1) := ⟨HB_8.out.cell 0, HB_8.out.cell 1⟩
  obtain ⟨x_0, x_1⟩ : W8.cell? ⟨v4.heap.size, 0, none⟩ = some (.int .i64 0) ∧ W8.cell? ⟨v4.heap.size, 1, none⟩ = some (.int .u32 0) := ⟨HX_8.out.cell 0, HX_8.out.cell 1⟩
  obtain ⟨y_0, y_1⟩ : W8.cell? ⟨v5.heap.size, 0, none⟩ = some (.int .i64 1) ∧ W8.cell? ⟨v5.heap.size, 1, none⟩ = some (.int .u32 1) := ⟨HY_8.out.cell 0, HY_8.out.cell 1⟩
  obtain ⟨u_0, u_1⟩ : W8.cell? ⟨v8.heap.size, 0, none⟩ = some (.int .i64 1) ∧ W8.cell? ⟨v8.heap.size, 1, none⟩ = some (.int .u32 2) := ⟨HU_8.out.cell 0, HU_8.out.cell 1⟩
  go_wp2_with (go_at_call 27; refine (has_s 1 1 false HS8.out wk9).mono ?_; rintro e w9 ⟨rfl, hb⟩; have HB := Lib.hid (HS8.out.quiet hb); clear hb)
  go_ret
  exact ⟨rfl, HB.out.bel⟩
end Go.Proofs.Ytfnhkapbfgofkaa
