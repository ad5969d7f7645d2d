/- The walk of FieldsOne. -/
import Derived.Test.YtmbkhkijmfogcaaDoorNz
import Derived.Test.YtmbkhkijmfogcaaDoorNw
import Derived.Deep.Cut
import Derived.BigQuiet
namespace Go.Proofs.YtmbkhkijmfogcaaDoor
open Go.RowKit
attribute [local go_sem] eqArr

set_option maxRecDepth 1000000 in
set_option maxHeartbeats 8000000 in
theorem nOne_out (n : Nat) (hn : n ≤ 255) (s g : Four) (i t u : Int) (w : World) (hs : In8 s) (hg : In32 g) (hi1 : -9223372036854775808 ≤ i) (hi2 : i ≤ 9223372036854775807) (ht : 0 ≤ t ∧ t ≤ 255) (hu : 0 ≤ u ∧ u ≤ 4294967295) (hio : i < 0 ∨ (made n s g).n ≤ i) (he : Env w) :
    Calls Tryd.prog 6 #[.int .u8 (n : Int), f8 s, f32 g, .int .i64 i, .int .u8 t, .int .u32 u] w fun e w' => e = .returned (.bool true) ∧ Below w.heap.size w w' := by
  have HM := Lib.hid (made_ok n hn s g hs hg)
  have hq := made_poss n hs hg
  obtain ⟨q, hqe⟩ : ∃ q, made n s g = q := ⟨_, rfl⟩
  rw [hqe] at HM hq hio
  have HRF := Lib.hid (ref_ok t u ht hu)
  have hr := mkr_ok ht hu
  obtain ⟨r, hre⟩ : ∃ r, mkr t u = r := ⟨_, rfl⟩
  rw [hre] at HRF hr
  have HS := Lib.hid (set_any q hq.rg i ⟨hi1, hi2⟩ r hr.rr)
  rw [set_out hq hr hio] at HS
  have hout : ¬ (0 : Int) ≤ i ∨ ((0 : Int) ≤ i ∧ ¬ i < q.n) := by omega
  unfold obv obc at HM HS
  unfold rfv rfc at HS
  simp only [ob0] at HS
  unfold f8 f32
  clear hqe hre hio hq hr
  obtain ⟨W0, hW⟩ : ∃ W0, ((w.alloc (.cells (f8c s) 56)).alloc (.cells (f32c g) 57)) = W0 := ⟨_, rfl⟩
  obtain ⟨k0, k1, hsz0, hst⟩ := two_boxes w _ _ _ _ hW
  have HS_0 := Lib.hid k0
  have HG_0 := Lib.hid k1
  have HE0 := Lib.hid (he.below hst)
  have HB0 := Lib.hid hst
  have HW0 := Lib.hid hW
  simp only [f8c, f32c] at HW0
  clear hst hW he k0 k1
  go_enter Tryd.func6, Tryd.ntmps6
  go_upto_region 1 with fail
  rw [HW0.out]
  obtain ⟨s_0, s_1, s_2, s_3⟩ := HS_0.out.four8
  obtain ⟨g_0, g_1, g_2, g_3⟩ := HG_0.out.four32
  go_wp2_with fail
  refine (HM.out _).mono ?_
  rintro e w1_ ⟨rfl, hb⟩
  obtain ⟨W1, hW⟩ : ∃ W1, w1_ = W1 := ⟨_, rfl⟩
  have hst := hb
  rw [hW] at hst
  have HS_1 := Lib.hid (HS_0.out.below hst)
  have HG_1 := Lib.hid (HG_0.out.below hst)
  have HE1 := Lib.hid (HE0.out.below hst)
  have HB1 := Lib.hid (bel2 HB0.out hst)
  have HW1 := Lib.hid hW
  clear s_0 s_1 s_2 s_3 g_0 g_1 g_2 g_3
  clear hst hW hb
  rw [show w1_ = W1 from HW1.out]
  go_wp2_with fail
  refine (HRF.out _).mono ?_
  rintro e w2_ ⟨rfl, hb⟩
  obtain ⟨W2, hW⟩ : ∃ W2, ((w2_.alloc (.cells (obc q) 27)).alloc (.cells (rfc r) 24)) = W2 := ⟨_, rfl⟩
  obtain ⟨k0, k1, hsz2, hal⟩ := two_boxes w2_ _ _ _ _ hW
  have hst := bel2 hb hal
  have HS_2 := Lib.hid (HS_1.out.below hst)
  have HG_2 := Lib.hid (HG_1.out.below hst)
  have HO_2 := Lib.hid k0
  have HR_2 := Lib.hid k1
  have HE2 := Lib.hid (HE1.out.below hst)
  have HB2 := Lib.hid (bel2 HB1.out hst)
  have HW2 := Lib.hid hW
  simp only [obc, rfc] at HW2
  clear hst hW hb hal k0 k1
  go_upto_region 2 with fail
  rw [HW2.out]
  obtain ⟨o_0, o_1, o_2, o_3, o_4, o_5, o_6, o_7, o_8, o_9⟩ := HO_2.out.ob
  go_upto_region 3 with fail
  obtain ⟨W3, hW⟩ : ∃ W3, (W2.alloc (.cells (obc q) 27)) = W3 := ⟨_, rfl⟩
  obtain ⟨k0, hsz3, hal⟩ := one_box W2 _ _ hW
  have hst := hal
  have HO_3 := Lib.hid (HO_2.out.below hst)
  have HR_3 := Lib.hid (HR_2.out.below hst)
  have HV_3 := Lib.hid k0
  have HE3 := Lib.hid (HE2.out.below hst)
  have HB3 := Lib.hid (bel2 HB2.out hst)
  have HW3 := Lib.hid hW
  simp only [obc] at HW3
  clear o_0 o_1 o_2 o_3 o_4 o_5 o_6 o_7 o_8 o_9
  clear hst hW hal k0
  rw [HW3.out]
  rw [hsz2] at HV_3
  obtain ⟨o_0, o_1, o_2, o_3, o_4, o_5, o_6, o_7, o_8, o_9⟩ := HO_3.out.ob
  obtain ⟨r_0, r_1⟩ := HR_3.out.rf
  go_wp2_with fail
  refine (HS.out _).mono ?_
  rintro e w4_ ⟨rfl, hb⟩
  obtain ⟨W4, hW⟩ : ∃ W4, ((w4_.alloc (.cells (obc ob0) 27)).alloc (.cells (rfc (0, 0)) 24)) = W4 := ⟨_, rfl⟩
  obtain ⟨k0, k1, hsz4, hal⟩ := two_boxes w4_ _ _ _ _ hW
  have hst := bel2 hb hal
  have HO_4 := Lib.hid (HO_3.out.below hst)
  have HR_4 := Lib.hid (HR_3.out.below hst)
  have HV_4 := Lib.hid (HV_3.out.below hst)
  have HX_4 := Lib.hid k0
  have HD_4 := Lib.hid k1
  have HE4 := Lib.hid (HE3.out.below hst)
  have HB4 := Lib.hid (bel2 HB3.out hst)
  have HW4 := Lib.hid hW
  simp only [obc, ob0, rfc] at HW4
  clear o_0 o_1 o_2 o_3 o_4 o_5 o_6 o_7 o_8 o_9 r_0 r_1
  clear hst hW hb hal k0 k1
  go_upto_region 4 with fail
  rw [HW4.out]
  obtain ⟨o_0, o_1, o_2, o_3, o_4, o_5, o_6, o_7, o_8, o_9⟩ := HO_4.out.ob
  obtain ⟨v_0, v_1, v_2, v_3, v_4, v_5, v_6, v_7, v_8, v_9⟩ := HV_4.out.ob
  obtain ⟨x_0, x_1, x_2, x_3, x_4, x_5, x_6, x_7, x_8, x_9⟩ := HX_4.out.ob
  obtain ⟨d_0, d_1⟩ := HD_4.out.rf
  simp only [ob0] at x_0 x_1 x_2 x_3 x_4 x_5 x_6 x_7 x_8 x_9
  simp only at d_0 d_1
  rcases hout with ho | ⟨ho1, ho2⟩
  · go_wp2_with fail
    refine (works_ok _ HE4.out).mono ?_
    rintro e wz ⟨rfl, hb⟩
    have HBZ := Lib.hid (bel2 HB4.out hb)
    clear hb
    clear o_0 o_1 o_2 o_3 o_4 o_5 o_6 o_7 o_8 o_9 v_0 v_1 v_2 v_3 v_4 v_5 v_6 v_7 v_8 v_9 x_0 x_1 x_2 x_3 x_4 x_5 x_6 x_7 x_8 x_9 d_0 d_1
    go_wp2
    go_ret
    exact ⟨rfl, HBZ.out⟩
  · go_wp2_with fail
    refine (works_ok _ HE4.out).mono ?_
    rintro e wz ⟨rfl, hb⟩
    have HBZ := Lib.hid (bel2 HB4.out hb)
    clear hb
    clear o_0 o_1 o_2 o_3 o_4 o_5 o_6 o_7 o_8 o_9 v_0 v_1 v_2 v_3 v_4 v_5 v_6 v_7 v_8 v_9 x_0 x_1 x_2 x_3 x_4 x_5 x_6 x_7 x_8 x_9 d_0 d_1
    go_wp2
    go_ret
    exact ⟨rfl, HBZ.out⟩

set_option maxRecDepth 1000000 in
set_option maxHeartbeats 8000000 in
theorem nOne_in (n : Nat) (hn : n ≤ 255) (s g : Four) (k : Nat) (t u : Int) (w : World) (hs : In8 s) (hg : In32 g) (ht : 0 ≤ t ∧ t ≤ 255) (hu : 0 ≤ u ∧ u ≤ 4294967295) (hkn : (k : Int) < (made n s g).n) (he : Env w) :
    Calls Tryd.prog 6 #[.int .u8 (n : Int), f8 s, f32 g, .int .i64 (k : Int), .int .u8 t, .int .u32 u] w fun e w' => e = .returned (.bool true) ∧ Below w.heap.size w w' := by
  have HM := Lib.hid (made_ok n hn s g hs hg)
  have hq := made_poss n hs hg
  obtain ⟨q, hqe⟩ : ∃ q, made n s g = q := ⟨_, rfl⟩
  rw [hqe] at HM hq hkn
  have HRF := Lib.hid (ref_ok t u ht hu)
  have hr := mkr_ok ht hu
  obtain ⟨r, hre⟩ : ∃ r, mkr t u = r := ⟨_, rfl⟩
  rw [hre] at HRF hr
  have hn4 := hq.n4
  have hk4 : k < 4 := by omega
  have hk0 : (0 : Int) ≤ (k : Int) := by omega
  have hk5 : (k : Int) < 4 := by omega
  have HS := Lib.hid (set_any q hq.rg k (by omega) r hr.rr)
  rw [set_ok hq hr ⟨by omega, hkn⟩, Int.toNat_natCast] at HS
  obtain ⟨X, hXe⟩ : ∃ X, q.upd r k = X := ⟨_, rfl⟩
  have hX : Poss X := by rw [← hXe]; exact hq.upd hr hkn
  have hXn : X.n = q.n := by rw [← hXe]; exact (upd_n q r k).1
  have hXh : X.h = q.h := by rw [← hXe]; exact (upd_n q r k).2
  have hdo := hq.ok k hk4
  have HS2 := Lib.hid (set_any X hX.rg k (by omega) (q.fld k) hdo.rr)
  rw [set_ok hX hdo ⟨by omega, by rw [hXn]; exact hkn⟩, Int.toNat_natCast, show X.upd (q.fld k) k = q by rw [← hXe]; exact upd_back q r k hk4, show X.fld k = r by rw [← hXe]; exact upd_same q r k] at HS2
  have HC := Lib.hid (check_any X hX.rg)
  rw [chk_ok hX] at HC
  obtain ⟨d, hd⟩ : ∃ d : Rf, q.fld k = d := ⟨_, rfl⟩
  rw [hXe, hd] at HS
  rw [hd] at HS2
  unfold obv obc at HM HS HS2 HC
  unfold rfv rfc at HS HS2
  try simp only at HS HS2
  unfold f8 f32
  have HXN := Lib.hid hXn
  have HXH := Lib.hid hXh
  clear hqe hre hdo hr hXn hXh
  obtain ⟨W0, hW⟩ : ∃ W0, ((w.alloc (.cells (f8c s) 56)).alloc (.cells (f32c g) 57)) = W0 := ⟨_, rfl⟩
  obtain ⟨k0, k1, hsz0, hst⟩ := two_boxes w _ _ _ _ hW
  have HS_0 := Lib.hid k0
  have HG_0 := Lib.hid k1
  have HE0 := Lib.hid (he.below hst)
  have HB0 := Lib.hid hst
  have HW0 := Lib.hid hW
  simp only [f8c, f32c] at HW0
  clear hst hW he k0 k1
  go_enter Tryd.func6, Tryd.ntmps6
  go_upto_region 1 with fail
  rw [HW0.out]
  obtain ⟨s_0, s_1, s_2, s_3⟩ := HS_0.out.four8
  obtain ⟨g_0, g_1, g_2, g_3⟩ := HG_0.out.four32
  go_wp2_with fail
  refine (HM.out _).mono ?_
  rintro e w1_ ⟨rfl, hb⟩
  obtain ⟨W1, hW⟩ : ∃ W1, w1_ = W1 := ⟨_, rfl⟩
  have hst := hb
  rw [hW] at hst
  have HS_1 := Lib.hid (HS_0.out.below hst)
  have HG_1 := Lib.hid (HG_0.out.below hst)
  have HE1 := Lib.hid (HE0.out.below hst)
  have HB1 := Lib.hid (bel2 HB0.out hst)
  have HW1 := Lib.hid hW
  clear s_0 s_1 s_2 s_3 g_0 g_1 g_2 g_3
  clear hst hW hb
  rw [show w1_ = W1 from HW1.out]
  go_wp2_with fail
  refine (HRF.out _).mono ?_
  rintro e w2_ ⟨rfl, hb⟩
  obtain ⟨W2, hW⟩ : ∃ W2, ((w2_.alloc (.cells (obc q) 27)).alloc (.cells (rfc r) 24)) = W2 := ⟨_, rfl⟩
  obtain ⟨k0, k1, hsz2, hal⟩ := two_boxes w2_ _ _ _ _ hW
  have hst := bel2 hb hal
  have HS_2 := Lib.hid (HS_1.out.below hst)
  have HG_2 := Lib.hid (HG_1.out.below hst)
  have HO_2 := Lib.hid k0
  have HR_2 := Lib.hid k1
  have HE2 := Lib.hid (HE1.out.below hst)
  have HB2 := Lib.hid (bel2 HB1.out hst)
  have HW2 := Lib.hid hW
  simp only [obc, rfc] at HW2
  clear hst hW hb hal k0 k1
  go_upto_region 2 with fail
  rw [HW2.out]
  obtain ⟨o_0, o_1, o_2, o_3, o_4, o_5, o_6, o_7, o_8, o_9⟩ := HO_2.out.ob
  go_upto_region 3 with fail
  obtain ⟨W3, hW⟩ : ∃ W3, (W2.alloc (.cells (obc q) 27)) = W3 := ⟨_, rfl⟩
  obtain ⟨k0, hsz3, hal⟩ := one_box W2 _ _ hW
  have hst := hal
  have HO_3 := Lib.hid (HO_2.out.below hst)
  have HR_3 := Lib.hid (HR_2.out.below hst)
  have HV_3 := Lib.hid k0
  have HE3 := Lib.hid (HE2.out.below hst)
  have HB3 := Lib.hid (bel2 HB2.out hst)
  have HW3 := Lib.hid hW
  simp only [obc] at HW3
  clear o_0 o_1 o_2 o_3 o_4 o_5 o_6 o_7 o_8 o_9
  clear hst hW hal k0
  rw [HW3.out]
  rw [hsz2] at HV_3
  obtain ⟨o_0, o_1, o_2, o_3, o_4, o_5, o_6, o_7, o_8, o_9⟩ := HO_3.out.ob
  obtain ⟨r_0, r_1⟩ := HR_3.out.rf
  go_wp2_with fail
  refine (HS.out _).mono ?_
  rintro e w4_ ⟨rfl, hb⟩
  obtain ⟨W4, hW⟩ : ∃ W4, ((w4_.alloc (.cells (obc X) 27)).alloc (.cells (rfc d) 24)) = W4 := ⟨_, rfl⟩
  obtain ⟨k0, k1, hsz4, hal⟩ := two_boxes w4_ _ _ _ _ hW
  have hst := bel2 hb hal
  have HO_4 := Lib.hid (HO_3.out.below hst)
  have HR_4 := Lib.hid (HR_3.out.below hst)
  have HV_4 := Lib.hid (HV_3.out.below hst)
  have HX_4 := Lib.hid k0
  have HD_4 := Lib.hid k1
  have HE4 := Lib.hid (HE3.out.below hst)
  have HB4 := Lib.hid (bel2 HB3.out hst)
  have HW4 := Lib.hid hW
  simp only [obc, rfc] at HW4
  clear o_0 o_1 o_2 o_3 o_4 o_5 o_6 o_7 o_8 o_9 r_0 r_1
  clear hst hW hb hal k0 k1
  go_upto_region 4 with fail
  rw [HW4.out]
  obtain ⟨o_0, o_1, o_2, o_3, o_4, o_5, o_6, o_7, o_8, o_9⟩ := HO_4.out.ob
  obtain ⟨v_0, v_1, v_2, v_3, v_4, v_5, v_6, v_7, v_8, v_9⟩ := HV_4.out.ob
  obtain ⟨x_0, x_1, x_2, x_3, x_4, x_5, x_6, x_7, x_8, x_9⟩ := HX_4.out.ob
  obtain ⟨d_0, d_1⟩ := HD_4.out.rf
  rw [HXN.out] at x_0
  rw [HXH.out] at x_9
  have z0 := (HO_4.out.cell (1 + k * 2)).trans (obc_s q k hk4)
  have z1 := (HO_4.out.cell (1 + k * 2 + 1)).trans (obc_g q k hk4)
  rw [hd] at z0 z1
  go_upto_region 8 with fail
  go_quiet (fail)
  go_upto_region 10 with fail
  clear v_0 v_1 v_2 v_3 v_4 v_5 v_6 v_7 v_8 v_9 d_0 d_1
  clear z0 z1 x_0 x_1 x_2 x_3 x_4 x_5 x_6 x_7 x_8 x_9 o_1 o_2 o_3 o_4 o_5 o_6 o_7 o_8 o_9
  go_wp2
  clear o_0
  go_loopw [97] (fun i wr => ∃ j : Nat, (j : Int) ≤ q.n ∧ i = .int .i64 j ∧ Hid (Below W4.heap.size W4 wr)) (fun i _ => 4 - (intOf i).toNat)
  case atStart => exact ⟨0, hq.n0, rfl, bel_drn _ _⟩
  case round =>
    obtain ⟨j, hj, rfl, HBW⟩ := hrel
    by_cases hlt : (j : Int) < q.n
    · have hj4 : j < 4 := by omega
      have hj0 : (0 : Int) ≤ (j : Int) := by omega
      have hj5 : (j : Int) < 4 := by omega
      by_cases hjk : j = k
      · have HGT := Lib.hid (get_any X hX.rg j (by omega))
        rw [get_ok hX ⟨by omega, by rw [HXN.out]; exact hlt⟩] at HGT
        simp only [Int.toNat_natCast] at HGT
        rw [show X.fld j = r by rw [hjk, ← hXe, upd_same]] at HGT
        have HJK := Lib.hid hjk
        clear hjk
        obtain ⟨⟨c, e⟩, hce⟩ : ∃ u : Rf, q.fld j = u := ⟨_, rfl⟩
        unfold obv obc rfv rfc at HGT
        try simp only at HGT
        obtain ⟨x_0, x_1, x_2, x_3, x_4, x_5, x_6, x_7, x_8, x_9⟩ := (HX_4.out.below HBW.out).ob
        go_wp2_with fail
        refine (HGT.out _).mono ?_
        rintro e_ u1 ⟨rfl, hb1⟩
        obtain ⟨WA, hW⟩ : ∃ WA, u1.alloc (.cells #[.int .i64 r.1, .int .u32 r.2] 24) = WA := ⟨_, rfl⟩
        obtain ⟨k0, hszA, hal⟩ := one_box _ _ _ hW
        have HWA := Lib.hid hW
        have HA_ := Lib.hid k0
        have HBA := Lib.hid (bel2 HBW.out (bel2 hb1 hal))
        clear hW k0 hal hb1 x_0 x_1 x_2 x_3 x_4 x_5 x_6 x_7 x_8 x_9
        go_upto_region 14 with fail
        rw [HWA.out]
        have z0 := ((HO_4.out.below HBA.out).cell (1 + j * 2)).trans (obc_s q j hj4)
        have z1 := ((HO_4.out.below HBA.out).cell (1 + j * 2 + 1)).trans (obc_g q j hj4)
        rw [hce] at z0 z1
        go_upto_region 15 with fail
        obtain ⟨WB, hW⟩ : ∃ WB, WA.alloc (.cells #[.int .i64 c, .int .u32 e] 24) = WB := ⟨_, rfl⟩
        obtain ⟨k0, hszB, hal⟩ := one_box _ _ _ hW
        rw [hszA] at k0 hszB
        have HWB := Lib.hid hW
        have HBB := Lib.hid (bel2 HBA.out hal)
        have HU_ := Lib.hid k0
        have HA2 := Lib.hid (HA_.out.below hal)
        clear hW k0 hal z0 z1 hce
        rw [HWB.out]
        have hjk2 : ((j : Int) == (k : Int)) = true := beq_iff_eq.2 (by have := HJK.out; omega)
        obtain ⟨r_0, r_1⟩ := (HR_4.out.below HBB.out).rf
        obtain ⟨f_0, f_1⟩ := HU_.out.rfz
        have g_0 : WB.cell? ⟨u1.heap.size + 1, 0, none⟩ = some (.int .i64 c) := HU_.out.cell 0
        have g_1 : WB.cell? ⟨u1.heap.size + 1, 1, none⟩ = some (.int .u32 e) := HU_.out.cell 1
        go_upto_region 17 with fail
        obtain ⟨WC, hW⟩ : ∃ WC, (WB.setCell ⟨u1.heap.size + 1, 0, none⟩ (.int .i64 r.1)).setCell ⟨u1.heap.size + 1, 1, none⟩ (.int .u32 r.2) = WC := ⟨_, rfl⟩
        have hv : Bk WC (u1.heap.size + 1) 24 (rfc r) := by rw [← hW]; exact (HU_.out.put 0 _).put 1 _
        have ha : Bk WC u1.heap.size 24 (rfc r) := by rw [← hW]; exact (HA2.out.other (by omega)).other (by omega)
        have HBC : Hid (Below W4.heap.size W4 WC) := by unfold Hid; rw [← hW]; exact bel_two HBB.out (by have := HBA.out.size; omega) _ _
        have HWC := Lib.hid hW
        clear hW r_0 r_1 f_0 f_1 g_0 g_1
        rw [HWC.out]
        obtain ⟨a_0, a_1⟩ := ha.rf
        obtain ⟨v_0, v_1⟩ := hv.rf
        clear ha hv
        go_wp2
        go_roundw
        case rel => exact ⟨j + 1, by omega, by go_num, HBC.out⟩
        case measure => simp [intOf]; omega
      · have HGT := Lib.hid (get_any X hX.rg j (by omega))
        rw [get_ok hX ⟨by omega, by rw [HXN.out]; exact hlt⟩] at HGT
        simp only [Int.toNat_natCast] at HGT
        rw [show X.fld j = q.fld j by rw [← hXe, upd_ne _ _ _ _ hk4 hj4 hjk]] at HGT
        have HJK := Lib.hid hjk
        clear hjk
        obtain ⟨⟨c, e⟩, hce⟩ : ∃ u : Rf, q.fld j = u := ⟨_, rfl⟩
        rw [hce] at HGT
        unfold obv obc rfv rfc at HGT
        try simp only at HGT
        obtain ⟨x_0, x_1, x_2, x_3, x_4, x_5, x_6, x_7, x_8, x_9⟩ := (HX_4.out.below HBW.out).ob
        go_wp2_with fail
        refine (HGT.out _).mono ?_
        rintro e_ u1 ⟨rfl, hb1⟩
        obtain ⟨WA, hW⟩ : ∃ WA, u1.alloc (.cells #[.int .i64 c, .int .u32 e] 24) = WA := ⟨_, rfl⟩
        obtain ⟨k0, hszA, hal⟩ := one_box _ _ _ hW
        have HWA := Lib.hid hW
        have HA_ := Lib.hid k0
        have HBA := Lib.hid (bel2 HBW.out (bel2 hb1 hal))
        clear hW k0 hal hb1 x_0 x_1 x_2 x_3 x_4 x_5 x_6 x_7 x_8 x_9
        go_upto_region 14 with fail
        rw [HWA.out]
        have z0 := ((HO_4.out.below HBA.out).cell (1 + j * 2)).trans (obc_s q j hj4)
        have z1 := ((HO_4.out.below HBA.out).cell (1 + j * 2 + 1)).trans (obc_g q j hj4)
        rw [hce] at z0 z1
        go_upto_region 15 with fail
        obtain ⟨WB, hW⟩ : ∃ WB, WA.alloc (.cells #[.int .i64 c, .int .u32 e] 24) = WB := ⟨_, rfl⟩
        obtain ⟨k0, hszB, hal⟩ := one_box _ _ _ hW
        rw [hszA] at k0 hszB
        have HWB := Lib.hid hW
        have HBB := Lib.hid (bel2 HBA.out hal)
        have HU_ := Lib.hid k0
        have HA2 := Lib.hid (HA_.out.below hal)
        clear hW k0 hal z0 z1 hce
        rw [HWB.out]
        have hjk2 : ((j : Int) == (k : Int)) = false := beq_eq_false_iff_ne.2 (by have := HJK.out; omega)
        have a_0 : WB.cell? ⟨u1.heap.size, 0, none⟩ = some (.int .i64 c) := HA2.out.cell 0
        have a_1 : WB.cell? ⟨u1.heap.size, 1, none⟩ = some (.int .u32 e) := HA2.out.cell 1
        have v_0 : WB.cell? ⟨u1.heap.size + 1, 0, none⟩ = some (.int .i64 c) := HU_.out.cell 0
        have v_1 : WB.cell? ⟨u1.heap.size + 1, 1, none⟩ = some (.int .u32 e) := HU_.out.cell 1
        go_wp2
        go_roundw
        case rel => exact ⟨j + 1, by omega, by go_num, HBB.out⟩
        case measure => simp [intOf]; omega
    · obtain ⟨W5, rfl⟩ : ∃ W5, W5 = wr := ⟨_, rfl⟩
      have HO_5 := Lib.hid (HO_4.out.below HBW.out)
      have HR_5 := Lib.hid (HR_4.out.below HBW.out)
      have HX_5 := Lib.hid (HX_4.out.below HBW.out)
      have HD_5 := Lib.hid (HD_4.out.below HBW.out)
      have HE5 := Lib.hid (HE4.out.below HBW.out)
      have HB5 := Lib.hid (bel2 HB4.out HBW.out)
      clear HBW
      obtain ⟨x_0, x_1, x_2, x_3, x_4, x_5, x_6, x_7, x_8, x_9⟩ := HX_5.out.ob
      obtain ⟨d_0, d_1⟩ := HD_5.out.rf
      go_wp2_with fail
      refine (HS2.out _).mono ?_
      rintro e w6_ ⟨rfl, hb⟩
      obtain ⟨W6, hW⟩ : ∃ W6, ((w6_.alloc (.cells (obc q) 27)).alloc (.cells (rfc r) 24)) = W6 := ⟨_, rfl⟩
      obtain ⟨k0, k1, hsz6, hal⟩ := two_boxes w6_ _ _ _ _ hW
      have hst := bel2 hb hal
      have HO_6 := Lib.hid (HO_5.out.below hst)
      have HR_6 := Lib.hid (HR_5.out.below hst)
      have HX_6 := Lib.hid (HX_5.out.below hst)
      have HD_6 := Lib.hid (HD_5.out.below hst)
      have HB_6 := Lib.hid k0
      have HT_6 := Lib.hid k1
      have HE6 := Lib.hid (HE5.out.below hst)
      have HB6 := Lib.hid (bel2 HB5.out hst)
      have HW6 := Lib.hid hW
      simp only [obc, rfc] at HW6
      clear x_0 x_1 x_2 x_3 x_4 x_5 x_6 x_7 x_8 x_9 d_0 d_1
      clear hst hW hb hal k0 k1
      go_upto_region 21 with fail
      rw [HW6.out]
      obtain ⟨b_0, b_1, b_2, b_3, b_4, b_5, b_6, b_7, b_8, b_9⟩ := HB_6.out.ob
      obtain ⟨o_0, o_1, o_2, o_3, o_4, o_5, o_6, o_7, o_8, o_9⟩ := HO_6.out.ob
      obtain ⟨t_0, t_1⟩ := HT_6.out.rf
      obtain ⟨r_0, r_1⟩ := HR_6.out.rf
      obtain ⟨x_0, x_1, x_2, x_3, x_4, x_5, x_6, x_7, x_8, x_9⟩ := HX_6.out.ob
      go_wp2_with fail
      refine (HC.out _).mono ?_
      rintro e w7_ ⟨rfl, hb⟩
      have HB7 := Lib.hid (bel2 HB6.out hb)
      have HE7 := Lib.hid (HE6.out.below hb)
      clear hb
      clear b_0 b_1 b_2 b_3 b_4 b_5 b_6 b_7 b_8 b_9 o_0 o_1 o_2 o_3 o_4 o_5 o_6 o_7 o_8 o_9 t_0 t_1 r_0 r_1 x_0 x_1 x_2 x_3 x_4 x_5 x_6 x_7 x_8 x_9
      go_wp2_with fail
      refine (works_ok _ HE7.out).mono ?_
      rintro e wz ⟨rfl, hb⟩
      have HBZ := Lib.hid (bel2 HB7.out hb)
      clear hb
      go_wp2
      go_ret
      exact ⟨rfl, HBZ.out⟩

theorem nOne_walk (x : Int) (s g : Four) (i t u : Int) (w : World) (h1 : 0 ≤ x) (h2 : x ≤ 255) (hs : In8 s) (hg : In32 g) (hi1 : -9223372036854775808 ≤ i) (hi2 : i ≤ 9223372036854775807) (t1 : 0 ≤ t) (t2 : t ≤ 255) (u1 : 0 ≤ u) (u2 : u ≤ 4294967295) (he : Env w) :
    Calls Tryd.prog 6 #[.int .u8 x, f8 s, f32 g, .int .i64 i, .int .u8 t, .int .u32 u] w fun e w' => e = .returned (.bool true) ∧ Below w.heap.size w w' := by
  obtain ⟨n, rfl⟩ := Int.eq_ofNat_of_zero_le h1
  by_cases h : i < 0 ∨ (made n s g).n ≤ i
  · exact nOne_out n (by omega) s g i t u w hs hg hi1 hi2 ⟨t1, t2⟩ ⟨u1, u2⟩ h he
  · obtain ⟨k, rfl⟩ := Int.eq_ofNat_of_zero_le (a := i) (by omega)
    exact nOne_in n (by omega) s g k t u w hs hg ⟨t1, t2⟩ ⟨u1, u2⟩ (by omega) he
end Go.Proofs.YtmbkhkijmfogcaaDoor
