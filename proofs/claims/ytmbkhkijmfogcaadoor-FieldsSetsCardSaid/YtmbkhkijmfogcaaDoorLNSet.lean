/- The walk of FieldsSets. -/
import Derived.Test.YtmbkhkijmfogcaaDoorNx
import Derived.Deep.Cut
namespace Go.Proofs.YtmbkhkijmfogcaaDoor
open Go.RowKit
attribute [local go_sem] eqArr

set_option maxRecDepth 1000000 in
set_option maxHeartbeats 4000000 in
theorem nSet_walk (o : Ob) (i : Int) (x : Rf) (w : World) (hr : Rg o) (hi1 : -9223372036854775808 ≤ i) (hi2 : i ≤ 9223372036854775807) (hx : Rr x) (he : Env w) :
    Calls Tryd.prog 4 #[obv o, .int .i64 i, rfv x] w fun e w' => e = .returned (.bool true) ∧ Below w.heap.size w w' := by
  have HG := Lib.hid (get_any o hr i ⟨hi1, hi2⟩)
  have HDG := Lib.hid (dget_any o hr i ⟨hi1, hi2⟩)
  have HS := Lib.hid (set_any o hr i ⟨hi1, hi2⟩ x hx)
  have HDS := Lib.hid (dset_any o hr i ⟨hi1, hi2⟩ x hx)
  obtain ⟨⟨g, ge⟩, hg⟩ : ∃ u : Rf × Int, getR o i = u := ⟨_, rfl⟩
  obtain ⟨⟨S, p, se⟩, hs⟩ : ∃ u : Ob × Rf × Int, setR o i x = u := ⟨_, rfl⟩
  rw [hg] at HG HDG
  rw [hs] at HS HDS
  unfold obv obc at HG HDG HS HDS ⊢
  unfold rfv rfc at HG HDG HS HDS ⊢
  simp only at HG HDG HS HDS
  clear hg hs hr hx
  obtain ⟨W0, hW⟩ : ∃ W0, (((w.alloc (.cells (obc o) 27)).alloc (.cells (rfc x) 24)).alloc (.cells (obc o) 31)) = W0 := ⟨_, rfl⟩
  obtain ⟨k0, k1, k2, hsz0, hst⟩ := three_boxes w _ _ _ _ _ _ hW
  have HO_0 := Lib.hid k0
  have HX_0 := Lib.hid k1
  have HR_0 := Lib.hid k2
  have HE0 := Lib.hid (he.below hst)
  have HB0 := Lib.hid hst
  have HW0 := Lib.hid hW
  simp only [obc, rfc] at HW0
  clear hst hW he k0 k1 k2
  go_enter Tryd.func4, Tryd.ntmps4
  go_upto_region 2 with fail
  rw [HW0.out]
  obtain ⟨o_0, o_1, o_2, o_3, o_4, o_5, o_6, o_7, o_8, o_9⟩ := HO_0.out.ob
  go_wp2_with fail
  refine (HG.out _).mono ?_
  rintro e w1_ ⟨rfl, hb⟩
  obtain ⟨W1, hW⟩ : ∃ W1, (w1_.alloc (.cells (rfc g) 24)) = W1 := ⟨_, rfl⟩
  obtain ⟨k0, hsz1, hal⟩ := one_box w1_ _ _ hW
  have hst := bel2 hb hal
  have HO_1 := Lib.hid (HO_0.out.below hst)
  have HX_1 := Lib.hid (HX_0.out.below hst)
  have HR_1 := Lib.hid (HR_0.out.below hst)
  have HA_1 := Lib.hid k0
  have HE1 := Lib.hid (HE0.out.below hst)
  have HB1 := Lib.hid (bel2 HB0.out hst)
  have HW1 := Lib.hid hW
  simp only [rfc] at HW1
  clear o_0 o_1 o_2 o_3 o_4 o_5 o_6 o_7 o_8 o_9
  clear hst hW hb hal k0
  go_upto_region 3 with fail
  rw [HW1.out]
  obtain ⟨r_0, r_1, r_2, r_3, r_4, r_5, r_6, r_7, r_8, r_9⟩ := HR_1.out.ob
  go_wp2_with fail
  refine (HDG.out _).mono ?_
  rintro e w2_ ⟨rfl, hb⟩
  obtain ⟨W2, hW⟩ : ∃ W2, (w2_.alloc (.cells (rfc g) 24)) = W2 := ⟨_, rfl⟩
  obtain ⟨k0, hsz2, hal⟩ := one_box w2_ _ _ hW
  have hst := bel2 hb hal
  have HO_2 := Lib.hid (HO_1.out.below hst)
  have HX_2 := Lib.hid (HX_1.out.below hst)
  have HR_2 := Lib.hid (HR_1.out.below hst)
  have HA_2 := Lib.hid (HA_1.out.below hst)
  have HB_2 := Lib.hid k0
  have HE2 := Lib.hid (HE1.out.below hst)
  have HB2 := Lib.hid (bel2 HB1.out hst)
  have HW2 := Lib.hid hW
  simp only [rfc] at HW2
  clear r_0 r_1 r_2 r_3 r_4 r_5 r_6 r_7 r_8 r_9
  clear hst hW hb hal k0
  go_upto_region 4 with fail
  rw [HW2.out]
  obtain ⟨o_0, o_1, o_2, o_3, o_4, o_5, o_6, o_7, o_8, o_9⟩ := HO_2.out.ob
  obtain ⟨x_0, x_1⟩ := HX_2.out.rf
  go_wp2_with fail
  refine (HS.out _).mono ?_
  rintro e w3_ ⟨rfl, hb⟩
  obtain ⟨W3, hW⟩ : ∃ W3, ((w3_.alloc (.cells (obc S) 27)).alloc (.cells (rfc p) 24)) = W3 := ⟨_, rfl⟩
  obtain ⟨k0, k1, hsz3, hal⟩ := two_boxes w3_ _ _ _ _ hW
  have hst := bel2 hb hal
  have HO_3 := Lib.hid (HO_2.out.below hst)
  have HX_3 := Lib.hid (HX_2.out.below hst)
  have HR_3 := Lib.hid (HR_2.out.below hst)
  have HA_3 := Lib.hid (HA_2.out.below hst)
  have HB_3 := Lib.hid (HB_2.out.below hst)
  have HC_3 := Lib.hid k0
  have HP_3 := Lib.hid k1
  have HE3 := Lib.hid (HE2.out.below hst)
  have HB3 := Lib.hid (bel2 HB2.out hst)
  have HW3 := Lib.hid hW
  simp only [obc, rfc] at HW3
  clear o_0 o_1 o_2 o_3 o_4 o_5 o_6 o_7 o_8 o_9 x_0 x_1
  clear hst hW hb hal k0 k1
  go_upto_region 5 with fail
  rw [HW3.out]
  obtain ⟨r_0, r_1, r_2, r_3, r_4, r_5, r_6, r_7, r_8, r_9⟩ := HR_3.out.ob
  obtain ⟨x_0, x_1⟩ := HX_3.out.rf
  go_wp2_with fail
  refine (HDS.out _).mono ?_
  rintro e w4_ ⟨rfl, hb⟩
  obtain ⟨W4, hW⟩ : ∃ W4, ((w4_.alloc (.cells (obc S) 31)).alloc (.cells (rfc p) 24)) = W4 := ⟨_, rfl⟩
  obtain ⟨k0, k1, hsz4, hal⟩ := two_boxes w4_ _ _ _ _ hW
  have hst := bel2 hb hal
  have HO_4 := Lib.hid (HO_3.out.below hst)
  have HX_4 := Lib.hid (HX_3.out.below hst)
  have HR_4 := Lib.hid (HR_3.out.below hst)
  have HA_4 := Lib.hid (HA_3.out.below hst)
  have HB_4 := Lib.hid (HB_3.out.below hst)
  have HC_4 := Lib.hid (HC_3.out.below hst)
  have HP_4 := Lib.hid (HP_3.out.below hst)
  have HD_4 := Lib.hid k0
  have HQ_4 := Lib.hid k1
  have HE4 := Lib.hid (HE3.out.below hst)
  have HB4 := Lib.hid (bel2 HB3.out hst)
  have HW4 := Lib.hid hW
  simp only [obc, rfc] at HW4
  clear r_0 r_1 r_2 r_3 r_4 r_5 r_6 r_7 r_8 r_9 x_0 x_1
  clear hst hW hb hal k0 k1
  go_upto_region 6 with fail
  rw [HW4.out]
  obtain ⟨a_0, a_1⟩ := HA_4.out.rf
  obtain ⟨b_0, b_1⟩ := HB_4.out.rf
  obtain ⟨c_0, c_1, c_2, c_3, c_4, c_5, c_6, c_7, c_8, c_9⟩ := HC_4.out.ob
  obtain ⟨d_0, d_1, d_2, d_3, d_4, d_5, d_6, d_7, d_8, d_9⟩ := HD_4.out.ob
  obtain ⟨p_0, p_1⟩ := HP_4.out.rf
  obtain ⟨q_0, q_1⟩ := HQ_4.out.rf
  go_wp2_with fail
  refine (works_ok _ HE4.out).mono ?_
  rintro e wz ⟨rfl, hb⟩
  have HBZ := Lib.hid (bel2 HB4.out hb)
  clear hb
  clear a_0 a_1 b_0 b_1 c_0 c_1 c_2 c_3 c_4 c_5 c_6 c_7 c_8 c_9 d_0 d_1 d_2 d_3 d_4 d_5 d_6 d_7 d_8 d_9 p_0 p_1 q_0 q_1
  go_wp2
  go_ret
  exact ⟨rfl, HBZ.out⟩
end Go.Proofs.YtmbkhkijmfogcaaDoor
