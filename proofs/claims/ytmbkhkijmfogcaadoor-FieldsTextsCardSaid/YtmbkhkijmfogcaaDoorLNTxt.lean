/- The walk of FieldsTexts. -/
import Derived.Test.YtmbkhkijmfogcaaDoorNx
import Derived.Deep.Cut
namespace Go.Proofs.YtmbkhkijmfogcaaDoor
open Go.RowKit
attribute [local go_sem] eqArr

set_option maxRecDepth 1000000 in
set_option maxHeartbeats 4000000 in
theorem nTxt_walk (o : Ob) (s : ByteArray) (w : World) (hr : Rg o) (_ : s.size ≤ 140737488351232) (he : Env w) :
    Calls Tryd.prog 5 #[obv o, .string s] w fun e w' => e = .returned (.bool true) ∧ Below w.heap.size w w' := by
  by_cases hlen : s.size ≤ 1000
  · have h1 : ¬ (1000 : Int) < (s.size : Int) := by omega
    have HT := Lib.hid (text_any o hr)
    have HDT := Lib.hid (dtext_any o hr)
    have HP := Lib.hid (parse_any s (by omega))
    have HDP := Lib.hid (dparse_any s (by omega))
    obtain ⟨⟨T, te⟩, ht⟩ : ∃ u : ByteArray × Int, ((⟨(textR o).1.toArray⟩ : ByteArray), (textR o).2) = u := ⟨_, rfl⟩
    obtain ⟨⟨P, pe⟩, hp⟩ : ∃ u : Ob × Int, parseR s.data.toList = u := ⟨_, rfl⟩
    rw [hp] at HP HDP
    rw [show (⟨(textR o).1.toArray⟩ : ByteArray) = T from congrArg Prod.fst ht, show (textR o).2 = te from congrArg Prod.snd ht] at HT HDT
    unfold obv obc at HT HDT HP HDP ⊢
    simp only at HP HDP
    clear hp ht hr hlen
    obtain ⟨W0, hW⟩ : ∃ W0, (w.alloc (.cells (obc o) 27)) = W0 := ⟨_, rfl⟩
    obtain ⟨k0, hsz0, hst⟩ := one_box w _ _ hW
    have HO_0 := Lib.hid k0
    have HE0 := Lib.hid (he.below hst)
    have HB0 := Lib.hid hst
    have HW0 := Lib.hid hW
    simp only [obc] at HW0
    clear hst hW he k0
    go_enter Tryd.func5, Tryd.ntmps5
    go_upto_region 3 with fail
    rw [HW0.out]
    obtain ⟨o_0, o_1, o_2, o_3, o_4, o_5, o_6, o_7, o_8, o_9⟩ := HO_0.out.ob
    go_wp2_with fail
    refine (HT.out _ HE0.out).mono ?_
    rintro e w1_ ⟨rfl, hb⟩
    obtain ⟨W1, hW⟩ : ∃ W1, w1_ = W1 := ⟨_, rfl⟩
    have hst := hb
    rw [hW] at hst
    have HO_1 := Lib.hid (HO_0.out.below hst)
    have HE1 := Lib.hid (HE0.out.below hst)
    have HB1 := Lib.hid (bel2 HB0.out hst)
    have HW1 := Lib.hid hW
    clear o_0 o_1 o_2 o_3 o_4 o_5 o_6 o_7 o_8 o_9
    clear hst hW hb
    go_upto_region 4 with fail
    rw [HW1.out]
    obtain ⟨o_0, o_1, o_2, o_3, o_4, o_5, o_6, o_7, o_8, o_9⟩ := HO_1.out.ob
    go_wp2_with fail
    refine (HDT.out _).mono ?_
    rintro e w2_ ⟨rfl, hb⟩
    obtain ⟨W2, hW⟩ : ∃ W2, w2_ = W2 := ⟨_, rfl⟩
    have hst := hb
    rw [hW] at hst
    have HO_2 := Lib.hid (HO_1.out.below hst)
    have HE2 := Lib.hid (HE1.out.below hst)
    have HB2 := Lib.hid (bel2 HB1.out hst)
    have HW2 := Lib.hid hW
    clear o_0 o_1 o_2 o_3 o_4 o_5 o_6 o_7 o_8 o_9
    clear hst hW hb
    go_upto_region 5 with fail
    rw [HW2.out]
    go_wp2_with fail
    refine (HP.out _ HE2.out).mono ?_
    rintro e w3_ ⟨rfl, hb⟩
    obtain ⟨W3, hW⟩ : ∃ W3, (w3_.alloc (.cells (obc P) 27)) = W3 := ⟨_, rfl⟩
    obtain ⟨k0, hsz3, hal⟩ := one_box w3_ _ _ hW
    have hst := bel2 hb hal
    have HO_3 := Lib.hid (HO_2.out.below hst)
    have HC_3 := Lib.hid k0
    have HE3 := Lib.hid (HE2.out.below hst)
    have HB3 := Lib.hid (bel2 HB2.out hst)
    have HW3 := Lib.hid hW
    simp only [obc] at HW3
    clear hst hW hb hal k0
    go_upto_region 6 with fail
    rw [HW3.out]
    go_wp2_with fail
    refine (HDP.out _).mono ?_
    rintro e w4_ ⟨rfl, hb⟩
    obtain ⟨W4, hW⟩ : ∃ W4, (w4_.alloc (.cells (obc P) 31)) = W4 := ⟨_, rfl⟩
    obtain ⟨k0, hsz4, hal⟩ := one_box w4_ _ _ hW
    have hst := bel2 hb hal
    have HO_4 := Lib.hid (HO_3.out.below hst)
    have HC_4 := Lib.hid (HC_3.out.below hst)
    have HD_4 := Lib.hid k0
    have HE4 := Lib.hid (HE3.out.below hst)
    have HB4 := Lib.hid (bel2 HB3.out hst)
    have HW4 := Lib.hid hW
    simp only [obc] at HW4
    clear hst hW hb hal k0
    go_upto_region 7 with fail
    rw [HW4.out]
    obtain ⟨c_0, c_1, c_2, c_3, c_4, c_5, c_6, c_7, c_8, c_9⟩ := HC_4.out.ob
    obtain ⟨d_0, d_1, d_2, d_3, d_4, d_5, d_6, d_7, d_8, d_9⟩ := HD_4.out.ob
    go_wp2_with fail
    refine (works_ok _ HE4.out).mono ?_
    rintro e wz ⟨rfl, hb⟩
    have HBZ := Lib.hid (bel2 HB4.out hb)
    clear hb
    clear c_0 c_1 c_2 c_3 c_4 c_5 c_6 c_7 c_8 c_9 d_0 d_1 d_2 d_3 d_4 d_5 d_6 d_7 d_8 d_9
    go_wp2
    go_ret
    exact ⟨rfl, HBZ.out⟩
  · have h1 : (1000 : Int) < (s.size : Int) := by omega
    have HE0 := Lib.hid (he.below (bup w (.cells (obc o) 27)))
    simp only [obc] at HE0
    unfold obv obc
    clear he hr hlen
    go_enter Tryd.func5, Tryd.ntmps5
    go_wp2_with fail
    refine (works_ok _ HE0.out).mono ?_
    rintro e wz ⟨rfl, hb⟩
    have HBZ := Lib.hid (bel2 (bup w _) hb)
    clear hb
    go_wp2
    go_ret
    exact ⟨rfl, HBZ.out⟩
end Go.Proofs.YtmbkhkijmfogcaaDoor
