/- The walk of FieldsRefs. -/
import Derived.Test.YtmbkhkijmfogcaaDoorNz
import Derived.Test.YtmbkhkijmfogcaaDoorNw
import Derived.Deep.Cut
namespace Go.Proofs.YtmbkhkijmfogcaaDoor
open Go.RowKit

theorem bel3 {a b c d : World} (h : Below a.heap.size a b) (h2 : Below b.heap.size b c) (h3 : Below c.heap.size c d) : Below a.heap.size a d := bel2 (bel2 h h2) h3

set_option maxRecDepth 1000000 in
set_option maxHeartbeats 8000000 in
theorem nRef_in (n : Nat) (hn : n ≤ 255) (s g : Four) (w : World) (hs : In8 s) (hg : In32 g) (he : Env w) :
    Calls Tryd.prog 9 #[.int .u8 (n : Int), f8 s, f32 g] w fun e w' => e = .returned (.bool true) ∧ Below w.heap.size w w' := by
  have HEw := Lib.hid he
  have HM := Lib.hid (made_ok n hn s g hs hg)
  have hq := made_poss n hs hg
  obtain ⟨q, hqe⟩ : ∃ q, made n s g = q := ⟨_, rfl⟩
  rw [hqe] at HM hq
  have HR := Lib.hid (refs_ok q)
  have HNW := Lib.hid (new_any q.n (by have := hq.n0; have := hq.n4; omega) q.h)
  rw [new_ok (poss_bare hq)] at HNW
  have HRX := Lib.hid (refs_ok (mk q.n q.h))
  unfold NewR at HR HRX
  rw [refs_mk] at HRX
  unfold obv obc at HM HR HNW HRX
  simp only [mk] at HNW HRX
  unfold f8 f32
  clear hqe
  obtain ⟨W0, hW⟩ : ∃ W0, ((w.alloc (.cells (f8c s) 56)).alloc (.cells (f32c g) 57)) = W0 := ⟨_, rfl⟩
  obtain ⟨k0, k1, hsz0, hst⟩ := two_boxes w _ _ _ _ hW
  have HS_0 := Lib.hid k0
  have HG_0 := Lib.hid k1
  have HE0 := Lib.hid (he.below hst)
  have HB0 := Lib.hid hst
  have HW0 := Lib.hid hW
  simp only [f8c, f32c] at HW0
  clear hst hW he k0 k1
  go_enter Tryd.func9, Tryd.ntmps9
  go_upto_region 1 with fail
  rw [HW0.out]
  obtain ⟨s_0, s_1, s_2, s_3⟩ := HS_0.out.four8
  obtain ⟨g_0, g_1, g_2, g_3⟩ := HG_0.out.four32
  go_wp2_with fail
  refine (HM.out _).mono ?_
  rintro e w1_ ⟨rfl, hb⟩
  obtain ⟨W1, hW⟩ : ∃ W1, (w1_.alloc (.cells (obc q) 27)) = W1 := ⟨_, rfl⟩
  obtain ⟨k0, hsz1, hal⟩ := one_box w1_ _ _ hW
  have hst := bel2 hb hal
  have HS_1 := Lib.hid (HS_0.out.below hst)
  have HG_1 := Lib.hid (HG_0.out.below hst)
  have HP_1 := Lib.hid k0
  have HE1 := Lib.hid (HE0.out.below hst)
  have HB1 := Lib.hid (bel2 HB0.out hst)
  have HW1 := Lib.hid hW
  simp only [obc] at HW1
  clear s_0 s_1 s_2 s_3 g_0 g_1 g_2 g_3
  clear hst hW hb hal k0
  go_upto_region 2 with fail
  rw [HW1.out]
  obtain ⟨p_0, p_1, p_2, p_3, p_4, p_5, p_6, p_7, p_8, p_9⟩ := HP_1.out.ob
  go_wp2_with fail
  refine (HR.out _).mono ?_
  rintro e w2_ ⟨p2, c2, rfl, ho, hb⟩
  have HO := Lib.hid ho
  clear ho
  obtain ⟨W2, hW⟩ : ∃ W2, w2_ = W2 := ⟨_, rfl⟩
  have hst := hb
  rw [hW] at hst
  have HS_2 := Lib.hid (HS_1.out.below hst)
  have HG_2 := Lib.hid (HG_1.out.below hst)
  have HP_2 := Lib.hid (HP_1.out.below hst)
  have HE2 := Lib.hid (HE1.out.below hst)
  have HB2 := Lib.hid (bel2 HB1.out hst)
  have HW2 := Lib.hid hW
  clear p_0 p_1 p_2 p_3 p_4 p_5 p_6 p_7 p_8 p_9
  clear hst hW hb
  go_upto_region 3 with fail
  rw [HW2.out]
  have HO2 : Hid (W2.ownsRow W1.heap.size 24 2 (.slice p2 (refs q).length c2) (refs q).length (rcls (refs q))) := by unfold Hid; rw [← HW2.out]; exact HO.out
  clear HO
  obtain ⟨p_0, p_1, p_2, p_3, p_4, p_5, p_6, p_7, p_8, p_9⟩ := HP_2.out.ob
  go_wp2
  clear p_0 p_1 p_2 p_3 p_4 p_5 p_6 p_7 p_8 p_9
  go_loopw [9, 23] (fun x i wr => ∃ (k : Nat) (pre : List Nat) (p : Option Addr) (c : Nat), (k : Int) ≤ q.n ∧ i = .int .i64 k ∧ x = .slice p pre.length c ∧ Hid (wr.ownsRow W2.heap.size 24 2 (.slice p pre.length c) (rls q pre).length (rcls (rls q pre))) ∧ Hid (pre ++ selF q k = selF q 0) ∧ Hid (Below W2.heap.size W2 wr)) (fun _ i _ => 4 - (intOf i).toNat)
  case atStart => exact ⟨0, [], none, 0, hq.n0, rfl, rfl, World.ownsRow_nil _ _ _ _, rfl, Below.refl _ _⟩
  case round =>
    obtain ⟨k, pre, p, c, hk, rfl, rfl, HO, HP, HBW⟩ := hrel
    have hn4 := hq.n4
    by_cases hlt : (k : Int) < q.n
    · have hk4 : k < 4 := by omega
      have HL : Hid (pre.length ≤ 4) := by
        have h1 := selF_len q
        have h2 := congrArg List.length HP.out
        simp only [List.length_append] at h2
        unfold Hid
        omega
      have hp2 := HP.out
      rw [selF_step q hk4] at hp2
      have HGT := Lib.hid (get_any q hq.rg k (by omega))
      rw [get_ok hq ⟨by omega, hlt⟩] at HGT
      simp only [Int.toNat_natCast] at HGT
      have HSN := Lib.hid (rls_snoc q pre k)
      have HLL := Lib.hid (rls_len q pre)
      have hNB : (noneB (q.fld k) = true ∧ q.fld k = (0, 0)) ∨ (noneB (q.fld k) = false ∧ q.fld k ≠ (0, 0)) := by
        by_cases hz : q.fld k = (0, 0)
        · exact .inl ⟨noneB_iff.2 hz, hz⟩
        · exact .inr ⟨noneB_no hz, hz⟩
      obtain ⟨⟨a, b⟩, hsg⟩ : ∃ u : Rf, q.fld k = u := ⟨_, rfl⟩
      rw [hsg] at HGT HSN hNB hp2
      unfold obv obc rfv rfc at HGT
      try simp only at HGT
      have HP2 := Lib.hid hp2
      clear hsg hp2
      obtain ⟨p_0, p_1, p_2, p_3, p_4, p_5, p_6, p_7, p_8, p_9⟩ := (HP_2.out.below HBW.out).ob
      go_wp2_with fail
      refine (HGT.out _).mono ?_
      rintro e u1 ⟨rfl, hb1⟩
      obtain ⟨W3, hW⟩ : ∃ W3, u1.alloc (.cells #[.int .i64 a, .int .u32 b] 24) = W3 := ⟨_, rfl⟩
      obtain ⟨k0, hsz3, hal⟩ := one_box _ _ _ hW
      have hst := bel2 hb1 hal
      have HW3 := Lib.hid hW
      have HR3 := Lib.hid k0
      have HB3 := Lib.hid (bel2 HBW.out hst)
      have HO3 := Lib.hid (own_below HO.out hst)
      clear hW k0 hal hst hb1 p_0 p_1 p_2 p_3 p_4 p_5 p_6 p_7 p_8 p_9 hsz3
      go_upto_region 8 with fail
      rw [HW3.out]
      have r_0 : W3.cell? ⟨u1.heap.size, 0, none⟩ = some (.int .i64 a) := HR3.out.cell 0
      have r_1 : W3.cell? ⟨u1.heap.size, 1, none⟩ = some (.int .u32 b) := HR3.out.cell 1
      rcases hNB with ⟨hnb, hz⟩ | ⟨hnb, hz⟩
      · have hp2 := HP2.out
        rw [hnb, if_pos rfl, List.nil_append] at hp2
        have HQ := Lib.hid hp2
        injection hz with z1 z2
        subst z1 z2
        clear hp2 hnb
        go_wp2
        go_roundw
        case rel => exact ⟨k + 1, pre, p, c, by omega, by go_num, rfl, HO3.out, HQ.out, HB3.out⟩
        case measure => simp [intOf]; omega
      · have hp2 := HP2.out
        rw [hnb, if_neg (by decide)] at hp2
        have HQ : Hid ((pre ++ [k]) ++ selF q (k + 1) = selF q 0) := by unfold Hid; rw [← hp2]; simp
        have hz2 : a ≠ 0 ∨ (a = 0 ∧ b ≠ 0) := by
          by_cases e : a = 0
          · exact .inr ⟨e, fun e2 => hz (by rw [e, e2])⟩
          · exact .inl e
        clear hz hp2 hnb
        rcases hz2 with hz2 | ⟨rfl, hz2⟩
        all_goals
          go_wp2_with (at_builtin; refine wpList_app_r rfl _ _ rfl (_, b) rfl rfl HLL.out (HO3.out.alloc _) (Bk.new W3 24 #[.int .i64 _, .int .u32 b]) ?c1 ?c2 ?_)
          case c1 => rw [HLL.out]; have := HL.out; omega
          case c2 => have := HB3.out.size; simp; omega
          intro p' c' w8 HA
          have HF : Hid (w8.ownsRow W2.heap.size 24 2 (.slice p' (pre.length + 1) c') (rls q (pre ++ [k])).length (rcls (rls q (pre ++ [k]))) ∧ Below W2.heap.size W2 w8) := by
            have h8 := HA.out
            unfold AppR at h8
            rw [← HSN.out] at h8
            refine ⟨h8.1, HB3.out.trans ?_⟩
            have h9 := h8.2.below (B := W2.heap.size) (by have := HB3.out.size; simp; omega) fun g e => (HO3.out.lt g e).1
            exact (((Below.refl W3.heap.size W3).alloc (Nat.le_refl _) _).mono HB3.out.size).trans h9
          clear HA r_0 r_1
          go_wp2
          go_roundw
          case rel => exact ⟨k + 1, pre ++ [k], p', c', by omega, by go_num, by rw [List.length_append]; rfl, by rw [List.length_append]; exact HF.out.1, HQ.out, HF.out.2⟩
          case measure => simp [intOf]; omega
    · have e : rls q pre = refs q := by
        have := HP.out
        rw [selF_tail hq (by omega), List.append_nil] at this
        rw [this]
        exact refs_sel q
      have hO := HO.out
      have el : pre.length = (refs q).length := by rw [← e, rls_len]
      rw [e, el] at hO
      rw [el]
      obtain ⟨W3, rfl⟩ : ∃ W3, W3 = wr := ⟨_, rfl⟩
      have HWT := Lib.hid hO
      have HB23 := Lib.hid HBW.out
      have HP_3 := Lib.hid (HP_2.out.below HBW.out)
      have HE3 := Lib.hid (HE2.out.below HBW.out)
      have HB3 := Lib.hid (bel2 HB2.out HBW.out)
      clear hO e el HO HP HBW hk
      obtain ⟨p_0, p_1, p_2, p_3, p_4, p_5, p_6, p_7, p_8, p_9⟩ := HP_3.out.ob
      go_wp2_with fail
      refine (HNW.out _).mono ?_
      rintro e w4_ ⟨rfl, hb⟩
      obtain ⟨W4, hW⟩ : ∃ W4, (w4_.alloc (.cells (obc (mk q.n q.h)) 27)) = W4 := ⟨_, rfl⟩
      obtain ⟨k0, hsz4, hal⟩ := one_box w4_ _ _ hW
      have hst := bel2 hb hal
      have HP_4 := Lib.hid (HP_3.out.below hst)
      have HX_4 := Lib.hid k0
      have HE4 := Lib.hid (HE3.out.below hst)
      have HB4 := Lib.hid (bel2 HB3.out hst)
      have HW4 := Lib.hid hW
      simp only [obc, mk] at HW4
      clear p_0 p_1 p_2 p_3 p_4 p_5 p_6 p_7 p_8 p_9
      have HB34 := Lib.hid hst
      clear hst hW hb hal k0
      go_upto_region 14 with fail
      rw [HW4.out]
      obtain ⟨p_0, p_1, p_2, p_3, p_4, p_5, p_6, p_7, p_8, p_9⟩ := HP_4.out.ob
      obtain ⟨x_0, x_1, x_2, x_3, x_4, x_5, x_6, x_7, x_8, x_9⟩ := HX_4.out.ob
      go_wp2_with fail
      refine (HRX.out _).mono ?_
      rintro e w5_ ⟨p5, c5, rfl, _, hb⟩
      obtain ⟨W5, hW⟩ : ∃ W5, w5_ = W5 := ⟨_, rfl⟩
      have hst := hb
      rw [hW] at hst
      have HP_5 := Lib.hid (HP_4.out.below hst)
      have HX_5 := Lib.hid (HX_4.out.below hst)
      have HE5 := Lib.hid (HE4.out.below hst)
      have HB5 := Lib.hid (bel2 HB4.out hst)
      have HW5 := Lib.hid hW
      clear p_0 p_1 p_2 p_3 p_4 p_5 p_6 p_7 p_8 p_9 x_0 x_1 x_2 x_3 x_4 x_5 x_6 x_7 x_8 x_9
      have HB45 := Lib.hid hst
      clear hst hW hb
      rw [show w5_ = W5 from HW5.out]
      have HRL5 := Lib.hid ((RdR.of_own HO2.out).below (bel3 HB23.out HB34.out HB45.out))
      have HRT5 := Lib.hid ((RdR.of_own HWT.out).below (bel2 HB34.out HB45.out))
      obtain ⟨p_0, p_1, p_2, p_3, p_4, p_5, p_6, p_7, p_8, p_9⟩ := HP_5.out.ob
      obtain ⟨x_0, x_1, x_2, x_3, x_4, x_5, x_6, x_7, x_8, x_9⟩ := HX_5.out.ob
      go_wp2_with fail
      refine (equal_yes _ _ _ _ _ _ (refs q) _ HRL5.out HRT5.out).mono ?_
      rintro e w6_ ⟨rfl, hb⟩
      obtain ⟨W6, hW⟩ : ∃ W6, w6_ = W6 := ⟨_, rfl⟩
      have hst := hb
      rw [hW] at hst
      have HP_6 := Lib.hid (HP_5.out.below hst)
      have HX_6 := Lib.hid (HX_5.out.below hst)
      have HE6 := Lib.hid (HE5.out.below hst)
      have HB6 := Lib.hid (bel2 HB5.out hst)
      have HW6 := Lib.hid hW
      clear p_0 p_1 p_2 p_3 p_4 p_5 p_6 p_7 p_8 p_9 x_0 x_1 x_2 x_3 x_4 x_5 x_6 x_7 x_8 x_9
      have HB56 := Lib.hid hst
      clear hst hW hb
      rw [show w6_ = W6 from HW6.out]
      have HO6 := Lib.hid (own_below HO2.out (bel2 HB23.out (bel3 HB34.out HB45.out HB56.out)))
      have HWT6 := Lib.hid (own_below HWT.out (bel3 HB34.out HB45.out HB56.out))
      obtain ⟨W7, hcl, hk7⟩ := clear_refs HO6.out 0
      have HK7 := Lib.hid hk7
      have HP_7 : Hid (Bk W7 w1_.heap.size 27 (obc q)) := HP_6.out.kept hk7 fun e => by have := (HO6.out.lt _ e).1; omega
      have HB7 : Hid (Below w.heap.size w W7) := HB6.out.trans (hk7.below HB6.out.size fun k e => by have := (HO6.out.lt _ e).1; have := HB1.out.size; omega)
      have HE7 : Hid (Env W7) := HEw.out.below HB7.out
      have HRT7 : Hid (RdR W7 (.slice p (refs q).length c) (refs q)) := (RdR.of_own HWT6.out).kept hk7 fun g e1 e2 => by have := (HWT6.out.lt _ e1).1; have := (HO2.out.lt _ e2).2; omega
      clear hk7
      go_upto_region 17 with fail
      clear hcl
      obtain ⟨p_0, p_1, p_2, p_3, p_4, p_5, p_6, p_7, p_8, p_9⟩ := HP_7.out.ob
      go_wp2_with fail
      refine (HR.out _).mono ?_
      rintro e w8_ ⟨p8, c8, rfl, ho, hb⟩
      have HO8 := Lib.hid (RdR.of_own ho)
      clear ho
      obtain ⟨W8, hW⟩ : ∃ W8, w8_ = W8 := ⟨_, rfl⟩
      have hst := hb
      rw [hW] at hst
      have HP_8 := Lib.hid (HP_7.out.below hst)
      have HE8 := Lib.hid (HE7.out.below hst)
      have HB8 := Lib.hid (bel2 HB7.out hst)
      have HW8 := Lib.hid hW
      clear p_0 p_1 p_2 p_3 p_4 p_5 p_6 p_7 p_8 p_9
      have HB78 := Lib.hid hst
      clear hst hW hb
      have HRT8 := Lib.hid (HRT7.out.below HB78.out)
      go_wp2_with fail
      refine (equal_yes _ _ _ _ _ _ (refs q) _ HO8.out (by rw [HW8.out]; exact HRT8.out)).mono ?_
      rintro e w9_ ⟨rfl, hb⟩
      have HB9 := Lib.hid (bel2 HB8.out (by rw [← HW8.out]; exact hb))
      have HE9 : Hid (Env w9_) := HEw.out.below HB9.out
      clear hb
      go_wp2_with fail
      refine (works_ok _ HE9.out).mono ?_
      rintro e wz ⟨rfl, hb⟩
      have HBZ := Lib.hid (bel2 HB9.out hb)
      clear hb
      go_wp2
      go_ret
      exact ⟨rfl, HBZ.out⟩

theorem nRef_walk (x : Int) (s g : Four) (w : World) (h1 : 0 ≤ x) (h2 : x ≤ 255) (hs : In8 s) (hg : In32 g) (he : Env w) :
    Calls Tryd.prog 9 #[.int .u8 x, f8 s, f32 g] w fun e w' => e = .returned (.bool true) ∧ Below w.heap.size w w' := by
  obtain ⟨n, rfl⟩ := Int.eq_ofNat_of_zero_le h1
  exact nRef_in n (by omega) s g w hs hg he
end Go.Proofs.YtmbkhkijmfogcaaDoor
