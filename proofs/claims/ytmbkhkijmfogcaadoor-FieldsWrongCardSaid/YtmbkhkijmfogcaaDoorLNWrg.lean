/- The walk of FieldsWrong. -/
import Derived.Test.YtmbkhkijmfogcaaDoorNz
import Derived.Test.YtmbkhkijmfogcaaDoorNw
import Derived.Deep.Cut
import Derived.Deep.CutBlock
namespace Go.Proofs.YtmbkhkijmfogcaaDoor
open Go.RowKit
attribute [local go_sem] eqArr

theorem bk_of {w : World} {g : Nat} {t : TypeId} {cs cs' : Array Value} (h : Bk w g t cs) (e : cs = cs') : Bk w g t cs' := e ▸ h
theorem rr_of {a b : Int} (h1 : -9223372036854775808 ≤ a) (h2 : a ≤ 9223372036854775807) (h3 : 0 ≤ b) (h4 : b ≤ 4294967295) : Rr (a, b) := ⟨h1, h2, h3, h4⟩
theorem rg_of {n : Int} {a b c d : Rf} {h : Bool} (h1 : -9223372036854775808 ≤ n) (h2 : n ≤ 9223372036854775807) (ha : Rr a) (hb : Rr b) (hc : Rr c) (hd : Rr d) : Rg ⟨n, a, b, c, d, h⟩ := ⟨h1, h2, fun j hj => by
  match j, hj with
  | 0, _ => exact ha
  | 1, _ => exact hb
  | 2, _ => exact hc
  | 3, _ => exact hd⟩
theorem bad_n {q : Ob} (hq : Rg q) {n : Int} {h : Bool} (h1 : -9223372036854775808 ≤ n) (h2 : n ≤ 9223372036854775807) : Rg ⟨n, q.a, q.b, q.c, q.d, h⟩ :=
  rg_of h1 h2 (hq.f 0 (by decide)) (hq.f 1 (by decide)) (hq.f 2 (by decide)) (hq.f 3 (by decide))
theorem bad_h {q : Ob} (hq : Poss q) : Rg ⟨max q.n 1, q.a, q.b, q.c, q.d, true⟩ := by
  have := hq.n4
  exact bad_n hq.rg (by omega) (by omega)
instance (r : Rf) : Decidable (Rr r) := by unfold Rr; infer_instance

set_option maxRecDepth 1000000 in
set_option maxHeartbeats 8000000 in
theorem nWrg_in (n : Nat) (hn : n ≤ 255) (s g : Four) (z m : Nat) (hz : z ≤ 255) (hm : m ≤ 65535) (w : World) (hs : In8 s) (hg : In32 g) (he : Env w) :
    Calls Tryd.prog 10 #[.int .u8 (n : Int), f8 s, f32 g, .int .u8 (z : Int), .int .u16 (m : Int)] w fun e w' => e = .returned (.bool true) ∧ Below w.heap.size w w' := by
  have HEw := Lib.hid he
  have HM := Lib.hid (made_ok n hn s g hs hg)
  have hq := made_poss n hs hg
  obtain ⟨q, hqe⟩ : ∃ q, made n s g = q := ⟨_, rfl⟩
  rw [hqe] at HM hq
  have hwm : IntKind.i64.wrap (m : Int) = (m : Int) := IntWalk.i64_in _ (by omega)
  have w5 : IntKind.i64.wrap (5 + (m : Int)) = 5 + (m : Int) := IntWalk.i64_in _ (by omega)
  have w6 : IntKind.i64.wrap (-1 - (m : Int)) = -1 - (m : Int) := IntWalk.i64_in _ (by omega)
  have w7 : IntKind.i64.wrap (256 + (m : Int)) = 256 + (m : Int) := IntWalk.i64_in _ (by omega)
  have w8 : IntKind.i64.wrap (1 + (m : Int) % 255) = 1 + (m : Int) % 255 := IntWalk.i64_in _ (by omega)
  have w9 : IntKind.i64.wrap (1 + (m : Int)) = 1 + (m : Int) := IntWalk.i64_in _ (by omega)
  have w10 : IntKind.i64.wrap (1 + (m : Int) % 4) = 1 + (m : Int) % 4 := IntWalk.i64_in _ (by omega)
  unfold obv obc at HM
  unfold f8 f32
  clear hqe
  obtain ⟨W0, hW⟩ : ∃ W0, ((w.alloc (.cells (f8c s) 56)).alloc (.cells (f32c g) 57)) = W0 := ⟨_, rfl⟩
  obtain ⟨k0, k1, hsz0, hst⟩ := two_boxes w _ _ _ _ hW
  have HS_0 := Lib.hid k0
  have HG_0 := Lib.hid k1
  have HE0 := Lib.hid (he.below hst)
  have HB0 := Lib.hid hst
  have HW0 := Lib.hid hW
  simp only [f8c, f32c] at HW0
  clear hst hW he k0 k1
  go_enter Tryd.func10, Tryd.ntmps10
  go_upto_region 1 with fail
  rw [HW0.out]
  obtain ⟨s_0, s_1, s_2, s_3⟩ := HS_0.out.four8
  obtain ⟨g_0, g_1, g_2, g_3⟩ := HG_0.out.four32
  go_wp2_with fail
  refine (HM.out _).mono ?_
  rintro e w1_ ⟨rfl, hb⟩
  obtain ⟨W1, hW⟩ : ∃ W1, (w1_.alloc (.cells (obc q) 27)) = W1 := ⟨_, rfl⟩
  obtain ⟨k0, hsz1, hal⟩ := one_box w1_ _ _ hW
  have hst := bel2 hb hal
  have HS_1 := Lib.hid (HS_0.out.below hst)
  have HG_1 := Lib.hid (HG_0.out.below hst)
  have HO_1 := Lib.hid k0
  have HE1 := Lib.hid (HE0.out.below hst)
  have HB1 := Lib.hid (bel2 HB0.out hst)
  have HW1 := Lib.hid hW
  simp only [obc] at HW1
  clear s_0 s_1 s_2 s_3 g_0 g_1 g_2 g_3
  clear hst hW hb hal k0
  go_upto_region 2 with fail
  rw [HW1.out]
  obtain ⟨o_0, o_1, o_2, o_3, o_4, o_5, o_6, o_7, o_8, o_9⟩ := HO_1.out.ob
  go_upto_region 3 with fail
  obtain ⟨W2, hW⟩ : ∃ W2, (W1.alloc (.cells (obc q) 27)) = W2 := ⟨_, rfl⟩
  obtain ⟨k0, hsz2, hal⟩ := one_box W1 _ _ hW
  have hst := hal
  have HO_2 := Lib.hid (HO_1.out.below hst)
  have HB_2 := Lib.hid k0
  have HE2 := Lib.hid (HE1.out.below hst)
  have HB2 := Lib.hid (bel2 HB1.out hst)
  have HW2 := Lib.hid hW
  simp only [obc] at HW2
  clear o_0 o_1 o_2 o_3 o_4 o_5 o_6 o_7 o_8 o_9
  clear hst hW hal k0
  rw [HW2.out]
  rw [hsz1] at HB_2
  go_upto_region 4 with fail
  obtain ⟨W3, hW⟩ : ∃ W3, (W2.alloc (.cells (rfc (1, 1)) 24)) = W3 := ⟨_, rfl⟩
  obtain ⟨k0, hsz3, hal⟩ := one_box W2 _ _ hW
  have hst := hal
  have HO_3 := Lib.hid (HO_2.out.below hst)
  have HB_3 := Lib.hid (HB_2.out.below hst)
  have HN_3 := Lib.hid k0
  have HE3 := Lib.hid (HE2.out.below hst)
  have HB3 := Lib.hid (bel2 HB2.out hst)
  have HW3 := Lib.hid hW
  simp only [rfc] at HW3
  clear hst hW hal k0
  rw [HW3.out]
  rw [hsz2, hsz1] at HN_3
  go_upto_block 0 with fail
  obtain ⟨o0, o1, o2, o3, o4, o5, o6, o7, o8, o9⟩ := HB_3.out.ob
  obtain ⟨f0, f1, f2, f3, f4, f5, f6, f7, f8, f9⟩ := HB_3.out.ofz
  obtain ⟨n0, n1⟩ := HN_3.out.rf
  simp only at n0 n1
  go_cut [44] from 45 to 94 (fun _v wx => ∃ bad : Ob, Rg bad ∧ ¬ Poss bad ∧ Hid (Bk wx (w1_.heap.size + 1) 27 (obc bad)) ∧ Hid (Kept (· = w1_.heap.size + 1) W3 wx))
  case first =>
    have hzz : (z : Int) % 7 = 0 ∨ (z : Int) % 7 = 1 ∨ (z : Int) % 7 = 2 ∨ (z : Int) % 7 = 3 ∨ (z : Int) % 7 = 4 ∨ (z : Int) % 7 = 5 ∨ (z : Int) % 7 = 6 := by omega
    rcases hzz with hd | hd | hd | hd | hd | hd | hd
    · go_wp2_with fail
      go_meet
      exact ⟨⟨5 + m, q.a, q.b, q.c, q.d, q.h⟩, bad_n hq.rg (by omega) (by omega), (fun h => by have := h.n4; simp only at this; omega), bk_of ((HB_3.out).put _ _) (by simp [obc]), (Kept.refl _ _).put1 _ _⟩
    · go_wp2_with fail
      go_meet
      exact ⟨⟨-1 - m, q.a, q.b, q.c, q.d, q.h⟩, bad_n hq.rg (by omega) (by omega), (fun h => by have := h.n0; simp only at this; omega), bk_of ((HB_3.out).put _ _) (by simp [obc]), (Kept.refl _ _).put1 _ _⟩
    · go_wp2_with fail
      go_meet
      exact ⟨⟨3, (0, 0), (0, 0), (0, 0), (1, 1), false⟩, rg_of (by decide) (by decide) (by decide) (by decide) (by decide) (by decide), (fun h => absurd (show (1 : Int) = 0 from congrArg Prod.fst (h.em 3 (by decide) (by decide))) (by decide)), bk_of (((((((((((((HB_3.out).put _ _).put _ _).put _ _).put _ _).put _ _).put _ _).put _ _).put _ _).put _ _).put _ _).put _ _).put _ _) (by simp [obc]), ((((((((((((Kept.refl _ _).put1 _ _).put1 _ _).put1 _ _).put1 _ _).put1 _ _).put1 _ _).put1 _ _).put1 _ _).put1 _ _).put1 _ _).put1 _ _).put1 _ _⟩
    · go_wp2_with fail
      go_meet
      exact ⟨⟨max q.n 1, q.a, q.b, q.c, q.d, true⟩, bad_h hq, (fun h => by have := h.hh rfl; simp only at this; omega), bk_of (((HB_3.out).put _ _).put _ _) (by simp [obc]), ((Kept.refl _ _).put1 _ _).put1 _ _⟩
    · go_wp2_with fail
      go_meet
      exact ⟨⟨1, (256 + m, 1), (0, 0), (0, 0), (0, 0), false⟩, rg_of (by decide) (by decide) (rr_of (by omega) (by omega) (by decide) (by decide)) (by decide) (by decide) (by decide), (fun h => by rcases h.ok 0 (by decide) with e | e; exact absurd (show (1 : Int) = 0 from congrArg Prod.snd e) (by decide); have : (256 + (m : Int)) < 256 := e.2.1; omega), bk_of (((((((((((((HB_3.out).put _ _).put _ _).put _ _).put _ _).put _ _).put _ _).put _ _).put _ _).put _ _).put _ _).put _ _).put _ _) (by simp [obc]), ((((((((((((Kept.refl _ _).put1 _ _).put1 _ _).put1 _ _).put1 _ _).put1 _ _).put1 _ _).put1 _ _).put1 _ _).put1 _ _).put1 _ _).put1 _ _).put1 _ _⟩
    · go_wp2_with fail
      go_meet
      exact ⟨⟨1, (-1 - m, 1), (0, 0), (0, 0), (0, 0), false⟩, rg_of (by decide) (by decide) (rr_of (by omega) (by omega) (by decide) (by decide)) (by decide) (by decide) (by decide), (fun h => by rcases h.ok 0 (by decide) with e | e; exact absurd (show (1 : Int) = 0 from congrArg Prod.snd e) (by decide); have : 0 ≤ (-1 - (m : Int)) := e.1; omega), bk_of (((((((((((((HB_3.out).put _ _).put _ _).put _ _).put _ _).put _ _).put _ _).put _ _).put _ _).put _ _).put _ _).put _ _).put _ _) (by simp [obc]), ((((((((((((Kept.refl _ _).put1 _ _).put1 _ _).put1 _ _).put1 _ _).put1 _ _).put1 _ _).put1 _ _).put1 _ _).put1 _ _).put1 _ _).put1 _ _).put1 _ _⟩
    · go_wp2_with fail
      go_meet
      exact ⟨⟨1, (1 + (m : Int) % 255, 0), (0, 0), (0, 0), (0, 0), false⟩, rg_of (by decide) (by decide) (rr_of (by omega) (by omega) (by decide) (by decide)) (by decide) (by decide) (by decide), (fun h => by rcases h.ok 0 (by decide) with e | e; have : (1 + (m : Int) % 255) = 0 := congrArg Prod.fst e; omega; have : (0 : Int) < 0 := e.2.2.1; omega), bk_of (((((((((((((HB_3.out).put _ _).put _ _).put _ _).put _ _).put _ _).put _ _).put _ _).put _ _).put _ _).put _ _).put _ _).put _ _) (by simp [obc]), ((((((((((((Kept.refl _ _).put1 _ _).put1 _ _).put1 _ _).put1 _ _).put1 _ _).put1 _ _).put1 _ _).put1 _ _).put1 _ _).put1 _ _).put1 _ _).put1 _ _⟩
  case rest =>
  obtain ⟨bad, hrg, hnp, HBK, HKP⟩ := hcut
  clear o0 o1 o2 o3 o4 o5 o6 o7 o8 o9 f0 f1 f2 f3 f4 f5 f6 f7 f8 f9 n0 n1
  obtain ⟨W4, rfl⟩ : ∃ W4, W4 = wc := ⟨_, rfl⟩
  have HX_4 := HBK
  have HO_4 : Hid (Bk W4 w1_.heap.size 27 (obc q)) := HO_3.out.kept HKP.out (by omega)
  have HN_4 : Hid (Bk W4 (w1_.heap.size + 2) 24 (rfc (1, 1))) := HN_3.out.kept HKP.out (by omega)
  have hbb := HB1.out.size
  have HB4 : Hid (Below w.heap.size w W4) := HB3.out.trans (HKP.out.below HB3.out.size fun k e => by omega)
  have HE4 : Hid (Env W4) := HEw.out.below HB4.out
  clear hbb HBK HKP HB_3 HN_3 HO_3 HB_2 HO_2
  have HGT := Lib.hid (get_any bad hrg 0 (by omega))
  have HST := Lib.hid (set_any bad hrg 0 (by omega) (1, 1) (rr_of (by decide) (by decide) (by decide) (by decide)))
  have HTX := Lib.hid (text_any bad hrg)
  have HCK := Lib.hid (check_any bad hrg)
  have HRF := Lib.hid (refs_ok bad)
  rw [get_bad hnp] at HGT
  rw [set_bad (.inl hnp)] at HST
  rw [text_bad' hnp] at HTX
  rw [chk_bad hnp] at HCK
  have HIX := Lib.hid (index_run bad)
  have HS0 := Lib.hid (set_any q hq.rg (-1) (by omega) (256 + (m : Int), 1) (rr_of (by omega) (by omega) (by decide) (by decide)))
  rw [set_bad (.inr fun h => by rcases h with e | e; exact absurd (show (1 : Int) = 0 from congrArg Prod.snd e) (by decide); have : (256 + (m : Int)) < 256 := e.2.1; omega)] at HS0
  have HS1 := Lib.hid (set_any q hq.rg (-1) (by omega) (-1 - (m : Int), 1) (rr_of (by omega) (by omega) (by decide) (by decide)))
  rw [set_bad (.inr fun h => by rcases h with e | e; exact absurd (show (1 : Int) = 0 from congrArg Prod.snd e) (by decide); have : 0 ≤ (-1 - (m : Int)) := e.1; omega)] at HS1
  have HS2 := Lib.hid (set_any q hq.rg (-1) (by omega) (1 + (m : Int), 0) (rr_of (by omega) (by omega) (by decide) (by decide)))
  rw [set_bad (.inr fun h => by rcases h with e | e; have : (1 + (m : Int)) = 0 := congrArg Prod.fst e; omega; have : (0 : Int) < 0 := e.2.2.1; omega)] at HS2
  have HN0 := Lib.hid (new_any (5 + (m : Int)) (by omega) false)
  rw [new_bad (fun h => by have : (5 + (m : Int)) ≤ 4 := h.n4; omega)] at HN0
  have HN1 := Lib.hid (new_any (-1 - (m : Int)) (by omega) false)
  rw [new_bad (fun h => by have : 0 ≤ (-1 - (m : Int)) := h.n0; omega)] at HN1
  have HN2 := Lib.hid (new_any (1 + (m : Int) % 4) (by omega) true)
  rw [new_bad (fun h => by have : (1 + (m : Int) % 4) = 0 := h.hh rfl; omega)] at HN2
  unfold obv obc at HGT HST HTX HCK HRF HS0 HS1 HS2 HN0 HN1 HN2
  unfold rfv rfc at HGT HST HS0 HS1 HS2
  unfold NewR at HRF
  simp only [ob0] at HGT HST HS0 HS1 HS2 HN0 HN1 HN2
  simp only at HTX
  obtain ⟨x_0, x_1, x_2, x_3, x_4, x_5, x_6, x_7, x_8, x_9⟩ := HX_4.out.ob
  go_wp2_with fail
  refine (HGT.out _).mono ?_
  rintro e w5_ ⟨rfl, hb⟩
  obtain ⟨W5, hW⟩ : ∃ W5, (w5_.alloc (.cells (rfc (0, 0)) 24)) = W5 := ⟨_, rfl⟩
  obtain ⟨k0, hsz5, hal⟩ := one_box w5_ _ _ hW
  have hst := bel2 hb hal
  have HX_5 := Lib.hid (HX_4.out.below hst)
  have HO_5 := Lib.hid (HO_4.out.below hst)
  have HN_5 := Lib.hid (HN_4.out.below hst)
  have HA_5 := Lib.hid k0
  have HE5 := Lib.hid (HE4.out.below hst)
  have HB5 := Lib.hid (bel2 HB4.out hst)
  have HW5 := Lib.hid hW
  simp only [rfc] at HW5
  clear x_0 x_1 x_2 x_3 x_4 x_5 x_6 x_7 x_8 x_9
  clear hst hW hb hal k0
  go_upto_region 23 with fail
  rw [HW5.out]
  obtain ⟨x_0, x_1, x_2, x_3, x_4, x_5, x_6, x_7, x_8, x_9⟩ := HX_5.out.ob
  obtain ⟨n_0, n_1⟩ := HN_5.out.rf
  go_wp2_with fail
  refine (HST.out _).mono ?_
  rintro e w6_ ⟨rfl, hb⟩
  obtain ⟨W6, hW⟩ : ∃ W6, ((w6_.alloc (.cells (obc ob0) 27)).alloc (.cells (rfc (0, 0)) 24)) = W6 := ⟨_, rfl⟩
  obtain ⟨k0, k1, hsz6, hal⟩ := two_boxes w6_ _ _ _ _ hW
  have hst := bel2 hb hal
  have HX_6 := Lib.hid (HX_5.out.below hst)
  have HO_6 := Lib.hid (HO_5.out.below hst)
  have HN_6 := Lib.hid (HN_5.out.below hst)
  have HA_6 := Lib.hid (HA_5.out.below hst)
  have HC_6 := Lib.hid k0
  have HD_6 := Lib.hid k1
  have HE6 := Lib.hid (HE5.out.below hst)
  have HB6 := Lib.hid (bel2 HB5.out hst)
  have HW6 := Lib.hid hW
  simp only [obc, ob0, rfc] at HW6
  clear x_0 x_1 x_2 x_3 x_4 x_5 x_6 x_7 x_8 x_9 n_0 n_1
  clear hst hW hb hal k0 k1
  go_upto_region 24 with fail
  rw [HW6.out]
  obtain ⟨x_0, x_1, x_2, x_3, x_4, x_5, x_6, x_7, x_8, x_9⟩ := HX_6.out.ob
  go_wp2_with fail
  refine (HTX.out _ HE6.out).mono ?_
  rintro e w7_ ⟨rfl, hb⟩
  obtain ⟨W7, hW⟩ : ∃ W7, w7_ = W7 := ⟨_, rfl⟩
  have hst := hb
  rw [hW] at hst
  have HX_7 := Lib.hid (HX_6.out.below hst)
  have HO_7 := Lib.hid (HO_6.out.below hst)
  have HN_7 := Lib.hid (HN_6.out.below hst)
  have HA_7 := Lib.hid (HA_6.out.below hst)
  have HC_7 := Lib.hid (HC_6.out.below hst)
  have HD_7 := Lib.hid (HD_6.out.below hst)
  have HE7 := Lib.hid (HE6.out.below hst)
  have HB7 := Lib.hid (bel2 HB6.out hst)
  have HW7 := Lib.hid hW
  clear x_0 x_1 x_2 x_3 x_4 x_5 x_6 x_7 x_8 x_9
  clear hst hW hb
  go_upto_region 25 with fail
  rw [HW7.out]
  obtain ⟨x_0, x_1, x_2, x_3, x_4, x_5, x_6, x_7, x_8, x_9⟩ := HX_7.out.ob
  obtain ⟨a_0, a_1⟩ := HA_7.out.rf
  obtain ⟨c_0, c_1, c_2, c_3, c_4, c_5, c_6, c_7, c_8, c_9⟩ := HC_7.out.ob
  obtain ⟨d_0, d_1⟩ := HD_7.out.rf
  simp only [ob0] at c_0 c_1 c_2 c_3 c_4 c_5 c_6 c_7 c_8 c_9
  simp only at a_0 a_1 d_0 d_1
  go_wp2_with fail
  refine (HCK.out _).mono ?_
  rintro e w8_ ⟨rfl, hb⟩
  obtain ⟨W8, hW⟩ : ∃ W8, w8_ = W8 := ⟨_, rfl⟩
  have hst := hb
  rw [hW] at hst
  have HX_8 := Lib.hid (HX_7.out.below hst)
  have HO_8 := Lib.hid (HO_7.out.below hst)
  have HN_8 := Lib.hid (HN_7.out.below hst)
  have HA_8 := Lib.hid (HA_7.out.below hst)
  have HC_8 := Lib.hid (HC_7.out.below hst)
  have HD_8 := Lib.hid (HD_7.out.below hst)
  have HE8 := Lib.hid (HE7.out.below hst)
  have HB8 := Lib.hid (bel2 HB7.out hst)
  have HW8 := Lib.hid hW
  clear hst hW hb
  clear x_0 x_1 x_2 x_3 x_4 x_5 x_6 x_7 x_8 x_9 a_0 a_1 c_0 c_1 c_2 c_3 c_4 c_5 c_6 c_7 c_8 c_9 d_0 d_1
  rw [show w8_ = W8 from HW8.out]
  obtain ⟨x_0, x_1, x_2, x_3, x_4, x_5, x_6, x_7, x_8, x_9⟩ := HX_8.out.ob
  obtain ⟨a_0, a_1⟩ := HA_8.out.rf
  obtain ⟨c_0, c_1, c_2, c_3, c_4, c_5, c_6, c_7, c_8, c_9⟩ := HC_8.out.ob
  obtain ⟨d_0, d_1⟩ := HD_8.out.rf
  simp only [ob0] at c_0 c_1 c_2 c_3 c_4 c_5 c_6 c_7 c_8 c_9
  simp only at a_0 a_1 d_0 d_1
  go_wp2
  clear x_0 x_1 x_2 x_3 x_4 x_5 x_6 x_7 x_8 x_9 a_0 a_1 c_0 c_1 c_2 c_3 c_4 c_5 c_6 c_7 c_8 c_9 d_0 d_1
  have HSL := Lib.hid (selF_len bad)
  go_loopw [22, 148] (fun x i wr => ∃ (k c : Nat), k ≤ 4 ∧ i = .int .i64 k ∧ x = .int .i64 c ∧ Hid (c + (selF bad k).length = (selF bad 0).length) ∧ Hid (Below W8.heap.size W8 wr)) (fun _ i _ => 4 - (intOf i).toNat)
  case atStart => exact ⟨0, 0, by omega, rfl, rfl, by unfold Hid; omega, Below.refl _ _⟩
  case round =>
    obtain ⟨k, c, hk, rfl, rfl, HC, HBW⟩ := hrel
    by_cases hlt : k < 4
    · have hc2 := HC.out
      have hc3 := HSL.out
      rw [selF_step bad hlt, List.length_append] at hc2
      have hwc : IntKind.i64.wrap ((c : Int) + 1) = (c : Int) + 1 := IntWalk.i64_in _ (by omega)
      have hix := HIX.out k hlt
      have hNB : (noneB (bad.fld k) = true ∧ bad.fld k = (0, 0)) ∨ (noneB (bad.fld k) = false ∧ bad.fld k ≠ (0, 0)) := by
        by_cases hz : bad.fld k = (0, 0)
        · exact .inl ⟨noneB_iff.2 hz, hz⟩
        · exact .inr ⟨noneB_no hz, hz⟩
      obtain ⟨⟨a, b⟩, hab⟩ : ∃ u : Rf, bad.fld k = u := ⟨_, rfl⟩
      rw [hab] at hix hNB hc2
      simp only at hix
      have HB9 := Lib.hid (bel2 HBW.out (bup wr (.cells #[.int .i64 a, .int .u32 b] 24)))
      clear hab hc3
      rcases hNB with ⟨hnb, hz⟩ | ⟨hnb, hz⟩
      · rw [hnb, if_pos rfl] at hc2
        have HC2 : Hid (c + (selF bad (k + 1)).length = (selF bad 0).length) := by unfold Hid; simpa using hc2
        injection hz with z1 z2
        subst z1 z2
        clear hc2 hnb
        go_wp2
        go_roundw
        case rel => exact ⟨k + 1, c, by omega, by go_num, rfl, HC2.out, HB9.out⟩
        case measure => simp [intOf]; omega
      · rw [hnb, if_neg (by decide)] at hc2
        have HC2 : Hid (c + 1 + (selF bad (k + 1)).length = (selF bad 0).length) := by unfold Hid; simp at hc2; omega
        have hz2 : a ≠ 0 ∨ (a = 0 ∧ b ≠ 0) := by
          by_cases e : a = 0
          · exact .inr ⟨e, fun e2 => hz (by rw [e, e2])⟩
          · exact .inl e
        clear hz hc2 hnb
        rcases hz2 with hz2 | ⟨rfl, hz2⟩
        all_goals
          go_wp2
          go_roundw
          case rel => exact ⟨k + 1, c + 1, by omega, by go_num, by go_num, HC2.out, HB9.out⟩
          case measure => simp [intOf]; omega
    · obtain rfl : k = 4 := by omega
      have HCN : Hid (c = (refs bad).length) := by
        have h1 := HC.out
        rw [selF_done bad (by omega)] at h1
        unfold Hid
        rw [← refs_sel bad, List.length_map]
        simpa using h1
      obtain ⟨W9, rfl⟩ : ∃ W9, W9 = wr := ⟨_, rfl⟩
      have HX_9 := Lib.hid (HX_8.out.below HBW.out)
      have HO_9 := Lib.hid (HO_8.out.below HBW.out)
      have HB9 := Lib.hid (bel2 HB8.out HBW.out)
      have HE9 := Lib.hid (HE8.out.below HBW.out)
      clear HC HBW
      obtain rfl : c = (refs bad).length := HCN.out
      clear HCN
      go_wp2
      obtain ⟨W10, hW⟩ : ∃ W10, W9.alloc (.cells #[.int .i64 (256 + (m : Int)), .int .u32 1, .int .i64 (-1 - (m : Int)), .int .u32 1, .int .i64 (1 + (m : Int)), .int .u32 0] 24) = W10 := ⟨_, rfl⟩
      obtain ⟨k0, hsz10, hst⟩ := one_box W9 _ _ hW
      rw [hW]
      have HV := Lib.hid k0
      have HX_10 := Lib.hid (HX_9.out.below hst)
      have HO_10 := Lib.hid (HO_9.out.below hst)
      have HE10 := Lib.hid (HE9.out.below hst)
      have HB10 := Lib.hid (bel2 HB9.out hst)
      clear hW k0 hst hsz10 HX_9 HO_9 HE9 HB9
      go_loopw [168] (fun i wr => ∃ k : Nat, k ≤ 3 ∧ i = .int .i64 k ∧ Hid (Below W10.heap.size W10 wr)) (fun i _ => 3 - (intOf i).toNat)
      case atStart => exact ⟨0, by omega, rfl, Below.refl _ _⟩
      case round =>
        obtain ⟨k, hk, rfl, HBW⟩ := hrel
        have hk3 : k = 0 ∨ k = 1 ∨ k = 2 ∨ k = 3 := by omega
        have hv := HV.out.below HBW.out
        rcases hk3 with rfl | rfl | rfl | rfl
        · have v0 : wr.cell? ⟨W9.heap.size, 0, none⟩ = some (.int .i64 (256 + (m : Int))) := hv.cell 0
          have v1 : wr.cell? ⟨W9.heap.size, 1, none⟩ = some (.int .u32 1) := hv.cell 1
          clear hv
          go_upto_region 37 with fail
          obtain ⟨WR, hW⟩ : ∃ WR, wr.alloc (.cells #[.int .i64 (256 + (m : Int)), .int .u32 1] 24) = WR := ⟨_, rfl⟩
          obtain ⟨k0, hszR, hst⟩ := one_box wr _ _ hW
          rw [hW]
          have HBR := Lib.hid (bel2 HBW.out hst)
          have r0 : WR.cell? ⟨wr.heap.size, 0, none⟩ = some (.int .i64 (256 + (m : Int))) := k0.cell 0
          have r1 : WR.cell? ⟨wr.heap.size, 1, none⟩ = some (.int .u32 1) := k0.cell 1
          obtain ⟨o0, o1, o2, o3, o4, o5, o6, o7, o8, o9⟩ := (HO_10.out.below HBR.out).ob
          clear hW k0 hst v0 v1
          go_wp2_with fail
          refine (HS0.out _).mono ?_
          rintro e u1 ⟨rfl, hb1⟩
          have HBN := Lib.hid (bel2 HBR.out (bel2 hb1 (bup2 u1 (.cells #[.int .i64 0, .int .i64 0, .int .u32 0, .int .i64 0, .int .u32 0, .int .i64 0, .int .u32 0, .int .i64 0, .int .u32 0, .bool false] 27) (.cells #[.int .i64 0, .int .u32 0] 24))))
          clear hb1 r0 r1 o0 o1 o2 o3 o4 o5 o6 o7 o8 o9
          go_wp2
          go_roundw
          case rel =>
            refine ⟨_, _, _, _, _, _, _, _, _, _, _, _, _, _, _, _, _, _, _, ?_, rfl⟩
            exact ⟨1, by omega, by go_num, HBN.out⟩
          case measure => simp [intOf]
        · have v0 : wr.cell? ⟨W9.heap.size, 2, none⟩ = some (.int .i64 (-1 - (m : Int))) := hv.cell 2
          have v1 : wr.cell? ⟨W9.heap.size, 3, none⟩ = some (.int .u32 1) := hv.cell 3
          clear hv
          go_upto_region 37 with fail
          obtain ⟨WR, hW⟩ : ∃ WR, wr.alloc (.cells #[.int .i64 (-1 - (m : Int)), .int .u32 1] 24) = WR := ⟨_, rfl⟩
          obtain ⟨k0, hszR, hst⟩ := one_box wr _ _ hW
          rw [hW]
          have HBR := Lib.hid (bel2 HBW.out hst)
          have r0 : WR.cell? ⟨wr.heap.size, 0, none⟩ = some (.int .i64 (-1 - (m : Int))) := k0.cell 0
          have r1 : WR.cell? ⟨wr.heap.size, 1, none⟩ = some (.int .u32 1) := k0.cell 1
          obtain ⟨o0, o1, o2, o3, o4, o5, o6, o7, o8, o9⟩ := (HO_10.out.below HBR.out).ob
          clear hW k0 hst v0 v1
          go_wp2_with fail
          refine (HS1.out _).mono ?_
          rintro e u1 ⟨rfl, hb1⟩
          have HBN := Lib.hid (bel2 HBR.out (bel2 hb1 (bup2 u1 (.cells #[.int .i64 0, .int .i64 0, .int .u32 0, .int .i64 0, .int .u32 0, .int .i64 0, .int .u32 0, .int .i64 0, .int .u32 0, .bool false] 27) (.cells #[.int .i64 0, .int .u32 0] 24))))
          clear hb1 r0 r1 o0 o1 o2 o3 o4 o5 o6 o7 o8 o9
          go_wp2
          go_roundw
          case rel =>
            refine ⟨_, _, _, _, _, _, _, _, _, _, _, _, _, _, _, _, _, _, _, ?_, rfl⟩
            exact ⟨2, by omega, by go_num, HBN.out⟩
          case measure => simp [intOf]
        · have v0 : wr.cell? ⟨W9.heap.size, 4, none⟩ = some (.int .i64 (1 + (m : Int))) := hv.cell 4
          have v1 : wr.cell? ⟨W9.heap.size, 5, none⟩ = some (.int .u32 0) := hv.cell 5
          clear hv
          go_upto_region 37 with fail
          obtain ⟨WR, hW⟩ : ∃ WR, wr.alloc (.cells #[.int .i64 (1 + (m : Int)), .int .u32 0] 24) = WR := ⟨_, rfl⟩
          obtain ⟨k0, hszR, hst⟩ := one_box wr _ _ hW
          rw [hW]
          have HBR := Lib.hid (bel2 HBW.out hst)
          have r0 : WR.cell? ⟨wr.heap.size, 0, none⟩ = some (.int .i64 (1 + (m : Int))) := k0.cell 0
          have r1 : WR.cell? ⟨wr.heap.size, 1, none⟩ = some (.int .u32 0) := k0.cell 1
          obtain ⟨o0, o1, o2, o3, o4, o5, o6, o7, o8, o9⟩ := (HO_10.out.below HBR.out).ob
          clear hW k0 hst v0 v1
          go_wp2_with fail
          refine (HS2.out _).mono ?_
          rintro e u1 ⟨rfl, hb1⟩
          have HBN := Lib.hid (bel2 HBR.out (bel2 hb1 (bup2 u1 (.cells #[.int .i64 0, .int .i64 0, .int .u32 0, .int .i64 0, .int .u32 0, .int .i64 0, .int .u32 0, .int .i64 0, .int .u32 0, .bool false] 27) (.cells #[.int .i64 0, .int .u32 0] 24))))
          clear hb1 r0 r1 o0 o1 o2 o3 o4 o5 o6 o7 o8 o9
          go_wp2
          go_roundw
          case rel =>
            refine ⟨_, _, _, _, _, _, _, _, _, _, _, _, _, _, _, _, _, _, _, ?_, rfl⟩
            exact ⟨3, by omega, by go_num, HBN.out⟩
          case measure => simp [intOf]
        · clear hv
          obtain ⟨W11, rfl⟩ : ∃ W11, W11 = wr := ⟨_, rfl⟩
          have HX_11 := Lib.hid (HX_10.out.below HBW.out)
          have HE11 := Lib.hid (HE10.out.below HBW.out)
          have HB11 := Lib.hid (bel2 HB10.out HBW.out)
          clear HBW
          go_wp2_with fail
          refine (HN0.out _).mono ?_
          rintro e w12_ ⟨rfl, hb⟩
          obtain ⟨W12, hW⟩ : ∃ W12, (w12_.alloc (.cells (obc ob0) 27)) = W12 := ⟨_, rfl⟩
          obtain ⟨k0, hsz12, hal⟩ := one_box w12_ _ _ hW
          have hst := bel2 hb hal
          have HX_12 := Lib.hid (HX_11.out.below hst)
          have HU_12 := Lib.hid k0
          have HE12 := Lib.hid (HE11.out.below hst)
          have HB12 := Lib.hid (bel2 HB11.out hst)
          have HW12 := Lib.hid hW
          simp only [obc, ob0] at HW12
          clear hst hW hb hal k0
          go_upto_region 42 with fail
          rw [HW12.out]
          go_wp2_with fail
          refine (HN1.out _).mono ?_
          rintro e w13_ ⟨rfl, hb⟩
          obtain ⟨W13, hW⟩ : ∃ W13, (w13_.alloc (.cells (obc ob0) 27)) = W13 := ⟨_, rfl⟩
          obtain ⟨k0, hsz13, hal⟩ := one_box w13_ _ _ hW
          have hst := bel2 hb hal
          have HX_13 := Lib.hid (HX_12.out.below hst)
          have HV_13 := Lib.hid k0
          have HE13 := Lib.hid (HE12.out.below hst)
          have HB13 := Lib.hid (bel2 HB12.out hst)
          have HW13 := Lib.hid hW
          simp only [obc, ob0] at HW13
          clear hst hW hb hal k0
          go_upto_region 43 with fail
          rw [HW13.out]
          go_wp2_with fail
          refine (HN2.out _).mono ?_
          rintro e w14_ ⟨rfl, hb⟩
          obtain ⟨W14, hW⟩ : ∃ W14, (w14_.alloc (.cells (obc ob0) 27)) = W14 := ⟨_, rfl⟩
          obtain ⟨k0, hsz14, hal⟩ := one_box w14_ _ _ hW
          have hst := bel2 hb hal
          have HX_14 := Lib.hid (HX_13.out.below hst)
          have HY_14 := Lib.hid k0
          have HE14 := Lib.hid (HE13.out.below hst)
          have HB14 := Lib.hid (bel2 HB13.out hst)
          have HW14 := Lib.hid hW
          simp only [obc, ob0] at HW14
          clear hst hW hb hal k0
          go_upto_region 44 with fail
          rw [HW14.out]
          obtain ⟨x_0, x_1, x_2, x_3, x_4, x_5, x_6, x_7, x_8, x_9⟩ := HX_14.out.ob
          go_wp2_with fail
          refine (HRF.out _).mono ?_
          rintro e w15_ ⟨p5, c5, rfl, _, hb⟩
          obtain ⟨W15, hW⟩ : ∃ W15, w15_ = W15 := ⟨_, rfl⟩
          have hst := hb
          rw [hW] at hst
          have HX_15 := Lib.hid (HX_14.out.below hst)
          have HE15 := Lib.hid (HE14.out.below hst)
          have HB15 := Lib.hid (bel2 HB14.out hst)
          have HW15 := Lib.hid hW
          clear x_0 x_1 x_2 x_3 x_4 x_5 x_6 x_7 x_8 x_9
          clear hst hW hb
          rw [show w15_ = W15 from HW15.out]
          go_wp2_with fail
          refine (works_ok _ HE15.out).mono ?_
          rintro e wz ⟨rfl, hb⟩
          have HBZ := Lib.hid (bel2 HB15.out hb)
          clear hb
          go_wp2
          go_ret
          exact ⟨rfl, HBZ.out⟩

theorem nWrg_walk (x : Int) (s g : Four) (z m : Int) (w : World) (h1 : 0 ≤ x) (h2 : x ≤ 255) (hs : In8 s) (hg : In32 g) (z1 : 0 ≤ z) (z2 : z ≤ 255) (m1 : 0 ≤ m) (m2 : m ≤ 65535) (he : Env w) :
    Calls Tryd.prog 10 #[.int .u8 x, f8 s, f32 g, .int .u8 z, .int .u16 m] w fun e w' => e = .returned (.bool true) ∧ Below w.heap.size w w' := by
  obtain ⟨n, rfl⟩ := Int.eq_ofNat_of_zero_le h1
  obtain ⟨zn, rfl⟩ := Int.eq_ofNat_of_zero_le z1
  obtain ⟨mn, rfl⟩ := Int.eq_ofNat_of_zero_le m1
  exact nWrg_in n (by omega) s g zn mn (by omega) (by omega) w hs hg he
end Go.Proofs.YtmbkhkijmfogcaaDoor
