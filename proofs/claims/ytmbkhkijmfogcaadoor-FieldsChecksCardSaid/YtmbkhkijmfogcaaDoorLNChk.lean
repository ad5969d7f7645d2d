/- The walk of FieldsChecks. -/
import Derived.Test.YtmbkhkijmfogcaaDoorNx
import Derived.Deep.Cut
import Derived.Deep.RegionHeld3
namespace Go.Proofs.YtmbkhkijmfogcaaDoor
open Go.RowKit
attribute [local go_sem] eqArr

set_option maxRecDepth 1000000 in
set_option maxHeartbeats 8000000 in
theorem nChk_walk (o : Ob) (n : Int) (h : Bool) (w : World) (hr : Rg o) (hn1 : -9223372036854775808 ≤ n) (hn2 : n ≤ 9223372036854775807) (he : Env w) :
    Calls Tryd.prog 3 #[obv o, .int .i64 n, .bool h] w fun e w' => e = .returned (.bool true) ∧ Below w.heap.size w w' := by
  have HN := Lib.hid (new_any n ⟨hn1, hn2⟩ h)
  have HDN := Lib.hid (dnew_any n ⟨hn1, hn2⟩ h)
  have HC := Lib.hid (check_any o hr)
  have HDC := Lib.hid (dcheck_any o hr)
  have HRF := Lib.hid (refs_ok o)
  have HDRF := Lib.hid (drefs_ok o)
  obtain ⟨⟨N, ne⟩, hN⟩ : ∃ u : Ob × Int, newR n h = u := ⟨_, rfl⟩
  obtain ⟨ck, hck⟩ : ∃ ck, chk o = ck := ⟨_, rfl⟩
  obtain ⟨rs, hrs⟩ : ∃ rs, refs o = rs := ⟨_, rfl⟩
  rw [hN] at HN HDN
  rw [hck] at HC HDC
  rw [hrs] at HRF HDRF
  have EQ : Hid (∀ W p c p' c', RdR W (.slice p rs.length c) rs → RdR W (.slice p' rs.length c') rs → Calls Tryd.prog 15 #[.slice p rs.length c, .slice p' rs.length c'] W fun e w' => e = .returned (.bool true) ∧ Below W.heap.size W w') := fun W p c p' c' h1 h2 => equal_yes _ _ _ _ _ _ rs W h1 h2
  unfold obv obc at HN HDN HC HDC HRF HDRF ⊢
  simp only at HN HDN
  clear hN hck hrs hr
  obtain ⟨W0, hW⟩ : ∃ W0, (w.alloc (.cells (obc o) 27)) = W0 := ⟨_, rfl⟩
  obtain ⟨k0, hsz0, hst⟩ := one_box w _ _ hW
  have HO_0 := Lib.hid k0
  have HE0 := Lib.hid (he.below hst)
  have HB0 := Lib.hid hst
  have HW0 := Lib.hid hW
  simp only [obc] at HW0
  clear hst hW he k0
  go_enter Tryd.func3, Tryd.ntmps3
  go_upto_region 1 with fail
  rw [HW0.out]
  go_wp2_with fail
  refine (HN.out _).mono ?_
  rintro e w1_ ⟨rfl, hb⟩
  obtain ⟨W1, hW⟩ : ∃ W1, (w1_.alloc (.cells (obc N) 27)) = W1 := ⟨_, rfl⟩
  obtain ⟨k0, hsz1, hal⟩ := one_box w1_ _ _ hW
  have hst := bel2 hb hal
  have HO_1 := Lib.hid (HO_0.out.below hst)
  have HA_1 := Lib.hid k0
  have HE1 := Lib.hid (HE0.out.below hst)
  have HB1 := Lib.hid (bel2 HB0.out hst)
  have HW1 := Lib.hid hW
  simp only [obc] at HW1
  clear hst hW hb hal k0
  go_upto_region 2 with fail
  rw [HW1.out]
  go_wp2_with fail
  refine (HDN.out _).mono ?_
  rintro e w2_ ⟨rfl, hb⟩
  obtain ⟨W2, hW⟩ : ∃ W2, (w2_.alloc (.cells (obc N) 31)) = W2 := ⟨_, rfl⟩
  obtain ⟨k0, hsz2, hal⟩ := one_box w2_ _ _ hW
  have hst := bel2 hb hal
  have HO_2 := Lib.hid (HO_1.out.below hst)
  have HA_2 := Lib.hid (HA_1.out.below hst)
  have HB_2 := Lib.hid k0
  have HE2 := Lib.hid (HE1.out.below hst)
  have HB2 := Lib.hid (bel2 HB1.out hst)
  have HW2 := Lib.hid hW
  simp only [obc] at HW2
  clear hst hW hb hal k0
  go_upto_region 3 with fail
  rw [HW2.out]
  obtain ⟨o_0, o_1, o_2, o_3, o_4, o_5, o_6, o_7, o_8, o_9⟩ := HO_2.out.ob
  obtain ⟨W3, hW⟩ : ∃ W3, W2.alloc (.cells (obc o) 31) = W3 := ⟨_, rfl⟩
  obtain ⟨k0, hsz3, hal⟩ := one_box W2 _ _ hW
  rw [hsz2] at k0
  have hst := hal
  have HO_3 := Lib.hid (HO_2.out.below hst)
  have HA_3 := Lib.hid (HA_2.out.below hst)
  have HB_3 := Lib.hid (HB_2.out.below hst)
  have HR_3 := Lib.hid k0
  have HE3 := Lib.hid (HE2.out.below hst)
  have HB3 := Lib.hid (bel2 HB2.out hst)
  have HW3 := Lib.hid hW
  simp only [obc] at HW3
  clear hst hW hal k0
  go_upto_region 4 with fail
  rw [HW3.out]
  clear o_0 o_1 o_2 o_3 o_4 o_5 o_6 o_7 o_8 o_9
  have TC : Hid (∀ W, Below W3.heap.size W3 W → (W.cell? ⟨w1_.heap.size, 0, none⟩ = some (.int .i64 N.n) ∧ W.cell? ⟨w1_.heap.size, 1, none⟩ = some (.int .i64 N.a.1) ∧ W.cell? ⟨w1_.heap.size, 2, none⟩ = some (.int .u32 N.a.2) ∧ W.cell? ⟨w1_.heap.size, 3, none⟩ = some (.int .i64 N.b.1) ∧ W.cell? ⟨w1_.heap.size, 4, none⟩ = some (.int .u32 N.b.2) ∧ W.cell? ⟨w1_.heap.size, 5, none⟩ = some (.int .i64 N.c.1) ∧ W.cell? ⟨w1_.heap.size, 6, none⟩ = some (.int .u32 N.c.2) ∧ W.cell? ⟨w1_.heap.size, 7, none⟩ = some (.int .i64 N.d.1) ∧ W.cell? ⟨w1_.heap.size, 8, none⟩ = some (.int .u32 N.d.2) ∧ W.cell? ⟨w1_.heap.size, 9, none⟩ = some (.bool N.h)) ∧ (W.cell? ⟨w2_.heap.size, 0, none⟩ = some (.int .i64 N.n) ∧ W.cell? ⟨w2_.heap.size, 1, none⟩ = some (.int .i64 N.a.1) ∧ W.cell? ⟨w2_.heap.size, 2, none⟩ = some (.int .u32 N.a.2) ∧ W.cell? ⟨w2_.heap.size, 3, none⟩ = some (.int .i64 N.b.1) ∧ W.cell? ⟨w2_.heap.size, 4, none⟩ = some (.int .u32 N.b.2) ∧ W.cell? ⟨w2_.heap.size, 5, none⟩ = some (.int .i64 N.c.1) ∧ W.cell? ⟨w2_.heap.size, 6, none⟩ = some (.int .u32 N.c.2) ∧ W.cell? ⟨w2_.heap.size, 7, none⟩ = some (.int .i64 N.d.1) ∧ W.cell? ⟨w2_.heap.size, 8, none⟩ = some (.int .u32 N.d.2) ∧ W.cell? ⟨w2_.heap.size, 9, none⟩ = some (.bool N.h)) ∧ (W.cell? ⟨w.heap.size, 0, none⟩ = some (.int .i64 o.n) ∧ W.cell? ⟨w.heap.size, 1, none⟩ = some (.int .i64 o.a.1) ∧ W.cell? ⟨w.heap.size, 2, none⟩ = some (.int .u32 o.a.2) ∧ W.cell? ⟨w.heap.size, 3, none⟩ = some (.int .i64 o.b.1) ∧ W.cell? ⟨w.heap.size, 4, none⟩ = some (.int .u32 o.b.2) ∧ W.cell? ⟨w.heap.size, 5, none⟩ = some (.int .i64 o.c.1) ∧ W.cell? ⟨w.heap.size, 6, none⟩ = some (.int .u32 o.c.2) ∧ W.cell? ⟨w.heap.size, 7, none⟩ = some (.int .i64 o.d.1) ∧ W.cell? ⟨w.heap.size, 8, none⟩ = some (.int .u32 o.d.2) ∧ W.cell? ⟨w.heap.size, 9, none⟩ = some (.bool o.h)) ∧ (W.cell? ⟨w2_.heap.size + 1, 0, none⟩ = some (.int .i64 o.n) ∧ W.cell? ⟨w2_.heap.size + 1, 1, none⟩ = some (.int .i64 o.a.1) ∧ W.cell? ⟨w2_.heap.size + 1, 2, none⟩ = some (.int .u32 o.a.2) ∧ W.cell? ⟨w2_.heap.size + 1, 3, none⟩ = some (.int .i64 o.b.1) ∧ W.cell? ⟨w2_.heap.size + 1, 4, none⟩ = some (.int .u32 o.b.2) ∧ W.cell? ⟨w2_.heap.size + 1, 5, none⟩ = some (.int .i64 o.c.1) ∧ W.cell? ⟨w2_.heap.size + 1, 6, none⟩ = some (.int .u32 o.c.2) ∧ W.cell? ⟨w2_.heap.size + 1, 7, none⟩ = some (.int .i64 o.d.1) ∧ W.cell? ⟨w2_.heap.size + 1, 8, none⟩ = some (.int .u32 o.d.2) ∧ W.cell? ⟨w2_.heap.size + 1, 9, none⟩ = some (.bool o.h))) := fun W h => ⟨(HA_3.out.below h).ob, (HB_3.out.below h).ob, (HO_3.out.below h).ob, (HR_3.out.below h).ob⟩
  have hz0 := TC.out W3 (Below.refl _ _)
  have D0 := Lib.hid (bel_dr W3)
  try simp only [List.append_eq, List.cons_append, List.nil_append]
  go_region_held3 (fun W => (W.cell? ⟨w1_.heap.size, 0, none⟩ = some (.int .i64 N.n) ∧ W.cell? ⟨w1_.heap.size, 1, none⟩ = some (.int .i64 N.a.1) ∧ W.cell? ⟨w1_.heap.size, 2, none⟩ = some (.int .u32 N.a.2) ∧ W.cell? ⟨w1_.heap.size, 3, none⟩ = some (.int .i64 N.b.1) ∧ W.cell? ⟨w1_.heap.size, 4, none⟩ = some (.int .u32 N.b.2) ∧ W.cell? ⟨w1_.heap.size, 5, none⟩ = some (.int .i64 N.c.1) ∧ W.cell? ⟨w1_.heap.size, 6, none⟩ = some (.int .u32 N.c.2) ∧ W.cell? ⟨w1_.heap.size, 7, none⟩ = some (.int .i64 N.d.1) ∧ W.cell? ⟨w1_.heap.size, 8, none⟩ = some (.int .u32 N.d.2) ∧ W.cell? ⟨w1_.heap.size, 9, none⟩ = some (.bool N.h)) ∧ (W.cell? ⟨w2_.heap.size, 0, none⟩ = some (.int .i64 N.n) ∧ W.cell? ⟨w2_.heap.size, 1, none⟩ = some (.int .i64 N.a.1) ∧ W.cell? ⟨w2_.heap.size, 2, none⟩ = some (.int .u32 N.a.2) ∧ W.cell? ⟨w2_.heap.size, 3, none⟩ = some (.int .i64 N.b.1) ∧ W.cell? ⟨w2_.heap.size, 4, none⟩ = some (.int .u32 N.b.2) ∧ W.cell? ⟨w2_.heap.size, 5, none⟩ = some (.int .i64 N.c.1) ∧ W.cell? ⟨w2_.heap.size, 6, none⟩ = some (.int .u32 N.c.2) ∧ W.cell? ⟨w2_.heap.size, 7, none⟩ = some (.int .i64 N.d.1) ∧ W.cell? ⟨w2_.heap.size, 8, none⟩ = some (.int .u32 N.d.2) ∧ W.cell? ⟨w2_.heap.size, 9, none⟩ = some (.bool N.h)) ∧ (W.cell? ⟨w.heap.size, 0, none⟩ = some (.int .i64 o.n) ∧ W.cell? ⟨w.heap.size, 1, none⟩ = some (.int .i64 o.a.1) ∧ W.cell? ⟨w.heap.size, 2, none⟩ = some (.int .u32 o.a.2) ∧ W.cell? ⟨w.heap.size, 3, none⟩ = some (.int .i64 o.b.1) ∧ W.cell? ⟨w.heap.size, 4, none⟩ = some (.int .u32 o.b.2) ∧ W.cell? ⟨w.heap.size, 5, none⟩ = some (.int .i64 o.c.1) ∧ W.cell? ⟨w.heap.size, 6, none⟩ = some (.int .u32 o.c.2) ∧ W.cell? ⟨w.heap.size, 7, none⟩ = some (.int .i64 o.d.1) ∧ W.cell? ⟨w.heap.size, 8, none⟩ = some (.int .u32 o.d.2) ∧ W.cell? ⟨w.heap.size, 9, none⟩ = some (.bool o.h)) ∧ (W.cell? ⟨w2_.heap.size + 1, 0, none⟩ = some (.int .i64 o.n) ∧ W.cell? ⟨w2_.heap.size + 1, 1, none⟩ = some (.int .i64 o.a.1) ∧ W.cell? ⟨w2_.heap.size + 1, 2, none⟩ = some (.int .u32 o.a.2) ∧ W.cell? ⟨w2_.heap.size + 1, 3, none⟩ = some (.int .i64 o.b.1) ∧ W.cell? ⟨w2_.heap.size + 1, 4, none⟩ = some (.int .u32 o.b.2) ∧ W.cell? ⟨w2_.heap.size + 1, 5, none⟩ = some (.int .i64 o.c.1) ∧ W.cell? ⟨w2_.heap.size + 1, 6, none⟩ = some (.int .u32 o.c.2) ∧ W.cell? ⟨w2_.heap.size + 1, 7, none⟩ = some (.int .i64 o.d.1) ∧ W.cell? ⟨w2_.heap.size + 1, 8, none⟩ = some (.int .u32 o.d.2) ∧ W.cell? ⟨w2_.heap.size + 1, 9, none⟩ = some (.bool o.h))) (first | (with_reducible exact hz6) | (with_reducible exact hz5) | (with_reducible exact hz4) | (with_reducible exact hz3) | (with_reducible exact hz2) | (with_reducible exact hz1) | (exact hz0)) (first
    | (go_at_call 18; (with_reducible refine (works_ok _ E5.out).mono ?_); rintro e u6 ⟨rfl, hb6⟩; have HBF := Lib.hid (bel2 S5.out hb6); have hz6 := TC.out u6 HBF.out; clear hb6)
    | (go_at_call 15; (with_reducible refine (EQ.out _ _ _ _ _ R3'.out R4.out).mono ?_); rintro e u5 ⟨rfl, hb5⟩; have S5 := Lib.hid (bel2 S4.out hb5); have E5 := Lib.hid (HE3.out.below S5.out); have hz5 := TC.out u5 S5.out; clear hb5)
    | (go_at_call 17; (with_reducible refine (HDRF.out _).mono ?_); rintro e u4 ⟨q4, c4, rfl, hown, hb4⟩; have R4 := Lib.hid (RdR.of_own hown); have R3' := Lib.hid (R3.out.below hb4); have S4 := Lib.hid (bel2 S3.out hb4); have hz4 := TC.out u4 S4.out; clear hown hb4)
    | (go_at_call 16; (with_reducible refine (HRF.out _).mono ?_); rintro e u3 ⟨q3, c3, rfl, hown, hb3⟩; have R3 := Lib.hid (RdR.of_own hown); have S3 := Lib.hid (bel2 S2.out hb3); have hz3 := TC.out u3 S3.out; clear hown hb3)
    | (go_at_call 14; (with_reducible refine (HDC.out _).mono ?_); rintro e u2 ⟨rfl, hb2⟩; have S2 := Lib.hid (bel2 S1.out hb2); have hz2 := TC.out u2 S2.out; clear hb2)
    | (go_at_call 13; (with_reducible refine (HC.out _).mono ?_); rintro e u1 ⟨rfl, hb1⟩; have S1 := Lib.hid (bel2 D0.out hb1); have hz1 := TC.out u1 S1.out; clear hb1))
  all_goals
    have HBG := Lib.hid (bel2 HB3.out HBF.out)
    clear hz0 hz1 hz2 hz3 hz4 hz5 hz6
    go_wp2
    go_ret
    exact ⟨rfl, HBG.out⟩
end Go.Proofs.YtmbkhkijmfogcaaDoor
