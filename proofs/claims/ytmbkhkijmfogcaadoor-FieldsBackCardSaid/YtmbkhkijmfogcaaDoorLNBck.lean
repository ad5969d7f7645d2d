/- The walk of FieldsBack. -/
import Derived.Test.YtmbkhkijmfogcaaDoorLNBch
import Derived.Deep.Cut
import Derived.Deep.RegionHeld3
namespace Go.Proofs.YtmbkhkijmfogcaaDoor
open Go.RowKit
attribute [local go_sem] eqArr

set_option maxRecDepth 1000000 in
set_option maxHeartbeats 8000000 in
theorem nBck_obj (n : Nat) (hn : n ≤ 255) (s g : Four) (w : World) (hs : In8 s) (hg : In32 g) (hqh : (made n s g).h = false) (he : Env w) :
    Calls Tryd.prog 7 #[.int .u8 (n : Int), f8 s, f32 g] w fun e w' => e = .returned (.bool true) ∧ Below w.heap.size w w' := by
  have HM := Lib.hid (made_ok n hn s g hs hg)
  have hq := made_poss n hs hg
  obtain ⟨q, hqe⟩ : ∃ q, made n s g = q := ⟨_, rfl⟩
  rw [hqe] at HM hq hqh
  have HT := Lib.hid (text_any q hq.rg)
  rw [text_ok' hq] at HT
  obtain ⟨t, ht⟩ : ∃ t : ByteArray, t.data.toList = otxt q := ⟨⟨(otxt q).toArray⟩, rfl⟩
  have hzt := Lib.size_eq t
  rw [ht] at hzt
  have hl := otxt_len hq
  have HPA := Lib.hid (parse_any t (by omega))
  rw [ht, parse_ok' hq] at HPA
  simp only at HT HPA
  rw [show (⟨(otxt q).toArray⟩ : ByteArray) = t from (str_eq ht).symm] at HT
  have hn0 := hq.n0
  have hn4 := hq.n4
  obtain ⟨M, hqM⟩ : ∃ M : Nat, q.n = M := ⟨q.n.toNat, by omega⟩
  obtain ⟨P, hPL, hPW, hSP⟩ := split_obj hq t ht hqM
  have HSPL := Lib.hid hSP
  have HPL := Lib.hid hPL
  obtain ⟨p0, hp0⟩ : ∃ x, P[0]? = some x := ⟨_, List.getElem?_eq_getElem (by omega)⟩
  have HP0 : Hid (p0.data.toList = headW q) := by
    have := congrArg (·[0]?) hPW
    simp only [List.getElem?_map, hp0, Option.map_some, List.getElem?_cons_zero] at this
    exact Option.some.inj this
  have HWD : Hid (∀ (k : Nat) (x : ByteArray), k < M → P[k + 1]? = some x → x.data.toList = rtxt (q.fld k)) := fun k x hk hx => by
    have := congrArg (·[k + 1]?) hPW
    simp only [List.getElem?_map, hx, Option.map_some, List.getElem?_cons_succ] at this
    rw [words_at (by omega) (by omega)] at this
    exact Option.some.inj this
  have HC := Lib.hid (check_any q hq.rg)
  rw [chk_ok hq] at HC
  have hM4 : M ≤ 4 := by omega
  unfold obv obc at HM HT HPA HC
  unfold f8 f32
  have HQM := Lib.hid hqM
  have HQH := Lib.hid hqh
  clear hqe hPW hSP hPL hzt hl ht hn0 hn4 hqM hqh
  obtain ⟨W0, hW⟩ : ∃ W0, ((w.alloc (.cells (f8c s) 56)).alloc (.cells (f32c g) 57)) = W0 := ⟨_, rfl⟩
  obtain ⟨k0, k1, hsz0, hst⟩ := two_boxes w _ _ _ _ hW
  have HS_0 := Lib.hid k0
  have HG_0 := Lib.hid k1
  have HE0 := Lib.hid (he.below hst)
  have HB0 := Lib.hid hst
  have HW0 := Lib.hid hW
  simp only [f8c, f32c] at HW0
  clear hst hW he k0 k1
  go_enter Tryd.func7, Tryd.ntmps7
  go_upto_region 1 with fail
  rw [HW0.out]
  obtain ⟨s_0, s_1, s_2, s_3⟩ := HS_0.out.four8
  obtain ⟨g_0, g_1, g_2, g_3⟩ := HG_0.out.four32
  go_wp2_with fail
  refine (HM.out _).mono ?_
  rintro e w1_ ⟨rfl, hb⟩
  obtain ⟨W1, hW⟩ : ∃ W1, (w1_.alloc (.cells (obc q) 27)) = W1 := ⟨_, rfl⟩
  obtain ⟨k0, hsz1, hal⟩ := one_box w1_ _ _ hW
  have hst := bel2 hb hal
  have HS_1 := Lib.hid (HS_0.out.below hst)
  have HG_1 := Lib.hid (HG_0.out.below hst)
  have HO_1 := Lib.hid k0
  have HE1 := Lib.hid (HE0.out.below hst)
  have HB1 := Lib.hid (bel2 HB0.out hst)
  have HW1 := Lib.hid hW
  simp only [obc] at HW1
  clear s_0 s_1 s_2 s_3 g_0 g_1 g_2 g_3
  clear hst hW hb hal k0
  go_upto_region 2 with fail
  rw [HW1.out]
  obtain ⟨o_0, o_1, o_2, o_3, o_4, o_5, o_6, o_7, o_8, o_9⟩ := HO_1.out.ob
  go_wp2_with fail
  refine (HT.out _ HE1.out).mono ?_
  rintro e w2_ ⟨rfl, hb⟩
  obtain ⟨W2, hW⟩ : ∃ W2, w2_ = W2 := ⟨_, rfl⟩
  have hst := hb
  rw [hW] at hst
  have HO_2 := Lib.hid (HO_1.out.below hst)
  have HE2 := Lib.hid (HE1.out.below hst)
  have HB2 := Lib.hid (bel2 HB1.out hst)
  have HW2 := Lib.hid hW
  clear o_0 o_1 o_2 o_3 o_4 o_5 o_6 o_7 o_8 o_9
  clear hst hW hb
  go_upto_region 3 with fail
  rw [HW2.out]
  go_wp2_with fail
  refine (HPA.out _ HE2.out).mono ?_
  rintro e w3_ ⟨rfl, hb⟩
  obtain ⟨W3, hW⟩ : ∃ W3, (w3_.alloc (.cells (obc q) 27)) = W3 := ⟨_, rfl⟩
  obtain ⟨k0, hsz3, hal⟩ := one_box w3_ _ _ hW
  have hst := bel2 hb hal
  have HO_3 := Lib.hid (HO_2.out.below hst)
  have HB_3 := Lib.hid k0
  have HE3 := Lib.hid (HE2.out.below hst)
  have HB3 := Lib.hid (bel2 HB2.out hst)
  have HW3 := Lib.hid hW
  simp only [obc] at HW3
  clear hst hW hb hal k0
  go_upto_region 4 with fail
  rw [HW3.out]
  go_wp2_with fail
  refine (HSPL.out _ HE3.out).mono ?_
  rintro e w4_ ⟨rfl, rfl⟩
  obtain ⟨W4, hW⟩ : ∃ W4, W3.alloc (.cells (P.map Value.string).toArray 9) = W4 := ⟨_, rfl⟩
  obtain ⟨k0, hsz4, hst⟩ := one_box W3 _ _ hW
  rw [hsz3] at k0
  have HY := Lib.hid k0
  have HO_4 := Lib.hid (HO_3.out.below hst)
  have HB_4 := Lib.hid (HB_3.out.below hst)
  have HE4 := Lib.hid (HE3.out.below hst)
  have HB4 := Lib.hid (bel2 HB3.out hst)
  have HW4 := Lib.hid hW
  have HY0 : Hid (W4.cell? ⟨w3_.heap.size + 1, 0, none⟩ = some (.string p0)) := (k0.cell 0).trans (by rw [List.getElem?_toArray, List.getElem?_map, hp0]; rfl)
  clear hW k0 hst hsz4
  go_upto_region 5 with fail
  rw [HW4.out]
  have hn1 : IntKind.i64.wrap (1 + q.n) = (M : Int) + 1 := by rw [HQM.out]; exact (IntWalk.i64_in _ (by omega)).trans (by omega)
  have hn2 : IntKind.i64.wrap ((M : Int) + 1) = (M : Int) + 1 := IntWalk.i64_in _ (by omega)
  have hn3 : IntKind.i64.wrap (M : Int) = (M : Int) := IntWalk.i64_in _ (by omega)
  have hh := HQH.out
  obtain rfl : p0 = ⟨#[111, 98, 106, 101, 99, 116]⟩ := str_eq (by rw [HP0.out]; unfold headW; rw [hh]; rfl)
  have TC : Hid (∀ W, Below W4.heap.size W4 W → (W.cell? ⟨w1_.heap.size, 0, none⟩ = some (.int .i64 q.n) ∧ W.cell? ⟨w1_.heap.size, 1, none⟩ = some (.int .i64 q.a.1) ∧ W.cell? ⟨w1_.heap.size, 2, none⟩ = some (.int .u32 q.a.2) ∧ W.cell? ⟨w1_.heap.size, 3, none⟩ = some (.int .i64 q.b.1) ∧ W.cell? ⟨w1_.heap.size, 4, none⟩ = some (.int .u32 q.b.2) ∧ W.cell? ⟨w1_.heap.size, 5, none⟩ = some (.int .i64 q.c.1) ∧ W.cell? ⟨w1_.heap.size, 6, none⟩ = some (.int .u32 q.c.2) ∧ W.cell? ⟨w1_.heap.size, 7, none⟩ = some (.int .i64 q.d.1) ∧ W.cell? ⟨w1_.heap.size, 8, none⟩ = some (.int .u32 q.d.2) ∧ W.cell? ⟨w1_.heap.size, 9, none⟩ = some (.bool false)) ∧ (W.cell? ⟨w3_.heap.size, 0, none⟩ = some (.int .i64 q.n) ∧ W.cell? ⟨w3_.heap.size, 1, none⟩ = some (.int .i64 q.a.1) ∧ W.cell? ⟨w3_.heap.size, 2, none⟩ = some (.int .u32 q.a.2) ∧ W.cell? ⟨w3_.heap.size, 3, none⟩ = some (.int .i64 q.b.1) ∧ W.cell? ⟨w3_.heap.size, 4, none⟩ = some (.int .u32 q.b.2) ∧ W.cell? ⟨w3_.heap.size, 5, none⟩ = some (.int .i64 q.c.1) ∧ W.cell? ⟨w3_.heap.size, 6, none⟩ = some (.int .u32 q.c.2) ∧ W.cell? ⟨w3_.heap.size, 7, none⟩ = some (.int .i64 q.d.1) ∧ W.cell? ⟨w3_.heap.size, 8, none⟩ = some (.int .u32 q.d.2) ∧ W.cell? ⟨w3_.heap.size, 9, none⟩ = some (.bool false)) ∧ W.cell? ⟨w3_.heap.size + 1, 0, none⟩ = some (.string ⟨#[111, 98, 106, 101, 99, 116]⟩)) := fun W h => by
    have h1 := (HO_4.out.below h).ob
    have h2 := (HB_4.out.below h).ob
    rw [hh] at h1 h2
    exact ⟨h1, h2, cell_stays h HY0.out⟩
  have hz0 := TC.out W4 (Below.refl _ _)
  have D0 := Lib.hid (bel_dr W4)
  have HCC := HC
  rw [hh] at HCC
  clear HC hh
  try simp only [List.append_eq, List.cons_append, List.nil_append]
  go_region_held3 (fun W => (W.cell? ⟨w1_.heap.size, 0, none⟩ = some (.int .i64 q.n) ∧ W.cell? ⟨w1_.heap.size, 1, none⟩ = some (.int .i64 q.a.1) ∧ W.cell? ⟨w1_.heap.size, 2, none⟩ = some (.int .u32 q.a.2) ∧ W.cell? ⟨w1_.heap.size, 3, none⟩ = some (.int .i64 q.b.1) ∧ W.cell? ⟨w1_.heap.size, 4, none⟩ = some (.int .u32 q.b.2) ∧ W.cell? ⟨w1_.heap.size, 5, none⟩ = some (.int .i64 q.c.1) ∧ W.cell? ⟨w1_.heap.size, 6, none⟩ = some (.int .u32 q.c.2) ∧ W.cell? ⟨w1_.heap.size, 7, none⟩ = some (.int .i64 q.d.1) ∧ W.cell? ⟨w1_.heap.size, 8, none⟩ = some (.int .u32 q.d.2) ∧ W.cell? ⟨w1_.heap.size, 9, none⟩ = some (.bool false)) ∧ (W.cell? ⟨w3_.heap.size, 0, none⟩ = some (.int .i64 q.n) ∧ W.cell? ⟨w3_.heap.size, 1, none⟩ = some (.int .i64 q.a.1) ∧ W.cell? ⟨w3_.heap.size, 2, none⟩ = some (.int .u32 q.a.2) ∧ W.cell? ⟨w3_.heap.size, 3, none⟩ = some (.int .i64 q.b.1) ∧ W.cell? ⟨w3_.heap.size, 4, none⟩ = some (.int .u32 q.b.2) ∧ W.cell? ⟨w3_.heap.size, 5, none⟩ = some (.int .i64 q.c.1) ∧ W.cell? ⟨w3_.heap.size, 6, none⟩ = some (.int .u32 q.c.2) ∧ W.cell? ⟨w3_.heap.size, 7, none⟩ = some (.int .i64 q.d.1) ∧ W.cell? ⟨w3_.heap.size, 8, none⟩ = some (.int .u32 q.d.2) ∧ W.cell? ⟨w3_.heap.size, 9, none⟩ = some (.bool false)) ∧ W.cell? ⟨w3_.heap.size + 1, 0, none⟩ = some (.string ⟨#[111, 98, 106, 101, 99, 116]⟩)) (first | (with_reducible exact hz1) | (exact hz0)) (first
    | (go_at_call 13; (with_reducible refine (HCC.out _).mono ?_); rintro e u1 ⟨rfl, hb1⟩; have S1 := Lib.hid (bel2 D0.out hb1); have hz1 := TC.out u1 S1.out; clear hb1))
  all_goals
    have HEu : Hid (Env u1) := HE4.out.below S1.out
    have HBu := Lib.hid (bel2 HB4.out S1.out)
    clear hz0 hz1
    go_wp2
    all_goals
      go_loopw [78] (fun i wr => ∃ k : Nat, k ≤ M ∧ i = .int .i64 k ∧ Hid (Below u1.heap.size u1 wr)) (fun i _ => M - (intOf i).toNat)
      case atStart => exact ⟨0, by omega, rfl, Below.refl _ _⟩
      case round =>
        obtain ⟨k, hk, rfl, HBW⟩ := hrel
        by_cases hlt : k < M
        · first
          | (exfalso; omega)
          | (have hk4 : k < 4 := by omega
             have hk0 : (0 : Int) ≤ (k : Int) := by omega
             have hk5 : (k : Int) < 4 := by omega
             obtain ⟨x, hx⟩ : ∃ x, P[k + 1]? = some x := ⟨_, List.getElem?_eq_getElem (by rw [HPL.out]; omega)⟩
             have hxt := HWD.out k x hlt hx
             have hcx := ((HY.out.below (bel2 S1.out HBW.out)).cell (k + 1)).trans (show (P.map Value.string).toArray[k + 1]? = some (.string x) by rw [List.getElem?_toArray, List.getElem?_map, hx]; rfl)
             rw [show k + 1 = 1 + k by omega] at hcx
             have z0 := ((HO_4.out.below (bel2 S1.out HBW.out)).cell (1 + k * 2)).trans (obc_s q k hk4)
             have z1 := ((HO_4.out.below (bel2 S1.out HBW.out)).cell (1 + k * 2 + 1)).trans (obc_g q k hk4)
             obtain ⟨⟨a, b⟩, hab⟩ : ∃ r : Rf, q.fld k = r := ⟨_, rfl⟩
             rw [hab] at z0 z1 hxt
             simp only at z0 z1
             clear hx hab
             by_cases hz : ((a, b) : Rf) = (0, 0)
             · injection hz with e1 e2
               subst e1 e2
               have hx2 : x = ⟨#[45]⟩ := str_eq hxt
               subst hx2
               clear hxt
               go_wp2
               go_roundw
               case rel => exact ⟨k + 1, by omega, by go_num, HBW.out⟩
               case measure => simp [intOf]; omega
             · have hx2 : (x.toList == [45]) = false := by
                 rw [beq_eq_false_iff_ne, ByteArray.toList_eq, hxt]
                 exact fun e => hz (rtxt_dash e)
               have hz2 : a ≠ 0 ∨ (a = 0 ∧ b ≠ 0) := by
                 by_cases e : a = 0
                 · exact .inr ⟨e, fun e2 => hz (by rw [e, e2])⟩
                 · exact .inl e
               clear hz hxt
               rcases hz2 with hz2 | ⟨rfl, hz2⟩
               all_goals
                 go_wp2
                 go_roundw
                 case rel => exact ⟨k + 1, by omega, by go_num, HBW.out⟩
                 case measure => simp [intOf]; omega)
        · have HE9 := Lib.hid (HEu.out.below HBW.out)
          have HB9 := Lib.hid (bel2 HBu.out HBW.out)
          go_wp2_with fail
          refine (works_ok _ HE9.out).mono ?_
          rintro e wz ⟨rfl, hb⟩
          have HBZ := Lib.hid (bel2 HB9.out hb)
          clear hb
          go_wp2
          go_ret
          exact ⟨rfl, HBZ.out⟩

theorem nBck_walk (x : Int) (s g : Four) (w : World) (h1 : 0 ≤ x) (h2 : x ≤ 255) (hs : In8 s) (hg : In32 g) (he : Env w) :
    Calls Tryd.prog 7 #[.int .u8 x, f8 s, f32 g] w fun e w' => e = .returned (.bool true) ∧ Below w.heap.size w w' := by
  obtain ⟨n, rfl⟩ := Int.eq_ofNat_of_zero_le h1
  cases hh : (made n s g).h with
  | true => exact nBck_handle n (by omega) s g w hs hg hh he
  | false => exact nBck_obj n (by omega) s g w hs hg hh he
end Go.Proofs.YtmbkhkijmfogcaaDoor
